/-
  The sets of a schema: which may be; schema's own iterator over them keeps the contract.
-/
import Derived.Test.YtjlhbpacecbfmaaGreatDoorSIs
import Derived.Test.YtjlhbpacecbfmaaGreatDoorSeq
import Derived.Shelf.Abstract
import Derived.Shelf.RegionOpen
import Derived.OwnWalkIn
import Derived.TacticsInMore
import Derived.LoopNIn
import Derived.LoopIn
import Derived.Scope
namespace Go.Proofs.YtjlhbpacecbfmaaGreatDoor
open Go.RowKit Go.Shelf
attribute [local go_sem] Oper.semAt_some

def dupB (l : List Int) (i : Nat) : Bool := decide (firstI l (l.getD i 0) < i)
def setTo (n : Nat) (l : List Int) (k : Nat) : Bool := (List.range k).all fun i => (decide (0 ≤ l.getD i 0) && decide (l.getD i 0 < n)) && !dupB l i
/-- may places be a set's, of so many columns? -/
def setOk (n : Nat) (l : List Int) : Bool := decide (1 ≤ l.length) && (decide (l.length ≤ 4) && setTo n l l.length)
def nullAt (cols : List Col) (l : List Int) (i : Nat) : Bool := (cols.getD (l.getD i 0).toNat col0).u
def nullTo (cols : List Col) (l : List Int) (k : Nat) : Bool := (List.range k).all fun i => !nullAt cols l i
def loopTo (cols : List Col) (first : Bool) (l : List Int) (k : Nat) : Bool := (List.range k).all fun i => !(first && nullAt cols l i) && !dupB l i
def okSet (cols : List Col) (first : Bool) (l : List Int) : Bool := (decide (1 ≤ l.length) && decide (l.length ≤ 4)) && (inAll cols.length l && loopTo cols first l l.length)
theorem all_range_getD (l : List Int) (p : Int → Bool) : ((List.range l.length).all fun i => p (l.getD i 0)) = l.all p := by
  rw [Bool.eq_iff_iff, List.all_eq_true, List.all_eq_true]
  constructor
  · intro h x hx
    obtain ⟨i, hi, rfl⟩ := List.getElem_of_mem hx
    have := h i (List.mem_range.2 hi)
    rwa [List.getD_eq_getElem?_getD, List.getElem?_eq_getElem hi] at this
  · intro h i hi
    rw [List.mem_range] at hi
    rw [List.getD_eq_getElem?_getD, List.getElem?_eq_getElem hi]
    exact h _ (List.getElem_mem hi)
theorem all_and {α : Type} (l : List α) (p q : α → Bool) : (l.all fun i => p i && q i) = (l.all p && l.all q) := by
  induction l with
  | nil => rfl
  | cons a l ih =>
    simp only [List.all_cons]
    rw [ih]
    cases p a <;> cases q a <;> simp
theorem okSet_eq (cols : List Col) (first : Bool) (l : List Int) : okSet cols first l = (setOk cols.length l && (!first || nullTo cols l l.length)) := by
  unfold okSet setOk setTo loopTo nullTo
  rw [all_and, all_and, all_range_getD l (fun x => decide (0 ≤ x) && decide (x < cols.length))]
  unfold inAll
  generalize decide (1 ≤ l.length) = a
  generalize decide (l.length ≤ 4) = b
  generalize (l.all fun x => decide (0 ≤ x) && decide (x < (cols.length : Int))) = c
  generalize ((List.range l.length).all fun i => !dupB l i) = d
  cases first
  · simp only [Bool.false_and, Bool.not_false, Bool.true_or, Bool.and_true]
    rw [show ((List.range l.length).all fun _ => true) = true by rw [List.all_eq_true]; intros; rfl]
    cases a <;> cases b <;> cases c <;> cases d <;> rfl
  · simp only [Bool.true_and, Bool.not_true, Bool.false_or]
    generalize ((List.range l.length).all fun i => !nullAt cols l i) = e
    cases a <;> cases b <;> cases c <;> cases d <;> cases e <;> rfl

/-- a schema's sets, by number -/
def setAt (S : Sch) (i : Nat) : List Int := if i = 0 then S.key else S.uqs.getD (i - 1) []
def setsTo (S : Sch) (k : Nat) : Bool := (List.range k).all fun i => okSet S.cols (i == 0) (setAt S i)
theorem setsTo_succ (S : Sch) (k : Nat) : setsTo S (k + 1) = (setsTo S k && okSet S.cols (k == 0) (setAt S k)) := by
  unfold setsTo
  rw [List.range_succ, List.all_append]
  simp
theorem setsTo_le (S : Sch) (n k : Nat) (h : k ≤ n) (hk : setsTo S k = false) : setsTo S n = false := by
  unfold setsTo at *
  rw [List.all_eq_false] at *
  obtain ⟨x, hx, hp⟩ := hk
  exact ⟨x, by rw [List.mem_range] at *; omega, hp⟩
def hAt (hs : List (Option Addr × Nat)) (j : Nat) : Option Addr × Nat := hs.getD j (none, 0)
def SetsAt (w : World) (oa : Option Addr) (l : List (List Int)) (hs : List (Option Addr × Nat)) : Prop := ∀ (j : Nat) (h : j < l.length), ∃ a, oa = some a ∧ w.cell? (a.add j) = some (.slice (hAt hs j).1 l[j].length (hAt hs j).2) ∧ l[j].length ≤ (hAt hs j).2 ∧ IntsIn w (hAt hs j).1 l[j]
theorem pick_list' {α : Type} {p : Nat → α → Prop} : ∀ (n : Nat), (∀ i, i < n → ∃ v, p i v) → ∃ l : List α, l.length = n ∧ ∀ (i : Nat) (h : i < l.length), p i l[i]
  | 0, _ => ⟨[], rfl, fun i h => absurd h (Nat.not_lt_zero i)⟩
  | n + 1, h => by
    obtain ⟨l, hl, hp⟩ := pick_list' n (fun i hi => h i (by omega))
    obtain ⟨v, hv⟩ := h n (by omega)
    refine ⟨l ++ [v], by simp [hl], fun i hi => ?_⟩
    by_cases hlt : i < l.length
    · rw [List.getElem_append_left hlt]
      exact hp i hlt
    · have : i = n := by simp at hi; omega
      subst this
      rw [List.getElem_append_right (by omega)]
      simpa [hl] using hv
theorem SetsIn.at {w : World} {oa : Option Addr} {l : List (List Int)} (h : SetsIn w oa l) : ∃ hs, SetsAt w oa l hs := by
  obtain ⟨hs, h1, h2⟩ := pick_list' (p := fun j (x : Option Addr × Nat) => ∀ h : j < l.length, ∃ a, oa = some a ∧ w.cell? (a.add j) = some (.slice x.1 l[j].length x.2) ∧ l[j].length ≤ x.2 ∧ IntsIn w x.1 l[j]) l.length (fun i hi => by
    obtain ⟨a, ob, cb, e, hc, hl, hi'⟩ := h i hi
    exact ⟨(ob, cb), fun _ => ⟨a, e, hc, hl, hi'⟩⟩)
  refine ⟨hs, fun j hj => ?_⟩
  have := h2 j (by omega) hj
  unfold hAt
  rw [List.getD_eq_getElem?_getD, List.getElem?_eq_getElem (by omega)]
  exact this
theorem SetsAt.keep {w w' : World} {B : Nat} {oa : Option Addr} {l : List (List Int)} {hs : List (Option Addr × Nat)} (h : SetsAt w oa l hs) (hb : Below B w w') (hB : w.heap.size ≤ B) : SetsAt w' oa l hs := fun j hj => by
  obtain ⟨a, e, hc, hl, hi⟩ := h j hj
  refine ⟨a, e, ?_, hl, hi.keep hb hB⟩
  rw [hb.cell (by have := World.block_lt_of_cell? w _ hc; omega)]
  exact hc

theorem add_block (a : Addr) (n : Nat) : (a.add n).block = a.block := by unfold Addr.add; split <;> rfl
/-- what is handed on: a set's number, and its places -/
def svS (p : SchV) (S : Sch) (hs : List (Option Addr × Nat)) (x : Nat) : Value := if x = 0 then .slice p.ok S.key.length p.ck else .slice (hAt hs (x - 1)).1 (S.uqs.getD (x - 1) []).length (hAt hs (x - 1)).2
def encS (p : SchV) (S : Sch) (hs : List (Option Addr × Nat)) (x : Nat) : Array Value := #[.int .i64 x, svS p S hs x]
theorem encS_next (p : SchV) (S : Sch) (hs : List (Option Addr × Nat)) (k : Nat) (hk : k < S.uqs.length) : encS p S hs (k + 1) = #[.int .i64 (1 + (k : Int)), .slice (hAt hs k).1 S.uqs[k].length (hAt hs k).2] := by
  unfold encS svS
  rw [if_neg (by omega), Nat.add_sub_cancel, List.getD_eq_getElem?_getD, List.getElem?_eq_getElem hk]
  simp
  omega
def SpS (S : Sch) (pre : List Nat) : Prop := ∃ k, pre = List.range k ∧ k ≤ 1 + S.uqs.length
def GS (oa : Option Addr) (l : List (List Int)) (k : Nat) : Prop := (∃ a, oa = some a ∧ k = a.block) ∧ l ≠ []

set_option maxRecDepth 100000 in
set_option maxHeartbeats 2000000 in
theorem lsets_turns (n : Nat) (hn : 1 ≤ n) (p : SchV) (S : Sch) (om : Option Nat) (hs : List (Option Addr × Nat)) (w : World) (hl : S.uqs.length ≤ 1000) (hS : SetsAt w p.ou S.uqs hs) :
    SeqTurns Fence.wide n Tryz.prog 34 #[.agg #[.slice p.oc S.cols.length p.cc, .slice p.ok S.key.length p.ck, .slice p.ou S.uqs.length p.cu, .map om]] #[] (encS p S hs) (GS p.ou S.uqs) (fun xs => xs = List.range (1 + S.uqs.length)) (SpS S) w := fun ll J Jx W hW hJ hY h0 => by
  have HSW := Lib.hid (hS.keep hW (Nat.le_refl _))
  have HJ0 := Lib.hid (hJ [] _ _ h0 ((Below.refl W.heap.size W).alloc (Nat.le_refl _) (.cells #[.slice p.oc S.cols.length p.cc, .slice p.ok S.key.length p.ck, .slice p.ou S.uqs.length p.cu, .map om] 68)))
  have HY0 := hY [] 0 _ HJ0.out ⟨1, rfl, by omega⟩ (by simp)
  rw [show encS p S hs 0 = #[.int .i64 0, .slice p.ok S.key.length p.ck] from rfl] at HY0
  have HY := Lib.hid hY
  have HE := Lib.hid (encS_next p S hs)
  have HSC : Hid (∀ j (h : j < S.uqs.length), ∃ a, p.ou = some a ∧ W.cell? (a.add j) = some (.slice (hAt hs j).1 S.uqs[j].length (hAt hs j).2)) := Lib.hid (fun j h => by
    obtain ⟨a, e, hc, _⟩ := HSW.out j h
    exact ⟨a, e, hc⟩)
  clear hY h0 hS hW HSW HJ0
  obtain ⟨oc, cc, ok, ck, ou, cu⟩ := p
  obtain ⟨cols, key, uqs⟩ := S
  simp only at *
  obtain ⟨fn, tmps, assign, body, hy, hR⟩ := HY0
  simp only [List.nil_append] at hR
  refine callsIn_of_wp Tryz.func34 rfl trivial ?_ rfl
  simp only [Tryz.ntmps34, List.size_toArray, List.length_cons, List.length_nil, Nat.reduceAdd, Nat.reduceSub, Array.replicate_succ, Array.replicate_zero, List.push_toArray, List.append_toArray, List.nil_append, List.cons_append]
  gi_wp2
  refine hR.mono ?_
  rintro e w2 (⟨rfl, hJ2, hk2⟩ | ⟨rfl, hJx2⟩)
  · have HJ2 := Lib.hid hJ2
    have hs2 := hk2.size
    have hc2 : w2.cell? ⟨W.heap.size, 2, none⟩ = some (.slice ou uqs.length cu) := (World.cell?_of_block (a := ⟨W.heap.size, 2, none⟩) (hk2.same W.heap.size (by simp) (.inl (Nat.le_refl _)))).trans (by simp [go_sem])
    have HSC2 : Hid (∀ j (h : j < uqs.length), ∃ a, ou = some a ∧ w2.cell? (a.add j) = some (.slice (hAt hs j).1 uqs[j].length (hAt hs j).2)) := Lib.hid (fun j h => by
      obtain ⟨a, e, hc⟩ := HSC.out j h
      refine ⟨a, e, ?_⟩
      have hlt := World.block_lt_of_cell? W _ hc
      rw [World.cell?_of_block (hk2.same (a.add j).block (by simp; omega) (.inr ⟨⟨a, e, by rw [add_block]⟩, fun e0 => by rw [show uqs = [] from e0] at h; cases h⟩)), World.cell?_alloc_lt _ _ _ hlt]
      exact hc)
    clear hJ2 hk2 HSC hy hR
    gi_wp2
    gi_loopw [16] (fun i wr => ∃ k : Nat, k ≤ uqs.length ∧ i = .int .i64 k ∧ Hid (J (List.range (k + 1)) wr) ∧ Hid (∀ j (h : j < uqs.length), ∃ a, ou = some a ∧ wr.cell? (a.add j) = some (.slice (hAt hs j).1 uqs[j].length (hAt hs j).2)) ∧ W.heap.size < wr.heap.size) (fun i _ => uqs.length - (intOf i).toNat)
    case atStart => exact ⟨0, Nat.zero_le _, rfl, HJ2, HSC2, by simp at hs2; omega⟩
    case round =>
      obtain ⟨k, hk, rfl, HJ3, HSC3, hsz⟩ := hrel
      clear hc2 HSC2 HJ2
      by_cases hlt : k < uqs.length
      · obtain ⟨a, rfl, hcell⟩ := HSC3.out k hlt
        have HYk := HY.out (List.range (k + 1)) (k + 1) wr HJ3.out ⟨k + 2, by rw [List.range_succ (n := k + 1)], by show k + 2 ≤ 1 + uqs.length; omega⟩ (by omega)
        rw [HE.out k hlt, ← List.range_succ (n := k + 1)] at HYk
        obtain ⟨fn, tmps, assign, body, hy, hR⟩ := HYk
        gi_wp2
        refine hR.mono ?_
        rintro e w4 (⟨rfl, hJ4, hk4⟩ | ⟨rfl, hJx4⟩)
        · have HJ4 := Lib.hid hJ4
          have hs4 := hk4.size
          have HSC4 : Hid (∀ j (h : j < uqs.length), ∃ a', some a = some a' ∧ w4.cell? (a'.add j) = some (.slice (hAt hs j).1 uqs[j].length (hAt hs j).2)) := Lib.hid (fun j h => by
            obtain ⟨a', e, hc⟩ := HSC3.out j h
            refine ⟨a', e, ?_⟩
            have hlt := World.block_lt_of_cell? wr _ hc
            rw [World.cell?_of_block (hk4.same (a'.add j).block hlt (.inr ⟨⟨a', e, by rw [add_block]⟩, fun e0 => by rw [show uqs = [] from e0] at h; cases h⟩))]
            exact hc)
          clear hJ4 hk4 hy hR hcell HJ3 HSC3
          gi_wp2
          go_roundw
          case rel => exact ⟨k + 1, by omega, by go_num, HJ4, HSC4, by omega⟩
          case measure => simp [intOf]; omega
        · have HJ4 := Lib.hid hJx4
          clear hJx4 hy hR hcell
          gi_wp2
          refine bodyPost_ret (results_none rfl _ _ _) rfl ?_
          exact ⟨⟨_, rfl⟩, .inr ⟨List.range (k + 1 + 1), ⟨k + 2, rfl, by show k + 2 ≤ 1 + uqs.length; omega⟩, HJ4.out⟩⟩
      · obtain rfl : k = uqs.length := by omega
        gi_wp2
        go_end0
        exact ⟨⟨_, rfl⟩, .inl ⟨_, by rw [Nat.add_comm], HJ3.out⟩⟩
  · have HJ4 := Lib.hid hJx2
    clear hJx2 hy hR
    gi_wp2
    refine bodyPost_ret (results_none rfl _ _ _) rfl ?_
    exact ⟨⟨_, rfl⟩, .inr ⟨[0], ⟨1, rfl, by omega⟩, HJ4.out⟩⟩
end Go.Proofs.YtjlhbpacecbfmaaGreatDoor
