/-
  Schemas in memory; the place of a column: schema.Place, swingbridgeref03.Place.
-/
import Derived.Test.YtjlhbpacecbfmaaGreatDoorSCol
import Derived.Test.YtjlhbpacecbfmaaGreatDoorVVl
import Derived.Test.YtjlhbpacecbfmaaGreatDoorBelowQ
namespace Go.Proofs.YtjlhbpacecbfmaaGreatDoor
open Go.RowKit

def ColAt (w : World) (a : Addr) (c : Col) : Prop := w.cell? a = some (.string c.n) ∧ w.cell? ⟨a.block, a.off + 1, none⟩ = some (.int .i64 c.t) ∧ w.cell? ⟨a.block, a.off + 2, none⟩ = some (.int .i64 c.z) ∧ w.cell? ⟨a.block, a.off + 3, none⟩ = some (.bool c.u)
def ColsIn (w : World) (oa : Option Addr) (l : List Col) : Prop := ∀ (j : Nat) (h : j < l.length), ∃ a, oa = some a ∧ ColAt w (a.add (j * 4)) l[j]
def IntsIn (w : World) (oa : Option Addr) (l : List Int) : Prop := ∀ (j : Nat) (h : j < l.length), ∃ a, oa = some a ∧ w.cell? (a.add j) = some (.int .i64 l[j])
def SetsIn (w : World) (oa : Option Addr) (l : List (List Int)) : Prop := ∀ (j : Nat) (h : j < l.length), ∃ a ob cb, oa = some a ∧ w.cell? (a.add j) = some (.slice ob l[j].length cb) ∧ l[j].length ≤ cb ∧ IntsIn w ob l[j]

theorem ColAt.lt {w : World} {a : Addr} {c : Col} (h : ColAt w a c) : a.block < w.heap.size := World.block_lt_of_cell? w a h.1
theorem ColAt.keep {w w' : World} {B : Nat} {a : Addr} {c : Col} (h : ColAt w a c) (hb : Below B w w') (hB : w.heap.size ≤ B) : ColAt w' a c := by
  have hl := h.lt
  refine ⟨?_, ?_, ?_, ?_⟩
  · rw [hb.cell (by omega)]; exact h.1
  · rw [hb.cell (by simp; omega)]; exact h.2.1
  · rw [hb.cell (by simp; omega)]; exact h.2.2.1
  · rw [hb.cell (by simp; omega)]; exact h.2.2.2
theorem ColsIn.keep {w w' : World} {B : Nat} {oa : Option Addr} {l : List Col} (h : ColsIn w oa l) (hb : Below B w w') (hB : w.heap.size ≤ B) : ColsIn w' oa l := fun j hj => by
  obtain ⟨a, e, hc⟩ := h j hj
  exact ⟨a, e, hc.keep hb hB⟩
theorem IntsIn.keep {w w' : World} {B : Nat} {oa : Option Addr} {l : List Int} (h : IntsIn w oa l) (hb : Below B w w') (hB : w.heap.size ≤ B) : IntsIn w' oa l := fun j hj => by
  obtain ⟨a, e, hc⟩ := h j hj
  refine ⟨a, e, ?_⟩
  rw [hb.cell (by have := World.block_lt_of_cell? w _ hc; omega)]
  exact hc
theorem SetsIn.keep {w w' : World} {B : Nat} {oa : Option Addr} {l : List (List Int)} (h : SetsIn w oa l) (hb : Below B w w') (hB : w.heap.size ≤ B) : SetsIn w' oa l := fun j hj => by
  obtain ⟨a, ob, cb, e, hc, hl, hi⟩ := h j hj
  refine ⟨a, ob, cb, e, ?_, hl, hi.keep hb hB⟩
  rw [hb.cell (by have := World.block_lt_of_cell? w _ hc; omega)]
  exact hc

/-- a schema -/
structure Sch where
  cols : List Col
  key : List Int
  uqs : List (List Int)
/-- a schema's value: where its lists lie -/
structure SchV where
  oc : Option Addr
  cc : Nat
  ok : Option Addr
  ck : Nat
  ou : Option Addr
  cu : Nat
def SchV.cols (p : SchV) (S : Sch) : Value := .slice p.oc S.cols.length p.cc
def SchV.key (p : SchV) (S : Sch) : Value := .slice p.ok S.key.length p.ck
def SchV.uqs (p : SchV) (S : Sch) : Value := .slice p.ou S.uqs.length p.cu
structure SchIn (w : World) (p : SchV) (S : Sch) : Prop where
  cols : ColsIn w p.oc S.cols
  key : IntsIn w p.ok S.key
  uqs : SetsIn w p.ou S.uqs
  kcap : S.key.length ≤ p.ck
theorem SchIn.keep {w w' : World} {B : Nat} {p : SchV} {S : Sch} (h : SchIn w p S) (hb : Below B w w') (hB : w.heap.size ≤ B) : SchIn w' p S :=
  ⟨h.cols.keep hb hB, h.key.keep hb hB, h.uqs.keep hb hB, h.kcap⟩
/-- no more than is looked at -/
structure Sch.few (S : Sch) : Prop where
  cols : S.cols.length ≤ 12
  names : ∀ c ∈ S.cols, c.n.size ≤ 40
  key : S.key.length ≤ 8
  uqs : S.uqs.length ≤ 6
  places : ∀ l ∈ S.uqs, l.length ≤ 8

def isN (name : ByteArray) (c : Col) : Bool := c.n.toList == name.toList
def firstFrom (name : ByteArray) : List Col → Int → Int
  | [], _ => -1
  | c :: l, i => if isN name c = true then i else firstFrom name l (i + 1)
/-- the place of the first column of that name; -1 -/
def firstC (l : List Col) (name : ByteArray) : Int := firstFrom name l 0
def FRel (l : List Col) (name : ByteArray) (k : Nat) : Prop := firstC l name = firstFrom name (l.drop k) k
theorem FRel.zero (l : List Col) (name : ByteArray) : FRel l name 0 := rfl
theorem FRel.next {l : List Col} {name : ByteArray} {k : Nat} {c : Col} (h : FRel l name k) (hk : k < l.length) (hc : l[k] = c) (hn : isN name c = false) : FRel l name (k + 1) := by
  unfold FRel at *
  rw [h, List.drop_eq_getElem_cons hk, hc]
  simp [firstFrom, hn]
theorem FRel.hit {l : List Col} {name : ByteArray} {k : Nat} {c : Col} (h : FRel l name k) (hk : k < l.length) (hc : l[k] = c) (hn : isN name c = true) : firstC l name = k := by
  unfold FRel at *
  rw [h, List.drop_eq_getElem_cons hk, hc]
  simp [firstFrom, hn]
theorem FRel.none {l : List Col} {name : ByteArray} {k : Nat} (h : FRel l name k) (hk : l.length ≤ k) : firstC l name = -1 := by
  unfold FRel at *
  rw [h, List.drop_eq_nil_of_le hk]
  rfl

set_option maxHeartbeats 400000 in
theorem first1_any (n : ByteArray) (t z : Int) (u : Bool) (p : Nat) (name : ByteArray) (w : World) (h0 : w.cell? ⟨p, 0, none⟩ = some (.string name)) :
    Calls Tryz.prog 55 #[.agg #[.string n, .int .i64 t, .int .i64 z, .bool u], .pointer (some ⟨p, 0, none⟩)] w fun e w' => e = .returned (.bool (isN name ⟨n, t, z, u⟩)) ∧ Below w.heap.size w w' := by
  have hp := cell_lt h0
  unfold isN
  cases hb : n.toList == name.toList
  all_goals
    go_enter Tryz.func55, Tryz.ntmps55
    go_wp2
    go_ret
    exact ⟨rfl, by go_grown⟩

set_option maxRecDepth 100000 in
set_option maxHeartbeats 2000000 in
theorem IndexFuncC_any (oa : Option Addr) (cap : Nat) (l : List Col) (p : Nat) (name : ByteArray) (w : World) (hl : l.length ≤ 1000) (hc : ColsIn w oa l) (h0 : w.cell? ⟨p, 0, none⟩ = some (.string name)) :
    Calls Tryz.prog 54 #[.slice oa l.length cap, .func (.func 55) #[] #[.pointer (some ⟨p, 0, none⟩)]] w fun e w' => e = .returned (.int .i64 (firstC l name)) ∧ Below w.heap.size w w' := by
  have H0 := Lib.hid h0
  clear h0
  go_enter Tryz.func54, Tryz.ntmps54
  go_wp2
  go_loopw [8] (fun i wr => ∃ k : Nat, k ≤ l.length ∧ i = .int .i64 k ∧ Hid (FRel l name k) ∧ Below w.heap.size w wr) (fun i _ => l.length - (intOf i).toNat)
  case atStart => exact ⟨0, Nat.zero_le _, rfl, Lib.hid (FRel.zero _ _), Below.refl _ _⟩
  case round =>
    obtain ⟨k, hk, rfl, HK, hbw⟩ := hrel
    by_cases hlt : k < l.length
    · obtain ⟨a, rfl, hat⟩ := hc k hlt
      obtain ⟨c, hcc⟩ : ∃ c, l[k] = c := ⟨_, rfl⟩
      rw [hcc] at hat
      obtain ⟨c0, c1, c2, c3⟩ := hat.keep hbw (Nat.le_refl _)
      have HC := Lib.hid (first1_any c.n c.t c.z c.u p name wr (by rw [hbw.cell (cell_lt H0.out)]; exact H0.out))
      clear hat hc
      cases hn : isN name c
      · have HN := Lib.hid (HK.out.next hlt hcc hn)
        have HQ := Lib.hid hn
        clear hn hcc
        go_wp2_with (first | (go_at_call 55; refine HC.out.mono ?_; rintro e w' ⟨he, hb⟩; rw [show isN name ⟨c.n, c.t, c.z, c.u⟩ = false from HQ.out] at he; subst he))
        go_roundw
        case rel => exact ⟨k + 1, by omega, by go_num, HN, hbw.trans (hb.mono hbw.size)⟩
        case measure => simp [intOf]; omega
      · have HN := Lib.hid (HK.out.hit hlt hcc hn)
        have HQ := Lib.hid hn
        clear hn hcc
        go_wp2_with (first | (go_at_call 55; refine HC.out.mono ?_; rintro e w' ⟨he, hb⟩; rw [show isN name ⟨c.n, c.t, c.z, c.u⟩ = true from HQ.out] at he; subst he))
        go_ret
        exact ⟨by rw [HN.out]; rfl, hbw.trans (hb.mono hbw.size)⟩
    · have HN := Lib.hid (HK.out.none (by omega))
      clear hc
      go_wp2
      go_ret
      exact ⟨by rw [HN.out]; rfl, hbw⟩

set_option maxRecDepth 100000 in
set_option maxHeartbeats 2000000 in
theorem first_any (oc : Option Addr) (cc : Nat) (l : List Col) (ok : Option Addr) (nk ck : Nat) (ou : Option Addr) (nu cu : Nat) (om : Option Nat) (name : ByteArray) (w : World) (hl : l.length ≤ 1000) (hc : ColsIn w oc l) :
    Calls Tryz.prog 31 #[.agg #[.slice oc l.length cc, .slice ok nk ck, .slice ou nu cu, .map om], .string name] w fun e w' => e = .returned (.int .i64 (firstC l name)) ∧ Below w.heap.size w w' := by
  have H : Hid (∀ A W, W = ((w.alloc A).alloc (.cells #[.string name] 9)) → Calls Tryz.prog 54 #[.slice oc l.length cc, .func (.func 55) #[] #[.pointer (some ⟨w.heap.size + 1, 0, none⟩)]] W fun e w' => e = .returned (.int .i64 (firstC l name)) ∧ Below W.heap.size W w') :=
    Lib.hid (fun A W hW => by
      subst hW
      refine IndexFuncC_any oc cc l (w.heap.size + 1) name _ hl (hc.keep (((Below.refl _ _).alloc (Nat.le_refl _) _).alloc (by simp) _) (Nat.le_refl _)) ?_
      simp)
  clear hc hl
  go_enter Tryz.func31, Tryz.ntmps31
  go_wp2_with (first | (go_at_call 54; refine (H.out _ _ rfl).mono ?_; rintro e w' ⟨rfl, hb⟩))
  go_ret
  exact ⟨rfl, (((Below.refl _ _).alloc (Nat.le_refl _) _).alloc (by simp) _).trans (hb.mono (by simp; omega))⟩

set_option maxRecDepth 100000 in
set_option maxHeartbeats 2000000 in
theorem Place_any (p : SchV) (S : Sch) (name : ByteArray) (w : World) (hl : S.cols.length ≤ 1000) (hS : SchIn w p S) :
    Calls Tryz.prog 12 #[.agg #[.slice p.oc S.cols.length p.cc, .slice p.ok S.key.length p.ck, .slice p.ou S.uqs.length p.cu], .string name] w fun e w' => e = .returned (.tuple #[.int .i64 (max (firstC S.cols name) 0), .bool (decide (0 ≤ firstC S.cols name))]) ∧ Below w.heap.size w w' := by
  have H := Lib.hid (fun A => first_any p.oc p.cc S.cols p.ok S.key.length p.ck p.ou S.uqs.length p.cu none name (w.alloc A) hl (hS.cols.keep ((Below.refl _ _).alloc (Nat.le_refl _) _) (Nat.le_refl _)))
  generalize firstC S.cols name = m at H
  clear hS hl
  by_cases h0 : 0 ≤ m
  · have HM := Lib.hid (show max m 0 = m by omega)
    go_enter Tryz.func12, Tryz.ntmps12
    go_wp2_with (first | (go_at_call 31; refine (H.out _).mono ?_; rintro e w' ⟨rfl, hb⟩))
    all_goals first
      | (exfalso; omega)
      | (go_ret2; exact ⟨by rw [HM.out]; simp [h0], ((Below.refl _ _).alloc (Nat.le_refl _) _).trans (hb.mono (by simp))⟩)
  · have HM := Lib.hid (show max m 0 = 0 by omega)
    go_enter Tryz.func12, Tryz.ntmps12
    go_wp2_with (first | (go_at_call 31; refine (H.out _).mono ?_; rintro e w' ⟨rfl, hb⟩))
    all_goals first
      | (exfalso; omega)
      | (go_ret2; exact ⟨by rw [HM.out]; simp, ((Below.refl _ _).alloc (Nat.le_refl _) _).trans (hb.mono (by simp))⟩)

set_option maxRecDepth 100000 in
set_option maxHeartbeats 2000000 in
theorem rPlace_any (p : SchV) (S : Sch) (name : ByteArray) (w : World) (hl : S.cols.length ≤ 1000) (hS : SchIn w p S) :
    Calls Tryz.prog 17 #[.agg #[.slice p.oc S.cols.length p.cc, .slice p.ok S.key.length p.ck, .slice p.ou S.uqs.length p.cu], .string name] w fun e w' => e = .returned (.int .i64 (firstC S.cols name)) ∧ Below w.heap.size w w' := by
  have hc := hS.cols
  clear hS
  obtain ⟨oc, cc, ok, ck, ou, cu⟩ := p
  obtain ⟨l, key, uqs⟩ := S
  simp only at hc hl ⊢
  go_enter Tryz.func17, Tryz.ntmps17
  go_wp2
  go_loop [5] (fun i => ∃ k : Nat, k ≤ l.length ∧ i = .int .i64 k ∧ Hid (FRel l name k)) (fun i => l.length - (intOf i).toNat)
  case atStart => exact ⟨0, Nat.zero_le _, rfl, Lib.hid (FRel.zero _ _)⟩
  case round =>
    obtain ⟨k, hk, rfl, HK⟩ := hrel
    by_cases hlt : k < l.length
    · obtain ⟨a, rfl, hat⟩ := hc k hlt
      obtain ⟨c, hcc⟩ : ∃ c, l[k] = c := ⟨_, rfl⟩
      rw [hcc] at hat
      have hlt2 := hat.lt
      obtain ⟨c0, c1, c2, c3⟩ := hat
      clear hc
      cases hn : isN name c
      · have HN := Lib.hid (HK.out.next hlt hcc hn)
        have hq : (c.n.toList == name.toList) = false := hn
        clear hn hcc
        go_wp2
        go_round
        case rel => exact ⟨k + 1, by omega, by go_num, HN⟩
        case measure => simp [intOf]; omega
      · have HN := Lib.hid (HK.out.hit hlt hcc hn)
        have hq : (c.n.toList == name.toList) = true := hn
        clear hn hcc
        go_wp2
        go_ret
        exact ⟨by rw [HN.out]; rfl, by go_grown⟩
    · have HN := Lib.hid (HK.out.none (by omega))
      clear hc
      go_wp2
      go_ret
      exact ⟨by rw [HN.out]; rfl, by go_grown⟩
end Go.Proofs.YtjlhbpacecbfmaaGreatDoor
