/-
  schema.Sets.
-/
import Derived.Test.YtocmjlnhcloccaaGreatDoorBase
import Derived.RangeFuncNested
import Derived.RangeFuncBound
import Derived.RangeFuncCalls
import Derived.RangeFuncLeaves
import Derived.Test.YtocmjlnhcloccaaGreatDoorSSch
import Derived.Deep.OwnRows
import Derived.Lib.SliceRun
namespace Go.Proofs.YtocmjlnhcloccaaGreatDoor
open Go.RowKit

/-- the iterator's m first blocks, and where G holds, lie as they lay -/
structure KeepM (B m : Nat) (G : Nat → Prop) (W W' : World) : Prop where
  size : W.heap.size ≤ W'.heap.size
  same : ∀ k, k < W.heap.size → ((B ≤ k ∧ k < B + m) ∨ G k) → W'.heap[k]? = W.heap[k]?
theorem KeepM.refl (B m : Nat) (G : Nat → Prop) (W : World) : KeepM B m G W W := ⟨Nat.le_refl _, fun _ _ _ => rfl⟩
theorem KeepM.trans {B m : Nat} {G : Nat → Prop} {X Y Z : World} (h : KeepM B m G X Y) (k : KeepM B m G Y Z) : KeepM B m G X Z :=
  ⟨Nat.le_trans h.size k.size, fun i hi hG => (k.same i (Nat.lt_of_lt_of_le hi h.size) hG).trans (h.same i hi hG)⟩
theorem KeepM.of_below {B m : Nat} {G : Nat → Prop} {X Y : World} (h : Below X.heap.size X Y) : KeepM B m G X Y := ⟨h.size, fun k hk _ => h.block k hk⟩
theorem KeepM.setCell {B m : Nat} {G : Nat → Prop} {X Y : World} (h : KeepM B m G X Y) {p : Addr} (hp : ¬ (B ≤ p.block ∧ p.block < B + m)) (hG : ¬ G p.block) (u : Value) : KeepM B m G X (Y.setCell p u) :=
  h.trans ⟨by simp [World.setCell], fun k _ hk => Below.heap_setCell _ _ _ _ (fun e => by subst e; rcases hk with hk | hk; exact hp hk; exact hG hk)⟩
theorem KeepM.alloc {B m : Nat} {G : Nat → Prop} {X Y : World} (h : KeepM B m G X Y) (o : Obj) : KeepM B m G X (Y.alloc o) :=
  h.trans ⟨by simp, fun k hk _ => Below.heap_alloc _ _ _ hk⟩
/-- what is said of the world stays where blocks come, and where a loop's record at or behind B turns -/
structure Still {β : Type} (B : Nat) (J : β → World → Prop) : Prop where
  ext : ∀ s A A', J s A → Below A.heap.size A A' → J s A'
  put : ∀ s A l r o, B ≤ l → J s A → A.heap[l]? = some (.loop r) → J s (A.putObj l o)
/-- THE ITERATOR's CONTRACT -/
def SeqTurnsX {α : Type} (F : Fence) (n : Nat) (P : Program) (g : Nat) (fb lb : Array Value) (encs : α → Array Value) (G : Nat → Prop) (m : Nat) (S Sp : List α → Prop) (Fx : α → World → Prop) (w : World) : Prop :=
  ∀ (l : Nat) (J Jx : List α → World → Prop) (W : World), Below w.heap.size w W → Still W.heap.size J → Still W.heap.size Jx →
    (∀ pre x W1, J pre W1 → Sp (pre ++ [x]) → Fx x W1 → W.heap.size + m ≤ W1.heap.size → YieldAt F (n - 1) P l (encs x) W1 fun e W' =>
      (e = .returned (.bool true) ∧ J (pre ++ [x]) W' ∧ KeepM W.heap.size m G W1 W') ∨ (e = .returned (.bool false) ∧ Jx (pre ++ [x]) W' ∧ KeepM W.heap.size m G W1 W')) →
    J [] W →
    CallsIn F n P g ((fb ++ #[.func (.yield l) #[] #[]]) ++ lb) W fun e W' => (∃ v, e = .returned v) ∧ ((∃ xs, S xs ∧ J xs W') ∨ (∃ pre, Sp pre ∧ Jx pre W'))
/-- how a round's body may be left -/
def turnPostX {α : Type} (B m : Nat) (G : Nat → Prop) (I : List α → World → Prop) (Ix : Code → List α → World → Prop) (xs : List α) (W : World) : Exit → Act → World → Prop
  | .normal, _, W' => KeepM B m G W W' ∧ I xs W'
  | .ret, _, W' => KeepM B m G W W' ∧ Ix .ret xs W'
  | .exit id, _, W' => KeepM B m G W W' ∧ Ix (.exit id) xs W'
  | .goto _, _, _ => False
  | .panic _, _, _ => False
  | .outgrown, _, _ => False
variable {F : Fence} {n : Nat} {P : Program}
/-- THE LOOP's LAW -/
theorem wpIn_turnsX {α : Type} {g : Operand} {ps : Array Tmp} {assign body : Code} {Q : Exit → Act → World → Prop} {a : Act} {w : World}
    (hro : F.round = none) (h1 : 1 ≤ n) {gf : Nat} {fb lb : Array Value} (hg : a.eval g = .func (.func gf) fb lb) (hFg : F.fn gf) (eg : ∀ args w, (callFunc gf args).run P w = .ok (.enter gf args) w)
    {encs : α → Array Value} {G : Nat → Prop} {m : Nat} {S Sp : List α → Prop} {Fx : α → World → Prop} (hseq : SeqTurnsX F (n - 1) P gf fb lb encs G m S Sp Fx w) (hG : ∀ k, G k → k < w.heap.size) (hps : ∀ x, (encs x).size = ps.size)
    (I : List α → World → Prop) (Ix : Code → List α → World → Prop) (hI : Still w.heap.size I) (hIx : ∀ c, Still w.heap.size (Ix c)) (hFx : ∀ x W l r o, w.heap.size ≤ l → Fx x W → W.heap[l]? = some (.loop r) → Fx x (W.putObj l o)) (h0 : I [] w) (a₁ : α → Act)
    (hassign : ∀ (l : Nat) (x : α) (W : World) (K : Act → World → Prop), K (a₁ x) W →
      assign.wpIn (F.inRound l) (n - 1 - 1) P (Exit.then K (fun _ _ _ => False)) { tmps := (ps.zip (encs x)).foldl (fun t (p, v) => t.setIfInBounds p v) a.tmps, defers := [] } W)
    (hbody : ∀ (l : Nat) (pre : List α) (x : α) (W : World), I pre W → Sp (pre ++ [x]) → Fx x W → w.heap.size + 2 + m ≤ W.heap.size → body.wpIn (F.inRound l) (n - 1 - 1) P (turnPostX w.heap.size (m + 2) G I Ix (pre ++ [x]) W) (a₁ x) W)
    (hdone : ∀ (xs : List α) (W : World), S xs → I xs W → W.heap[w.heap.size]? = some (.deferred (some [])) → Q .normal { a with defers := { target := .collected w.heap.size, args := #[] } :: a.defers } W)
    (hstop : ∀ (c : Code) (pre : List α) (W : World), Sp pre → Ix c pre W → W.heap[w.heap.size]? = some (.deferred (some [])) → c.wpIn F n P Q { a with defers := { target := .collected w.heap.size, args := #[] } :: a.defers } W) :
    (Code.rangeFunc g ps assign body).wpIn F n P Q a w := by
  refine wpIn_rangeFunc fun fn hfn => ?_
  rw [hro]
  obtain ⟨B, hB⟩ : ∃ B, w.heap.size = B := ⟨_, rfl⟩
  rw [hB] at hI hIx hFx hbody hdone hstop
  obtain ⟨rec, hrec⟩ : ∃ rec : LoopState → Option Code → Obj, rec = fun st pe => .loop { state := st, pending := pe, fn, tmps := a.tmps, params := ps, assign, body, defers := B } := ⟨_, rfl⟩
  obtain ⟨W1, hW1⟩ : ∃ W1, (w.alloc (.deferred (some []))).alloc (rec .ready none) = W1 := ⟨_, rfl⟩
  have hsz : W1.heap.size = B + 2 := by rw [← hW1, ← hB]; simp
  have hb1 : Below B w W1 := by
    rw [← hW1]
    exact ((Below.refl _ w).alloc (by omega) _).alloc (by simp; omega) _
  have hL1 : W1.heap[B + 1]? = some (rec .ready none) := by
    rw [← hW1, ← hB]
    have := World.alloc_heap_new (w.alloc (.deferred (some []))) (rec .ready none)
    rwa [World.size_alloc] at this
  have hD1 : W1.heap[B]? = some (.deferred (some [])) := by
    rw [← hW1, ← hB]
    exact (Below.heap_alloc _ _ _ (by simp)).trans (World.alloc_heap_new w _)
  refine ⟨B + 1, [{ target := .collected B, args := #[] }], W1, { target := .fn (.func gf) lb, args := fb ++ #[.func (.yield (B + 1)) #[] #[]] }, W1, gf, (fb ++ #[.func (.yield (B + 1)) #[] #[]]) ++ lb, W1, ?_, ?_, ?_, ?_, fun _ => h1, ?_⟩
  · rw [← hW1, hrec, ← hB]
    exact run_enterLoop_outer _ _ _ _ _
  · simp only [resolve, hg]
    simp [go_sem]
  · intro f' hf'
    simp [Target.leads] at hf'
    exact hf' ▸ hFg
  · simp [invoke, go_sem, eg]
  refine (hseq (B + 1) (fun pre W => I pre W ∧ W.heap[B + 1]? = some (rec .ready none) ∧ W.heap[B]? = some (.deferred (some [])))
    (fun pre W => ∃ c, Ix c pre W ∧ W.heap[B + 1]? = some (rec .done (some c)) ∧ W.heap[B]? = some (.deferred (some []))) W1 (by rw [hB]; exact hb1) ⟨?_, ?_⟩ ⟨?_, ?_⟩ ?_ ⟨hI.ext _ _ _ h0 (by rw [hB]; exact hb1), hL1, hD1⟩).mono ?_
  · rintro s A A' ⟨hi, hl, hd⟩ hb
    exact ⟨hI.ext _ _ _ hi hb, (hb.block _ (Array.getElem?_eq_some_iff.1 hl).1).trans hl, (hb.block _ (Array.getElem?_eq_some_iff.1 hd).1).trans hd⟩
  · rintro s A l r o hlo ⟨hi, hl, hd⟩ hr
    rw [hsz] at hlo
    exact ⟨hI.put _ _ _ _ _ (by omega) hi hr, (World.putObj_heap_other (by omega)).trans hl, (World.putObj_heap_other (by omega)).trans hd⟩
  · rintro s A A' ⟨c, hi, hl, hd⟩ hb
    exact ⟨c, (hIx c).ext _ _ _ hi hb, (hb.block _ (Array.getElem?_eq_some_iff.1 hl).1).trans hl, (hb.block _ (Array.getElem?_eq_some_iff.1 hd).1).trans hd⟩
  · rintro s A l r o hlo ⟨c, hi, hl, hd⟩ hr
    rw [hsz] at hlo
    exact ⟨c, (hIx c).put _ _ _ _ _ (by omega) hi hr, (World.putObj_heap_other (by omega)).trans hl, (World.putObj_heap_other (by omega)).trans hd⟩
  · rintro pre x W ⟨hi, hl, hd⟩ hsp hfx hsz2
    rw [hsz] at hsz2 ⊢
    have hl' := hl
    rw [hrec] at hl'
    have hy := run_yield (P := P) (args := encs x) hl' (hps x)
    refine ⟨fn, _, assign, body, hy, roundIn_of_wpIn hfn (hassign _ x W _ ⟨_, run_beginRound hl' rfl, ?_⟩)⟩
    have kp : ∀ (V : World) (o : Obj), B + 2 ≤ V.heap.size → KeepM (B + 2) m G V (V.putObj (B + 1) o) := fun V o hV =>
      ⟨by simp, fun k _ hk => World.putObj_heap_other (by rcases hk with hk | hk; omega; have := hG k hk; omega)⟩
    have mv : ∀ (V V' : World), KeepM B (m + 2) G V V' → KeepM (B + 2) m G V V' := fun V V' h => ⟨h.size, fun k hk hh => h.same k hk (hh.imp_left (fun h => by omega))⟩
    have hk2 := kp W (rec .busy none) (by omega)
    have hl2 : (W.putObj (B + 1) (rec .busy none)).heap[B + 1]? = some (rec .busy none) := World.putObj_heap_same (by omega)
    have hd2 : (W.putObj (B + 1) (rec .busy none)).heap[B]? = some (.deferred (some [])) := (World.putObj_heap_other (by omega)).trans hd
    have hi2 : I pre (W.putObj (B + 1) (rec .busy none)) := hI.put _ _ _ _ _ (by omega) hi hl'
    have hx2 : Fx x (W.putObj (B + 1) (rec .busy none)) := hFx _ _ _ _ _ (by omega) hfx hl'
    have hs2 : B + 2 + m ≤ (W.putObj (B + 1) (rec .busy none)).heap.size := by simp; omega
    rw [hrec] at hk2 hl2 hd2 hi2 hx2 hs2
    replace hs2 : B + 2 + m ≤ (W.putObj (B + 1) (.loop { state := .busy, pending := none, fn, tmps := a.tmps, params := ps, assign, body, defers := B })).heap.size := hs2
    refine wpIn_mono (hbody _ pre x _ hi2 hsp hx2 hs2) ?_
    have fin : ∀ (jump : Option Code) (W3 : World), KeepM B (m + 2) G (W.putObj (B + 1) (.loop { state := .busy, pending := none, fn, tmps := a.tmps, params := ps, assign, body, defers := B })) W3 →
        (∃ r, W3.heap[B + 1]? = some (.loop r)) ∧ (Instr.endRound (B + 1) jump).run P W3 = .ok (.bool jump.isNone) (W3.putObj (B + 1) (rec (if jump.isNone then .ready else .done) jump)) ∧ B + 2 ≤ W3.heap.size ∧
        (W3.putObj (B + 1) (rec (if jump.isNone then .ready else .done) jump)).heap[B + 1]? = some (rec (if jump.isNone then .ready else .done) jump) ∧
        (W3.putObj (B + 1) (rec (if jump.isNone then .ready else .done) jump)).heap[B]? = some (.deferred (some [])) := fun jump W3 hk3 => by
      have hl3 := (hk3.same (B + 1) (by omega) (.inl (by omega))).trans hl2
      have hd3 := (hk3.same B (by omega) (.inl (by omega))).trans hd2
      have hs3 := hk3.size
      have he := run_endRound (P := P) jump hl3
      rw [hrec]
      exact ⟨⟨_, hl3⟩, he, by omega, World.putObj_heap_same (by omega), (World.putObj_heap_other (by omega)).trans hd3⟩
    rintro e a3 W3 hp
    cases e with
    | normal =>
      obtain ⟨hk3, hi3⟩ := hp
      obtain ⟨⟨r3, hr3⟩, hr, hs3, hl4, hd4⟩ := fin none W3 hk3
      exact ⟨_, _, hr, .inl ⟨rfl, ⟨hI.put _ _ _ _ _ (by omega) hi3 hr3, hl4, hd4⟩, (hk2.trans (mv _ _ hk3)).trans (kp _ _ hs3)⟩⟩
    | ret =>
      obtain ⟨hk3, hi3⟩ := hp
      obtain ⟨⟨r3, hr3⟩, hr, hs3, hl4, hd4⟩ := fin (some .ret) W3 hk3
      exact ⟨_, _, hr, .inr ⟨rfl, ⟨.ret, (hIx _).put _ _ _ _ _ (by omega) hi3 hr3, hl4, hd4⟩, (hk2.trans (mv _ _ hk3)).trans (kp _ _ hs3)⟩⟩
    | exit id =>
      obtain ⟨hk3, hi3⟩ := hp
      obtain ⟨⟨r3, hr3⟩, hr, hs3, hl4, hd4⟩ := fin (some (.exit id)) W3 hk3
      exact ⟨_, _, hr, .inr ⟨rfl, ⟨.exit id, (hIx _).put _ _ _ _ _ (by omega) hi3 hr3, hl4, hd4⟩, (hk2.trans (mv _ _ hk3)).trans (kp _ _ hs3)⟩⟩
    | goto t => exact hp.elim
    | panic ch => exact hp.elim
    | outgrown => exact hp.elim
  · rintro e W2 ⟨⟨v, rfl⟩, (⟨xs, hS, hi, hl, hd⟩ | ⟨pre, hSp, c, hi, hl, hd⟩)⟩
    · have hlt := (Array.getElem?_eq_some_iff.1 hl).1
      rw [hrec] at hl
      exact ⟨none, _, run_endLoop (P := P) hl (by simp), hdone _ _ hS (hI.put _ _ _ _ _ (by omega) hi hl) ((World.putObj_heap_other (by omega)).trans hd)⟩
    · have hlt := (Array.getElem?_eq_some_iff.1 hl).1
      rw [hrec] at hl
      exact ⟨some c, _, run_endLoop (P := P) hl (by simp), hstop c _ _ hSp ((hIx c).put _ _ _ _ _ (by omega) hi hl) ((World.putObj_heap_other (by omega)).trans hd)⟩
end Go.Proofs.YtocmjlnhcloccaaGreatDoor
namespace Go.Proofs.YtocmjlnhcloccaaGreatDoor
open Go.RowKit Go.Shelf
attribute [local go_sem] Oper.semAt_some

set_option maxRecDepth 100000 in
set_option maxHeartbeats 2000000 in
theorem lsets_turnsX (n : Nat) (hn : 1 ≤ n) (p : SchV) (S : Sch) (om : Option Nat) (hs : List (Option Addr × Nat)) (w : World) (hl : S.uqs.length ≤ 1000) (hS : SetsAt w p.ou S.uqs hs) :
    SeqTurnsX Fence.wide n Tryz.prog 112 #[.agg #[.slice p.oc S.cols.length p.cc, .slice p.ok S.key.length p.ck, .slice p.ou S.uqs.length p.cu, .map om]] #[] (encS p S hs) (GS p.ou S.uqs) 1 (fun xs => xs = List.range (1 + S.uqs.length)) (SpS S) (fun _ _ => True) w := fun ll J Jx W hW hJ hJx hY h0 => by
  have HSW := Lib.hid (hS.keep hW (Nat.le_refl _))
  have HJ0 := Lib.hid (hJ.ext [] _ _ h0 ((Below.refl W.heap.size W).alloc (Nat.le_refl _) (.cells #[.slice p.oc S.cols.length p.cc, .slice p.ok S.key.length p.ck, .slice p.ou S.uqs.length p.cu, .map om] 116)))
  have HY0 := hY [] 0 _ HJ0.out ⟨1, rfl, by omega⟩ trivial (by simp)
  rw [show encS p S hs 0 = #[.int .i64 0, .slice p.ok S.key.length p.ck] from rfl] at HY0
  have HY := Lib.hid hY
  have HE := Lib.hid (encS_next p S hs)
  have HSC : Hid (∀ j (h : j < S.uqs.length), ∃ a, p.ou = some a ∧ W.cell? (a.add j) = some (.slice (hAt hs j).1 S.uqs[j].length (hAt hs j).2)) := Lib.hid (fun j h => by
    obtain ⟨a, e, hc, _⟩ := HSW.out j h
    exact ⟨a, e, hc⟩)
  clear hY h0 hS hW HSW HJ0
  obtain ⟨oc, cc, ok, ck, ou, cu⟩ := p
  obtain ⟨cols, key, uqs⟩ := S
  simp only at *
  obtain ⟨fn, tmps, assign, body, hy, hR⟩ := HY0
  simp only [List.nil_append] at hR
  refine callsIn_of_wp Tryz.func112 rfl trivial ?_ rfl
  simp only [Tryz.ntmps112, List.size_toArray, List.length_cons, List.length_nil, Nat.reduceAdd, Nat.reduceSub, Array.replicate_succ, Array.replicate_zero, List.push_toArray, List.append_toArray, List.nil_append, List.cons_append]
  gi_wp2
  refine hR.mono ?_
  rintro e w2 (⟨rfl, hJ2, hk2⟩ | ⟨rfl, hJx2, _⟩)
  · have HJ2 := Lib.hid hJ2
    have hs2 := hk2.size
    have hc2 : w2.cell? ⟨W.heap.size, 2, none⟩ = some (.slice ou uqs.length cu) := (World.cell?_of_block (a := ⟨W.heap.size, 2, none⟩) (hk2.same W.heap.size (by simp) (.inl ⟨Nat.le_refl _, by omega⟩))).trans (by simp [go_sem])
    have HSC2 : Hid (∀ j (h : j < uqs.length), ∃ a, ou = some a ∧ w2.cell? (a.add j) = some (.slice (hAt hs j).1 uqs[j].length (hAt hs j).2)) := Lib.hid (fun j h => by
      obtain ⟨a, e, hc⟩ := HSC.out j h
      refine ⟨a, e, ?_⟩
      have hlt := World.block_lt_of_cell? W _ hc
      rw [World.cell?_of_block (hk2.same (a.add j).block (by simp; omega) (.inr ⟨⟨a, e, by rw [add_block]⟩, fun e0 => by rw [show uqs = [] from e0] at h; cases h⟩)), World.cell?_alloc_lt _ _ _ hlt]
      exact hc)
    clear hJ2 hk2 HSC hy hR
    gi_wp2
    gi_loopw [16] (fun i wr => ∃ k : Nat, k ≤ uqs.length ∧ i = .int .i64 k ∧ Hid (J (List.range (k + 1)) wr) ∧ Hid (∀ j (h : j < uqs.length), ∃ a, ou = some a ∧ wr.cell? (a.add j) = some (.slice (hAt hs j).1 uqs[j].length (hAt hs j).2)) ∧ W.heap.size < wr.heap.size) (fun i _ => uqs.length - (intOf i).toNat)
    case atStart => exact ⟨0, Nat.zero_le _, rfl, HJ2, HSC2, by simp at hs2; omega⟩
    case round =>
      obtain ⟨k, hk, rfl, HJ3, HSC3, hsz⟩ := hrel
      clear hc2 HSC2 HJ2
      by_cases hlt : k < uqs.length
      · obtain ⟨a, rfl, hcell⟩ := HSC3.out k hlt
        have HYk := HY.out (List.range (k + 1)) (k + 1) wr HJ3.out ⟨k + 2, by rw [List.range_succ (n := k + 1)], by show k + 2 ≤ 1 + uqs.length; omega⟩ trivial (by omega)
        rw [HE.out k hlt, ← List.range_succ (n := k + 1)] at HYk
        obtain ⟨fn, tmps, assign, body, hy, hR⟩ := HYk
        gi_wp2
        refine hR.mono ?_
        rintro e w4 (⟨rfl, hJ4, hk4⟩ | ⟨rfl, hJx4, _⟩)
        · have HJ4 := Lib.hid hJ4
          have hs4 := hk4.size
          have HSC4 : Hid (∀ j (h : j < uqs.length), ∃ a', some a = some a' ∧ w4.cell? (a'.add j) = some (.slice (hAt hs j).1 uqs[j].length (hAt hs j).2)) := Lib.hid (fun j h => by
            obtain ⟨a', e, hc⟩ := HSC3.out j h
            refine ⟨a', e, ?_⟩
            have hlt := World.block_lt_of_cell? wr _ hc
            rw [World.cell?_of_block (hk4.same (a'.add j).block hlt (.inr ⟨⟨a', e, by rw [add_block]⟩, fun e0 => by rw [show uqs = [] from e0] at h; cases h⟩))]
            exact hc)
          clear hJ4 hk4 hy hR hcell HJ3 HSC3
          gi_wp2
          go_roundw
          case rel => exact ⟨k + 1, by omega, by go_num, HJ4, HSC4, by omega⟩
          case measure => simp [intOf]; omega
        · have HJ4 := Lib.hid hJx4
          clear hJx4 hy hR hcell
          gi_wp2
          refine bodyPost_ret (results_none rfl _ _ _) rfl ?_
          exact ⟨⟨_, rfl⟩, .inr ⟨List.range (k + 1 + 1), ⟨k + 2, rfl, by show k + 2 ≤ 1 + uqs.length; omega⟩, HJ4.out⟩⟩
      · obtain rfl : k = uqs.length := by omega
        gi_wp2
        go_end0
        exact ⟨⟨_, rfl⟩, .inl ⟨_, by rw [Nat.add_comm], HJ3.out⟩⟩
  · have HJ4 := Lib.hid hJx2
    clear hJx2 hy hR
    gi_wp2
    refine bodyPost_ret (results_none rfl _ _ _) rfl ?_
    exact ⟨⟨_, rfl⟩, .inr ⟨[0], ⟨1, rfl, by omega⟩, HJ4.out⟩⟩
end Go.Proofs.YtocmjlnhcloccaaGreatDoor
namespace Go.Proofs.YtocmjlnhcloccaaGreatDoor
open Go.RowKit

theorem own_nilI (W : World) (B : Nat) (hB : B ≤ W.heap.size) : (W.alloc (.cells #[] 3)).ownsRow B 3 1 (.slice (some ⟨W.heap.size, 0, none⟩) 0 0) 0 [] := World.ownsRow_made W #[] 0 hB (by decide) (by simp)
theorem add_fromS (g j : Nat) : (⟨g, 0, none⟩ : Addr).add j = ⟨g, j, none⟩ := by
  unfold Addr.add
  split
  · simp_all
  · simp
def ivs (l : List Int) : List Value := l.map fun x => .int .i64 x
theorem own_ints {W : World} {B n : Nat} {v : Value} {l : List Int} (h : W.ownsRow B 3 1 v n (ivs l)) (hn : l.length = n) : ∃ oa cap, v = .slice oa n cap ∧ IntsIn W oa l ∧ n ≤ cap ∧ (∀ a, oa = some a → B ≤ a.block ∧ a.block < W.heap.size) ∧ ∀ a, oa = some a → ∃ cs, W.heap[a.block]? = some (.cells cs 3) := by
  have h0 := h
  rcases h.2 with ⟨e, hn0⟩ | ⟨g, cap, cur, e, _, hgb, hnc, _⟩
  · refine ⟨none, 0, by rw [e, hn0], fun j hj => ?_, by omega, (fun a e => by cases e), fun a e => by cases e⟩
    omega
  · subst e
    have hlt := h.lt g rfl
    refine ⟨_, cap, rfl, fun j hj => ⟨_, rfl, ?_⟩, hnc, (fun a e => by cases e; exact hlt), fun a e => by cases e; exact ⟨_, hgb⟩⟩
    rw [add_fromS]
    have q := h0.cellAt j (by omega)
    rw [q]
    simp [ivs, hj]
theorem infoI : (Tryz.prog.info? 3).map (fun i => (i.zero, i.size, i.bytes)) = some (some (.int .i64 0), 1, 8) := by kernel_rfl
/-- places of the call's own -/
structure NewI (w w' : World) (oa : Option Addr) (cap : Nat) (l : List Int) : Prop where
  ints : IntsIn w' oa l
  cap : l.length ≤ cap
  new : ∀ a, oa = some a → w.heap.size ≤ a.block ∧ a.block < w'.heap.size
  below : Below w.heap.size w w'
  ty : ∀ a, oa = some a → ∃ cs, w'.heap[a.block]? = some (.cells cs 3)
set_option maxRecDepth 100000 in
set_option maxHeartbeats 1000000 in
theorem CloneI_any (oa : Option Addr) (cap : Nat) (l : List Int) (w : World) (hi : IntsIn w oa l) (hl : l.length ≤ 1000) :
    Calls Tryz.prog 113 #[.slice oa l.length cap] w fun e w' => ∃ ob cb, e = .returned (.slice ob l.length cb) ∧ NewI w w' ob cb l := by
  have q23 : ∀ (w : World) (a : Option Addr) (n c n' c' : Nat), (binOp .eql 23 (.slice a n c) (.slice none n' c')).run Tryz.prog w = .ok (.bool a.isNone) w := fun w a n c n' c' => Lib.run_eql_slice_nil w _ _ a n c n' c' Tryz.underlying23
  cases oa with
  | none =>
    have hz : l = [] := by
      cases l with
      | nil => rfl
      | cons x l => obtain ⟨a, e, _⟩ := hi 0 (by simp); cases e
    subst hz
    clear hi
    go_enter Tryz.func113, Tryz.ntmps113
    go_wp2
    go_ret
    exact ⟨none, 0, rfl, ⟨fun j hj => absurd hj (Nat.not_lt_zero j), Nat.le_refl _, (fun _ h => by cases h), Below.refl _ _, fun _ h => by cases h⟩⟩
  | some ad =>
    obtain ⟨i0, hi0, hz0, hz1, hz2⟩ := info_parts infoI
    have HI := Lib.hid hi
    clear hi
    go_enter Tryz.func113, Tryz.ntmps113
    go_wp2_with (first | (at_builtin; refine wpList_append_own _ rfl _ _ 23 rfl w.heap.size 3 i0 (.int .i64 0) 1 8 Tryz.underlying23 hi0 hz0 hz1 hz2 rfl (by decide) _ 0 [] rfl (own_nilI w w.heap.size (Nat.le_refl _)) ad l.length cap (ivs l) rfl (by simp [ivs]) ?e1 ?e2 ?e3 ?e4 ?e5 ?_))
    case e1 =>
      intro j u hj
      have hjl : j < l.length := by have := (List.getElem?_eq_some_iff.1 hj).1; simpa [ivs] using this
      obtain ⟨a, e, hc⟩ := HI.out.keep ((Below.refl _ _).alloc (Nat.le_refl _) (.cells #[] 3)) (Nat.le_refl _) j hjl
      cases e
      rw [hc]
      simpa [ivs, hjl] using hj
    case e2 => intro u hu; simp [ivs] at hu; obtain ⟨x, _, rfl⟩ := hu; rfl
    case e3 => unfold maxLen; omega
    case e4 => omega
    case e5 => simp
    intro v4 w4 hown4 hg4 _
    have hb4 : Below w.heap.size w w4 := ((Below.refl _ _).alloc (Nat.le_refl _) (.cells #[] 3)).grown hg4 (by simp) (fun x hx => by cases hx; exact Nat.le_refl _)
    obtain ⟨ob, cb, rfl, h1, h2, h3, h5⟩ := own_ints hown4 rfl
    have HN := Lib.hid (show NewI w w4 ob cb l from ⟨h1, h2, h3, hb4, h5⟩)
    clear hown4 hg4 hb4 h1 h2 h3 h5
    go_wp2_with fail
    go_ret
    exact ⟨ob, cb, rfl, HN.out⟩
end Go.Proofs.YtocmjlnhcloccaaGreatDoor
namespace Go.Proofs.YtocmjlnhcloccaaGreatDoor
open Go.RowKit Go.Shelf
attribute [local go_sem] Oper.semAt_some

/-- a number, and a slice's head -/
abbrev NSl := Nat × (Option Addr × Nat)
def encO (L : List (List Int)) (x : NSl) : Array Value := #[.int .i64 x.1, .slice x.2.1 (L.getD x.1 []).length x.2.2]
def SpO (L : List (List Int)) (pre : List NSl) : Prop := ∃ k, pre.map (·.1) = List.range k ∧ k ≤ L.length
def FxO (L : List (List Int)) (x : NSl) (W : World) : Prop := IntsIn W x.2.1 (L.getD x.1 [])
/-- what lay lies -/
structure Lo (w W : World) : Prop where
  size : w.heap.size ≤ W.heap.size
  same : ∀ k, k < w.heap.size → W.heap[k]? = w.heap[k]?
theorem Lo.of {w W : World} (h : Below w.heap.size w W) : Lo w W := ⟨h.size, fun k hk => h.block k hk⟩
theorem Lo.trans {w W W' : World} (h : Lo w W) (k : Below W.heap.size W W') : Lo w W' := ⟨Nat.le_trans h.size k.size, fun i hi => (k.block i (Nat.lt_of_lt_of_le hi h.size)).trans (h.same i hi)⟩
theorem Lo.kept {w W W' : World} {B m : Nat} (h : Lo w W) (k : KeepM B m (fun k => k < w.heap.size) W W') : Lo w W' := ⟨Nat.le_trans h.size k.size, fun i hi => (k.same i (Nat.lt_of_lt_of_le hi h.size) (.inr hi)).trans (h.same i hi)⟩
theorem Lo.cell {w W : World} (h : Lo w W) {p : Addr} {v : Value} (hc : w.cell? p = some v) : W.cell? p = some v := (World.cell?_of_block (h.same _ (World.block_lt_of_cell? w p hc))).trans hc
theorem Lo.ints {w W : World} (h : Lo w W) {oa : Option Addr} {l : List Int} (hi : IntsIn w oa l) : IntsIn W oa l := fun j hj => by
  obtain ⟨a, e, hc⟩ := hi j hj
  exact ⟨a, e, h.cell hc⟩
theorem snoc_fst {pre : List NSl} {n : Nat} {h : Option Addr × Nat} (hp : pre.map (·.1) = List.range n) : (pre ++ [((n, h) : NSl)]).map (·.1) = List.range (n + 1) := by
  rw [List.map_append, hp, List.range_succ]
  rfl
set_option maxRecDepth 100000 in
set_option maxHeartbeats 4000000 in
theorem sets1_turns (n : Nat) (hn : 1 ≤ n) (cb : Nat) (oo : Option Addr) (co : Nat) (L : List (List Int)) (hs : List (Option Addr × Nat)) (w : World) (hcb : w.cell? ⟨cb, 0, none⟩ = some (.slice oo L.length co)) (hS : SetsAt w oo L hs) (hl : L.length ≤ 100) (hll : ∀ l ∈ L, l.length ≤ 1000) :
    SeqTurnsX Fence.wide n Tryz.prog 114 #[] #[.pointer (some ⟨cb, 0, none⟩)] (encO L) (fun k => k < w.heap.size) 0 (fun xs => xs.map (·.1) = List.range L.length) (SpO L) (FxO L) w := fun ll J Jx W hW hJ hJx hY h0 => by
  have hc0 := (Lo.of hW).cell hcb
  have HLo := Lib.hid (Lo.of hW)
  have HS := Lib.hid hS
  have HLL := Lib.hid hll
  have HY := Lib.hid hY
  have HJ0 := Lib.hid h0
  clear hY h0 hW hS hcb hll
  refine callsIn_of_wp Tryz.func114 rfl trivial ?_ rfl
  simp only [Tryz.ntmps114, List.size_toArray, List.length_cons, List.length_nil, Nat.reduceAdd, Nat.reduceSub, Array.replicate_succ, Array.replicate_zero, List.push_toArray, List.append_toArray, List.nil_append, List.cons_append]
  gi_wp2
  gi_loopw [7] (fun i wr => ∃ (k : Nat) (pre : List NSl), k ≤ L.length ∧ i = .int .i64 k ∧ Hid (pre.map (·.1) = List.range k) ∧ Hid (J pre wr) ∧ Hid (Lo w wr) ∧ W.heap.size ≤ wr.heap.size) (fun i _ => L.length - (intOf i).toNat)
  case atStart => exact ⟨0, [], Nat.zero_le _, rfl, Lib.hid rfl, HJ0, HLo, Nat.le_refl _⟩
  case round =>
    obtain ⟨k, pre, hk, rfl, HP, HJ, HLo2, hsz⟩ := hrel
    clear HJ0 HLo hc0
    by_cases hlt : k < L.length
    · obtain ⟨ao, rfl, hcell0, hcap, hi0⟩ := HS.out k hlt
      have hcell := HLo2.out.cell hcell0
      have hint := HLo2.out.ints hi0
      have hlk := HLL.out _ (List.getElem_mem hlt)
      have hgd : L.getD k [] = L[k] := by rw [List.getD_eq_getElem?_getD, List.getElem?_eq_getElem hlt]; rfl
      have HC := Lib.hid (CloneI_any (hAt hs k).1 (hAt hs k).2 L[k] _ hint hlk)
      have HGD := Lib.hid hgd
      clear hcell0 hi0 hint hgd
      generalize L[k] = l at *
      gi_wp2
      refine ⟨trivial, (callsIn_wide.2 HC.out).mono ?_⟩
      rintro e w3 ⟨ob, cb3, rfl, hN⟩
      have hYk := HY.out pre (k, (ob, cb3)) w3 (hJ.ext _ _ _ HJ.out hN.below) ⟨k + 1, snoc_fst HP.out, hlt⟩ (show IntsIn w3 ob (L.getD k []) by rw [HGD.out]; exact hN.ints) (by have := hN.below.size; omega)
      rw [show encO L (k, (ob, cb3)) = #[.int .i64 k, .slice ob l.length cb3] by unfold encO; rw [HGD.out]] at hYk
      obtain ⟨fn, tmps, assign, body, hy, hR⟩ := hYk
      have HLo3 := Lib.hid (HLo2.out.trans hN.below)
      have hs3 := hN.below.size
      clear hN hcell HC
      gi_wp2
      refine hR.mono ?_
      rintro e w4 (⟨rfl, hJ4, hk4⟩ | ⟨rfl, hJx4, _⟩)
      · have HJ4 := Lib.hid hJ4
        have HLo4 := Lib.hid (HLo3.out.kept hk4)
        have HP4 := Lib.hid (snoc_fst (h := (ob, cb3)) HP.out)
        have hs4 := hk4.size
        clear hJ4 hk4 hy hR HLo3 HLo2 HJ
        gi_wp2
        go_roundw
        case rel => exact ⟨k + 1, _, hlt, by go_num, HP4, HJ4, HLo4, by omega⟩
        case measure => simp [intOf]; omega
      · have HJ4 := Lib.hid hJx4
        have HP4 := Lib.hid (snoc_fst (h := (ob, cb3)) HP.out)
        clear hJx4 hy hR
        gi_wp2
        refine bodyPost_ret (results_none rfl _ _ _) rfl ?_
        exact ⟨⟨_, rfl⟩, .inr ⟨_, ⟨k + 1, HP4.out, hlt⟩, HJ4.out⟩⟩
    · obtain rfl : k = L.length := by omega
      gi_wp2
      go_end0
      exact ⟨⟨_, rfl⟩, .inl ⟨pre, HP.out, HJ.out⟩⟩
end Go.Proofs.YtocmjlnhcloccaaGreatDoor
namespace Go.Proofs.YtocmjlnhcloccaaGreatDoor
open Go.RowKit Go.Shelf
attribute [local go_sem] Oper.semAt_some

def ownL (S : Sch) : List (List Int) := if schOk S = true then S.key :: S.uqs else []
abbrev Ent := (Option Addr × Nat) × List Int
def ecells (es : List Ent) : List Value := es.map fun e => .slice e.1.1 e.2.length e.1.2
theorem infoIs : (Tryz.prog.info? 23).map (fun i => (i.zero, i.size, i.bytes)) = some (some (.slice none 0 0), 1, 24) := by kernel_rfl
theorem cell_loop {W : World} {a : Addr} {v : Value} (h : W.cell? a = some v) {l : Nat} {r : Loop} (hl : W.heap[l]? = some (.loop r)) (o : Obj) : (W.putObj l o).cell? a = some v := by
  have hne : a.block ≠ l := fun e => by
    simp [World.cell?, e, hl] at h
  rw [World.cell?_of_block (World.putObj_heap_other hne)]
  exact h
theorem ints_loop {W : World} {oa : Option Addr} {is : List Int} (h : IntsIn W oa is) {l : Nat} {r : Loop} (hl : W.heap[l]? = some (.loop r)) (o : Obj) : IntsIn (W.putObj l o) oa is := fun j hj => by
  obtain ⟨a, e, hc⟩ := h j hj
  exact ⟨a, e, cell_loop hc hl o⟩
theorem ints_put {W : World} {oa : Option Addr} {is : List Int} (h : IntsIn W oa is) {l : Nat} {ds : Option (List Deferred)} (hl : W.heap[l]? = some (.deferred ds)) (o : Obj) : IntsIn (W.putObj l o) oa is := fun j hj => by
  obtain ⟨a, e, hc⟩ := h j hj
  exact ⟨a, e, cell_put hc hl o⟩
theorem sets_put {W : World} {oa : Option Addr} {L : List (List Int)} {hs : List (Option Addr × Nat)} (h : SetsAt W oa L hs) {l : Nat} {ds : Option (List Deferred)} (hl : W.heap[l]? = some (.deferred ds)) (o : Obj) : SetsAt (W.putObj l o) oa L hs := fun j hj => by
  obtain ⟨a, e, hc, h1, h2⟩ := h j hj
  exact ⟨a, e, cell_put hc hl o, h1, ints_put h2 hl o⟩
/-- what the loop has laid so far -/
structure Ow (w W3 : World) (C B : Nat) (S : Sch) (pre : List Nat) (W : World) : Prop where
  ex : ∃ (v : Value) (es : List Ent), W.cell? ⟨C, 0, none⟩ = some v ∧ W.ownsRow B 23 1 v es.length (ecells es) ∧ es.map (·.2) = pre.map (setAt S) ∧ ∀ e ∈ es, IntsIn W e.1.1 e.2 ∧ e.2.length ≤ e.1.2 ∧ ∀ a, e.1.1 = some a → B ≤ a.block ∧ ∃ cs, W.heap[a.block]? = some (.cells cs 3)
  fr : W.frozen? ⟨C, 0, none⟩ = false
  lo : ∀ k, k < W3.heap.size → k ≠ C → W.heap[k]? = W3.heap[k]?
  sz : W3.heap.size ≤ W.heap.size
  below : Below w.heap.size w W
theorem Ow.still {w W3 : World} {C B : Nat} {S : Sch} (hC : C < W3.heap.size) (hw : w.heap.size ≤ W3.heap.size) : Still W3.heap.size (Ow w W3 C B S) := by
  constructor
  · rintro s A A' ⟨⟨v, es, h1, h2, h3, h4⟩, h5, h6, h7, h8⟩ hb
    have hCl : C < A.heap.size := Nat.lt_of_lt_of_le hC h7
    refine ⟨⟨v, es, by rw [hb.cell hCl]; exact h1, h2.kept (row := none) ⟨hb.os, hb.tape, hb.output, hb.size, fun k hk _ => hb.block k hk⟩ (by cases v.ownBlock <;> simp), h3, fun e he => ⟨(h4 e he).1.keep hb (Nat.le_refl _), (h4 e he).2.1, fun a ea => by obtain ⟨hBa, cs, hcs⟩ := (h4 e he).2.2 a ea; exact ⟨hBa, cs, (hb.block _ (Array.getElem?_eq_some_iff.1 hcs).1).trans hcs⟩⟩⟩, by rw [hb.frozen hCl]; exact h5, fun k hk hk' => (hb.block k (Nat.lt_of_lt_of_le hk h7)).trans (h6 k hk hk'), Nat.le_trans h7 hb.size, h8.trans (hb.mono h8.size)⟩
  · rintro s A l r o hl ⟨⟨v, es, h1, h2, h3, h4⟩, h5, h6, h7, h8⟩ hr
    have hne : C ≠ l := by omega
    refine ⟨⟨v, es, cell_loop h1 hr o, ownsRow_putObj h2 o hr rfl, h3, fun e he => ⟨ints_loop (h4 e he).1 hr o, (h4 e he).2.1, fun a ea => by obtain ⟨hBa, cs, hcs⟩ := (h4 e he).2.2 a ea; exact ⟨hBa, cs, (World.putObj_heap_other (fun e0 => by rw [e0, hr] at hcs; cases hcs)).trans hcs⟩⟩⟩, (World.frozen?_of_block (a := ⟨C, 0, none⟩) (World.putObj_heap_other hne)).trans h5, fun k hk hk' => (World.putObj_heap_other (by omega)).trans (h6 k hk hk'), by simp; exact h7, below_put h8 (by omega) o⟩
theorem Ow.lo2 {w W3 W : World} {C B : Nat} {S : Sch} {pre : List Nat} (h : Ow w W3 C B S pre W) {p : Addr} {v : Value} (hc : W3.cell? p = some v) (hp : p.block ≠ C) : W.cell? p = some v :=
  (World.cell?_of_block (h.lo _ (World.block_lt_of_cell? W3 p hc) hp)).trans hc
theorem ow_sets {W : World} {B : Nat} {v : Value} {es : List Ent} {L : List (List Int)} (h : W.ownsRow B 23 1 v es.length (ecells es)) (h3 : es.map (·.2) = L) (h4 : ∀ e ∈ es, IntsIn W e.1.1 e.2 ∧ e.2.length ≤ e.1.2) : ∃ oo co, v = .slice oo L.length co ∧ SetsAt W oo L (es.map (·.1)) := by
  have hlen : L.length = es.length := by rw [← h3]; simp
  have h0 := h
  rcases h.2 with ⟨e, hn0⟩ | ⟨g, cap, cur, e, _⟩
  · refine ⟨none, 0, by rw [e, hlen, hn0], fun j hj => ?_⟩
    omega
  · subst e
    refine ⟨_, cap, by rw [hlen], fun j hj => ?_⟩
    have hje : j < es.length := by omega
    have q := h0.cellAt j (by omega)
    obtain ⟨en, hen⟩ : ∃ en, es[j] = en := ⟨_, rfl⟩
    have hm := h4 en (hen ▸ List.getElem_mem hje)
    have e1 : hAt (es.map (·.1)) j = en.1 := by unfold hAt; rw [List.getD_eq_getElem?_getD, List.getElem?_map, List.getElem?_eq_getElem hje, hen]; rfl
    have e2 : L[j] = en.2 := by subst h3; simp [hen]
    refine ⟨_, rfl, ?_, ?_, ?_⟩
    · rw [add_fromS, q, e1, e2]
      simp [ecells, hje, hen]
    · rw [e1, e2]; exact hm.2
    · rw [e1, e2]; exact hm.1
theorem keep_cellS {W W' : World} {a : Addr} {v : Value} (hb : Below W.heap.size W W') (h : W.cell? a = some v) : W'.cell? a = some v := by
  rw [hb.cell (World.block_lt_of_cell? W a h)]
  exact h
theorem ownL_sets (S : Sch) : (List.range (1 + S.uqs.length)).map (setAt S) = S.key :: S.uqs := by
  rw [Nat.add_comm, List.range_succ_eq_map, List.map_cons, List.map_map]
  congr 1
  refine List.ext_getElem (by simp) (fun j h1 h2 => ?_)
  simp [setAt, List.getElem?_eq_getElem (show j < S.uqs.length from h2)]
theorem wpAnyIn_one {F : Fence} {n : Nat} {P : Program} {md : Region.Mode} {ops : Array Oper} {Q : Exit → Act → World → Prop} {fuel : Nat} {listed : Array Bool} {a : Act} {w : World} (i : Nat) (h1 : Region.ready md ops listed = [i]) (h : wpOpIn F n P ops Q i (wpAnyIn F n P md ops Q fuel (listed.setIfInBounds i true)) a w) : wpAnyIn F n P md ops Q (fuel + 1) listed a w := by
  unfold wpAnyIn
  refine ⟨fun h0 => ?_, fun j hj => ?_⟩
  · rw [h1] at h0
    cases h0
  · rw [h1] at hj
    rw [List.mem_singleton.1 hj]
    exact h
theorem wpAnyIn_two {F : Fence} {n : Nat} {P : Program} {md : Region.Mode} {ops : Array Oper} {Q : Exit → Act → World → Prop} {fuel : Nat} {listed : Array Bool} {a : Act} {w : World} (i j : Nat) (h1 : Region.ready md ops listed = [i, j]) (hi : wpOpIn F n P ops Q i (wpAnyIn F n P md ops Q fuel (listed.setIfInBounds i true)) a w) (hj : wpOpIn F n P ops Q j (wpAnyIn F n P md ops Q fuel (listed.setIfInBounds j true)) a w) : wpAnyIn F n P md ops Q (fuel + 1) listed a w := by
  unfold wpAnyIn
  refine ⟨fun h0 => ?_, fun k hk => ?_⟩
  · rw [h1] at h0
    cases h0
  · rw [h1] at hk
    rcases List.mem_cons.1 hk with rfl | hk
    · exact hi
    · rw [List.mem_singleton.1 hk]
      exact hj
theorem wpOpIn_append {F : Fence} (hF : ∀ f, F.fn f) {n : Nat} {P : Program} {ops : Array Oper} {Q : Exit → Act → World → Prop} {i : Nat} {K : Act → World → Prop} {a : Act} {w : World} {o : Oper} (ho : ops[i]? = some o) (hg : o.guard = none) {s x : Operand} {t : TypeId} (hop : o.op = Op.call { callee := Callee.builtin Builtin.append, args := #[s, x], argTypes := #[t, t] })
    {v u v' : Value} {w' : World} (hs : a.eval s = v) (hx : a.eval x = u) (hrun : (Builtin.append_ #[t, t] o.type #[v, u]).run P w = .ok v' w') (hK : K (a.put o.dst v') w') : wpOpIn F n P ops Q i K a w := by
  unfold wpOpIn
  rw [ho]
  have hw : Region.wanted o (yielded ops a.tmps) = true := by simp [Region.wanted, hg]
  simp only [hw, if_true]
  unfold Oper.wpIn
  refine ⟨fun f _ => hF f, ?_⟩
  rw [Oper.semAt_eq _ _ _ (by intro c; rw [hop]; simp)]
  simp [execOp, hop, resolve, invoke, builtin, hs, hx, hrun, Result.andThen, Oper.uponIn]
  exact hK
theorem rowS_slice {W : World} {B n : Nat} {v : Value} {xs : List Value} (h : W.ownsRow B 23 1 v n xs) : ∃ a c, v = .slice a n c := by
  rcases h.2 with ⟨e0, h0⟩ | ⟨g, cap, cur, e0, _⟩
  · exact ⟨none, 0, by rw [e0, h0]⟩
  · exact ⟨_, _, e0⟩
theorem rowS_ne {W : World} {B n : Nat} {v : Value} {xs : List Value} (h : W.ownsRow B 23 1 v n xs) {k : Nat} {cs : Array Value} (hk : W.heap[k]? = some (.cells cs 3)) : v.ownBlock ≠ some k := fun e => by
  rcases h.2 with ⟨rfl, _⟩ | ⟨g, cap, cur, rfl, _, hg, _⟩
  · cases e
  · simp only [Value.ownBlock, Option.some.injEq] at e
    subst e
    rw [hk] at hg
    simp only [Option.some.injEq, Obj.cells.injEq] at hg
    exact absurd hg.2 (by decide)
set_option maxHeartbeats 1000000 in
theorem ow_step {w w4 W w5 : World} {C : Nat} {S : Sch} {x : Nat} {oc5 : Option Addr} {cc5 : Nat} {is : List Int} {G : Nat → Prop} {v : Value} (hI : Ow w w4 C (w4.heap.size + 3) S (List.range x) W) (hc : W.cell? ⟨C, 0, none⟩ = some v) (hC : C < w4.heap.size) (hwC : w.heap.size ≤ C) (hG : ∀ k, G k → k < w.heap.size) (hx : x ≤ 10) (hszW : w4.heap.size + 3 ≤ W.heap.size) (hN : NewI W.drew w5 oc5 cc5 is) (his : setAt S x = is) :
    ∃ a7 n7 c7 w7, (Builtin.append_ #[24, 24] 24 #[v, .slice (some ⟨w5.heap.size, 0, none⟩) 1 1]).run Tryz.prog (w5.alloc (.cells #[.slice oc5 is.length cc5] 23)) = .ok (.slice a7 n7 c7) w7 ∧ w7.cell? ⟨C, 0, none⟩ = some v ∧ w7.frozen? ⟨C, 0, none⟩ = false ∧ Ow w w4 C (w4.heap.size + 3) S (List.range x ++ [x]) (w7.setCell ⟨C, 0, none⟩ (.slice a7 n7 c7)) ∧ KeepM w4.heap.size 3 G W (w7.setCell ⟨C, 0, none⟩ (.slice a7 n7 c7)) := by
  obtain ⟨i0, hi0, hz0, hz1, hz2⟩ := info_parts infoIs
  obtain ⟨⟨v', es, h1, h2, h3, h4⟩, h5, h6, h7, h8⟩ := hI
  obtain rfl : v' = v := by rw [h1] at hc; exact Option.some.inj hc
  obtain ⟨V, hV⟩ : ∃ V, w5.alloc (.cells #[.slice oc5 is.length cc5] 23) = V := ⟨_, rfl⟩
  have hb5 : Below W.heap.size W w5 := (show Below W.heap.size W W.drew from ⟨rfl, rfl, rfl, Nat.le_refl _, fun _ _ => rfl⟩).trans hN.below
  have hbV : Below W.heap.size W V := by rw [← hV]; exact hb5.alloc hb5.size _
  have hzV : V.heap.size = w5.heap.size + 1 := by rw [← hV]; simp
  have hz5 := hb5.size
  have hlen : es.length = x := by have := congrArg List.length h3; simpa using this
  have hnc : V.cell? ⟨w5.heap.size, 0, none⟩ = some (.slice oc5 is.length cc5) := by rw [← hV]; simp [go_sem]
  have hrV : V.ownsRow (w4.heap.size + 3) 23 1 v' es.length (ecells es) := h2.kept (row := none) ⟨hbV.os, hbV.tape, hbV.output, hbV.size, fun k hk _ => hbV.block k hk⟩ (by cases v'.ownBlock <;> simp)
  obtain ⟨v7, w7, hrun, hown7, hg7, _⟩ := run_append_own (P := Tryz.prog) V (w4.heap.size + 3) 24 24 23 i0 (.slice none 0 0) 1 24 Tryz.underlying24 hi0 hz0 hz1 hz2 rfl (by decide) v' es.length (ecells es) hrV ⟨w5.heap.size, 0, none⟩ 1 1 [.slice oc5 is.length cc5] rfl
    (by
      intro j u hj
      cases j with
      | zero => simp at hj; subst hj; rw [add_fromS]; exact hnc
      | succ j => simp at hj)
    (by intro u hu; simp at hu; subst hu; rfl) (by unfold maxLen; omega) (by omega) (by omega)
  obtain ⟨a7, c7, rfl⟩ := rowS_slice hown7
  have hlo : ∀ k, v'.ownBlock = some k → w4.heap.size + 3 ≤ k := fun k hk => (hrV.lt k hk).1
  have hblk : ∀ k, k < V.heap.size → v'.ownBlock ≠ some k → w7.heap[k]? = V.heap[k]? := fun k hk hne => hg7.block k hk (fun e => hne e.symm)
  have hneC : v'.ownBlock ≠ some C := fun e => by have := hlo C e; omega
  have hC7 : w7.heap[C]? = W.heap[C]? := (hblk C (by omega) hneC).trans (hbV.block C (by omega))
  have hs7 := hg7.size
  have hown7' : w7.ownsRow (w4.heap.size + 3) 23 1 (.slice a7 (es.length + 1) c7) (es ++ [((oc5, cc5), is)]).length (ecells (es ++ [((oc5, cc5), is)])) := by
    have e1 : ecells (es ++ [((oc5, cc5), is)]) = ecells es ++ [.slice oc5 is.length cc5] := by simp [ecells]
    rw [e1, List.length_append]
    exact hown7
  have hne7 : (Value.slice a7 (es.length + 1) c7).ownBlock = none ∨ (Value.slice a7 (es.length + 1) c7).ownBlock ≠ some C := by
    cases hv : (Value.slice a7 (es.length + 1) c7).ownBlock with
    | none => exact .inl rfl
    | some k => exact .inr (fun he => by have := (hown7.lt k hv).1; cases he; omega)
  have hent : ∀ e : Ent, (IntsIn V e.1.1 e.2 ∧ e.2.length ≤ e.1.2 ∧ ∀ a, e.1.1 = some a → w4.heap.size + 3 ≤ a.block ∧ ∃ cs, V.heap[a.block]? = some (.cells cs 3)) → IntsIn (w7.setCell ⟨C, 0, none⟩ (.slice a7 (es.length + 1) c7)) e.1.1 e.2 ∧ e.2.length ≤ e.1.2 ∧ ∀ a, e.1.1 = some a → w4.heap.size + 3 ≤ a.block ∧ ∃ cs, (w7.setCell ⟨C, 0, none⟩ (.slice a7 (es.length + 1) c7)).heap[a.block]? = some (.cells cs 3) := by
    rintro e ⟨q1, q2, q3⟩
    have hb : ∀ a, e.1.1 = some a → (w7.setCell ⟨C, 0, none⟩ (.slice a7 (es.length + 1) c7)).heap[a.block]? = V.heap[a.block]? := fun a ea => by
      obtain ⟨hBa, cs, hcs⟩ := q3 a ea
      have hl := (Array.getElem?_eq_some_iff.1 hcs).1
      exact (Below.heap_setCell _ _ _ _ (by show a.block ≠ C; omega)).trans (hblk a.block hl (rowS_ne hrV hcs))
    refine ⟨fun j hj => ?_, q2, fun a ea => ?_⟩
    · obtain ⟨a, ea, hca⟩ := q1 j hj
      have hbb := hb a ea
      rw [← add_block a j] at hbb
      exact ⟨a, ea, (World.cell?_of_block hbb).trans hca⟩
    · obtain ⟨hBa, cs, hcs⟩ := q3 a ea
      exact ⟨hBa, cs, (hb a ea).trans hcs⟩
  refine ⟨a7, es.length + 1, c7, w7, by rw [hV]; exact hrun, ?_, ?_, ⟨⟨_, es ++ [((oc5, cc5), is)], World.cell?_setCell_same' _ _ _ (by rw [World.cell?_of_block (a := ⟨C, 0, none⟩) hC7, h1]; rfl), hown7'.kept (grownBy_setCell' w7 C _) hne7, by rw [List.map_append, h3, List.map_append]; simp [his], ?_⟩, ?_, ?_, ?_, ?_⟩, ?_⟩
  · rw [World.cell?_of_block (a := ⟨C, 0, none⟩) hC7]; exact h1
  · rw [World.frozen?_of_block (a := ⟨C, 0, none⟩) hC7]; exact h5
  · intro e he
    rcases List.mem_append.1 he with he | he
    · exact hent e ⟨(h4 e he).1.keep hbV (Nat.le_refl _), (h4 e he).2.1, fun a ea => by obtain ⟨hBa, cs, hcs⟩ := (h4 e he).2.2 a ea; exact ⟨hBa, cs, (hbV.block _ (Array.getElem?_eq_some_iff.1 hcs).1).trans hcs⟩⟩
    · obtain rfl : e = ((oc5, cc5), is) := by simpa using he
      refine hent _ ⟨?_, hN.cap, fun a ea => ?_⟩
      · intro j hj
        obtain ⟨a, ea, hca⟩ := hN.ints j hj
        exact ⟨a, ea, by rw [← hV, World.cell?_alloc_lt _ _ _ (World.block_lt_of_cell? w5 _ hca)]; exact hca⟩
      · obtain ⟨cs, hcs⟩ := hN.ty a ea
        have hnw := (hN.new a ea).1
        exact ⟨by have : W.drew.heap.size = W.heap.size := rfl; omega, cs, by rw [← hV, Below.heap_alloc _ _ _ (Array.getElem?_eq_some_iff.1 hcs).1]; exact hcs⟩
  · rw [World.frozen?_setCell, World.frozen?_of_block (a := ⟨C, 0, none⟩) hC7]; exact h5
  · intro k hk hk'
    exact (Below.heap_setCell _ _ _ _ hk').trans ((hblk k (by omega) (fun e => by have := hlo k e; omega)).trans ((hbV.block k (by omega)).trans (h6 k hk hk')))
  · simp [World.setCell]; omega
  · exact ((h8.trans (hbV.mono h8.size)).grown hg7 (by have := h8.size; omega) (fun k hk => by have := hlo k hk; have := h8.size; omega)).setCell hwC _
  · refine ⟨by simp [World.setCell]; omega, fun k hk hkk => ?_⟩
    have hkC : k ≠ C := by rcases hkk with h | h; omega; have := hG k h; omega
    exact (Below.heap_setCell _ _ _ _ hkC).trans ((hblk k (by omega) (fun e => by have := hlo k e; rcases hkk with h | h; omega; have := hG k h; omega)).trans (hbV.block k hk))
set_option maxRecDepth 100000 in
set_option maxHeartbeats 8000000 in
theorem Sets_anyT (p : SchV) (S : Sch) (w : World) (hnm : ∀ c ∈ S.cols, c.n.size ≤ 9223372036854775807) (hcl : S.cols.length ≤ 1000) (hul : S.uqs.length ≤ 6) (hkl : S.key.length ≤ 1000) (hpl : ∀ l ∈ S.uqs, l.length ≤ 1000) (hS : SchIn w p S) :
    Calls Tryz.prog 76 #[.agg #[.slice p.oc S.cols.length p.cc, .slice p.ok S.key.length p.ck, .slice p.ou S.uqs.length p.cu]] w fun e w' => ∃ cb oo co hs, e = .returned (.func (.func 114) #[] #[.pointer (some ⟨cb, 0, none⟩)]) ∧ w'.cell? ⟨cb, 0, none⟩ = some (.slice oo (ownL S).length co) ∧ SetsAt w' oo (ownL S) hs ∧ Below w.heap.size w w' ∧ w.heap.size ≤ cb ∧ (∀ a, oo = some a → w.heap.size ≤ a.block) ∧ ∀ j, j < (ownL S).length → ∀ a, (hAt hs j).1 = some a → w.heap.size ≤ a.block := by
  have HS := Lib.hid hS
  have HN := Lib.hid hnm
  have HPL := Lib.hid hpl
  clear hS hnm hpl
  refine (callsIn_wide (n := 5)).1 ?_
  refine callsIn_of_wp_marks Tryz.func76 rfl trivial ?_ rfl
  simp only [Tryz.ntmps76, List.size_toArray, List.length_cons, List.length_nil, Nat.reduceAdd, Nat.reduceSub, Array.replicate_succ, Array.replicate_zero, List.push_toArray, List.append_toArray, List.nil_append, List.cons_append]
  refine wpIn_wide.2 ?_
  go_wp2_with fail
  obtain ⟨W1, hW1⟩ : ∃ W1, (w.alloc (.cells #[.slice p.oc S.cols.length p.cc, .slice p.ok S.key.length p.ck, .slice p.ou S.uqs.length p.cu] 26)).alloc (.cells #[.slice none 0 0] 24) = W1 := ⟨_, rfl⟩
  have hb1 : Below w.heap.size w W1 := by rw [← hW1]; exact ((Below.refl _ _).alloc (Nat.le_refl _) _).alloc (by simp) _
  have c1 : W1.cell? ⟨w.heap.size + 1, 0, none⟩ = some (.slice none 0 0) := by rw [← hW1]; simp [go_sem]
  have f1 : W1.frozen? ⟨w.heap.size + 1, 0, none⟩ = false := by rw [← hW1]; simp [go_sem]
  try rw [hW1]
  have hS1 := HS.out.keep hb1 (Nat.le_refl _)
  have HB1 := Lib.hid hb1
  have hz1 : W1.heap.size = w.heap.size + 2 := by rw [← hW1]; simp
  clear hW1 hb1
  refine (lookAt_any _ _ _ _ _ _ _ _ _ W1).mono ?_
  rintro e w2 ⟨r, rfl, hm, hb2⟩
  go_wp2_with fail
  obtain ⟨W2, hW2⟩ : ∃ W2, w2.alloc (.cells #[.slice p.oc S.cols.length p.cc, .slice p.ok S.key.length p.ck, .slice p.ou S.uqs.length p.cu, .map (some r)] 116) = W2 := ⟨_, rfl⟩
  have hbz : Below w2.heap.size w2 W2 := by rw [← hW2]; exact (Below.refl _ _).alloc (Nat.le_refl _) _
  have hb12 := held_trans hb2 hbz
  have hm2 : W2.heap[r]? = some (.map mapTypes 4) := by rw [hbz.block _ (Array.getElem?_eq_some_iff.1 hm).1]; exact hm
  have l0 : W2.cell? ⟨w2.heap.size, 0, none⟩ = some (.slice p.oc S.cols.length p.cc) := by rw [← hW2]; simp [go_sem]
  have l1 : W2.cell? ⟨w2.heap.size, 1, none⟩ = some (.slice p.ok S.key.length p.ck) := by rw [← hW2]; simp [go_sem]
  have l2 : W2.cell? ⟨w2.heap.size, 2, none⟩ = some (.slice p.ou S.uqs.length p.cu) := by rw [← hW2]; simp [go_sem]
  have l3 : W2.cell? ⟨w2.heap.size, 3, none⟩ = some (.map (some r)) := by rw [← hW2]; simp [go_sem]
  try rw [hW2]
  have c2 : W2.cell? ⟨w.heap.size + 1, 0, none⟩ = some (.slice none 0 0) := by rw [hb12.cell (by simp; omega)]; exact c1
  have f2 : W2.frozen? ⟨w.heap.size + 1, 0, none⟩ = false := by rw [hb12.frozen (by simp; omega)]; exact f1
  have hS2 := hS1.keep hb12 (Nat.le_refl _)
  have HB2 := Lib.hid (HB1.out.trans (hb12.mono HB1.out.size))
  have HC := Lib.hid (lcheck_any p S r W2 hm2 HN.out hcl hul hS2)
  have HS2 := Lib.hid hS2
  have hz2 := hb12.size
  clear hm hb2 hbz hb12 hm2 hS1 hS2 c1 f1 hW2
  go_wp2_with fail
  refine HC.out.mono ?_
  rintro e w4 (⟨hok, rfl, hb4⟩ | ⟨hok, b, rfl, _, _, hb4⟩)
  · have HL := Lib.hid (show ownL S = S.key :: S.uqs by unfold ownL; rw [hok]; rfl)
    have c4 : w4.cell? ⟨w.heap.size + 1, 0, none⟩ = some (.slice none 0 0) := by rw [hb4.cell (by simp; omega)]; exact c2
    have f4 : w4.frozen? ⟨w.heap.size + 1, 0, none⟩ = false := by rw [hb4.frozen (by simp; omega)]; exact f2
    replace l0 := keep_cellS hb4 l0
    replace l1 := keep_cellS hb4 l1
    replace l2 := keep_cellS hb4 l2
    replace l3 := keep_cellS hb4 l3
    have hS4 := HS2.out.keep hb4 (Nat.le_refl _)
    have HB4 := Lib.hid (HB2.out.trans (hb4.mono HB2.out.size))
    have hz4 := hb4.size
    obtain ⟨hs, hU⟩ := hS4.uqs.at
    have HU := Lib.hid hU
    have HK := Lib.hid hS4.key
    obtain ⟨hs, hU⟩ := HS.out.uqs.at
    have HU := Lib.hid hU
    have HK := Lib.hid HS.out.key
    have hou : ∀ k, GS p.ou S.uqs k → k < w.heap.size := fun k hk => by
      obtain ⟨⟨a, e, rfl⟩, hne⟩ := hk
      cases hu : S.uqs with
      | nil => exact absurd hu hne
      | cons x l =>
        obtain ⟨a', e', hc, _⟩ := hU 0 (by rw [hu]; simp)
        rw [e] at e'
        cases e'
        have := World.block_lt_of_cell? w _ hc
        rwa [add_block] at this
    have HOU := Lib.hid hou
    have hU4 := hU.keep HB4.out (Nat.le_refl _)
    have HU4 := Lib.hid hU4
    have h0 : Ow w w4 (w.heap.size + 1) (w4.heap.size + 3) S [] w4 := ⟨⟨_, [], c4, World.ownsRow_nil _ _ _ _, rfl, fun e he => by cases he⟩, f4, fun _ _ _ => rfl, Nat.le_refl _, HB4.out⟩
    have H0 := Lib.hid h0
    have hwz := HB4.out.size
    clear hb4 hU c2 f2 HC hok c4 f4 hou hU4 h0
    go_wp2_with fail
    have hmx : Tryz.prog.follows .mixedOrders = true := by kernel_rfl
    obtain ⟨i0, hi0, hq0, hq1, hq2⟩ := info_parts infoIs
    refine (wpIn_wide (n := 5)).1 ?_
    refine wpIn_turnsX (F := Fence.wide) (G := GS p.ou S.uqs) (m := 1) rfl (by decide) (gf := 112) (fb := #[.agg #[.slice p.oc S.cols.length p.cc, .slice p.ok S.key.length p.ck, .slice p.ou S.uqs.length p.cu, .map (some r)]]) (lb := #[]) rfl trivial (enters_of Tryz.func112 (by kernel_rfl) rfl)
      (lsets_turnsX 4 (by decide) p S (some r) hs w4 (by omega) HU4.out) (fun k hk => by have := HOU.out k hk; omega) (fun x => rfl)
      (Ow w w4 (w.heap.size + 1) (w4.heap.size + 3) S) (fun _ _ _ => False) (Ow.still (by omega) hwz) (fun c => ⟨fun _ _ _ h _ => h, fun _ _ _ _ _ _ h _ => h⟩) (fun _ _ _ _ _ _ _ _ => trivial) H0.out
      (fun x => { tmps := #[.agg #[.slice p.oc S.cols.length p.cc, .slice p.ok S.key.length p.ck, .slice p.ou S.uqs.length p.cu], .pointer (some ⟨w.heap.size, 0, none⟩), .nilFunc, .pointer (some ⟨w.heap.size + 1, 0, none⟩), .pointer (some ⟨w2.heap.size, 0, none⟩), undef, svS p S hs x,
        .agg #[.slice p.oc S.cols.length p.cc, .slice p.ok S.key.length p.ck, .slice p.ou S.uqs.length p.cu], .agg #[.slice p.oc S.cols.length p.cc, .slice p.ok S.key.length p.ck, .slice p.ou S.uqs.length p.cu, .map (some r)], .agg #[.slice p.oc S.cols.length p.cc, .slice p.ok S.key.length p.ck, .slice p.ou S.uqs.length p.cu, .map (some r)], .nilIface, .bool true,
        .agg #[.slice p.oc S.cols.length p.cc, .slice p.ok S.key.length p.ck, .slice p.ou S.uqs.length p.cu, .map (some r)], .func (.func 112) #[.agg #[.slice p.oc S.cols.length p.cc, .slice p.ok S.key.length p.ck, .slice p.ou S.uqs.length p.cu, .map (some r)]] #[], .int .i64 x, svS p S hs x, undef, undef, undef, undef, undef, undef], defers := [] }) ?assign ?body ?done ?stop
    case assign =>
      intro l x W K hK
      simp only [encS]
      gi_wp2
      exact hK
    case body =>
      rintro l pre x W hI hsp _ hszW
      obtain ⟨rfl, hx⟩ := sp_last hsp
      obtain ⟨ob, cb, hsv, hint⟩ := sv_at p S hs w x HK.out HU.out hx
      have hintW := hint.keep hI.below (Nat.le_refl _)
      have hsl : (setAt S x).length ≤ 1000 := by
        unfold setAt
        by_cases h0 : x = 0
        · rw [if_pos h0]; exact hkl
        · rw [if_neg h0, List.getD_eq_getElem?_getD, List.getElem?_eq_getElem (show x - 1 < S.uqs.length by omega)]
          exact HPL.out _ (List.getElem_mem _)
      have HI := Lib.hid hI
      obtain ⟨⟨v, es, e1, e2, e3, e4⟩, e5, e6, e7, e8⟩ := hI
      rw [hsv]
      obtain ⟨is, his⟩ : ∃ is, setAt S x = is := ⟨_, rfl⟩
      rw [his] at hintW hsl hint
      have HIS := Lib.hid his
      rw [his]
      clear e2 e3 e4 e6 e7 e8 hint hsv his
      gi_wp2_with fail
      refine wpIn_region_any hmx ?_
      change wpAnyIn _ _ _ _ _ _ _ _ _ (World.drew _)
      refine wpAnyIn_two 0 1 (by kernel_rfl) ?_ ?_
      · unfold wpOpIn
        go_simp
        refine wpAnyIn_one 1 (by kernel_rfl) ?_
        unfold wpOpIn
        go_simp
        refine wpAnyIn_one 2 (by kernel_rfl) ?_
        unfold wpOpIn
        go_simp
        refine ⟨trivial, (CallsIn.inRound l (callsIn_wide.2 (CloneI_any ob cb is W.drew hintW hsl))).mono ?_⟩
        rintro e w5 ⟨oc5, cc5, rfl, hN5⟩
        obtain ⟨a7, n7, c7, w7, hrun, k1, k2, k3, k4⟩ := ow_step HI.out e1 (by omega) (by omega) HOU.out (by omega) (by omega) hN5 HIS.out
        have kz : w.heap.size + 1 < w5.heap.size := by have : W.drew.heap.size = W.heap.size := rfl; have := hN5.below.size; omega
        have kc : w5.cell? ⟨w.heap.size + 1, 0, none⟩ = some v := by rw [hN5.below.cell (by show w.heap.size + 1 < W.heap.size; omega)]; exact e1
        have HK3 := Lib.hid k3
        have HK4 := Lib.hid k4
        have HRUN := Lib.hid hrun
        clear k3 k4 hrun
        dsimp only
        refine wpAnyIn_one 3 (by kernel_rfl) ?_
        unfold wpOpIn
        go_simp
        refine wpAnyIn_one 4 (by kernel_rfl) ?_
        refine wpOpIn_append (fun _ => trivial) rfl rfl (s := .tmp 16) (x := .tmp 19) (t := 24) rfl rfl rfl HRUN.out ?_
        refine wpAnyIn_one 5 (by kernel_rfl) ?_
        unfold wpOpIn
        go_simp
        refine ⟨by kernel_rfl, ?_⟩
        exact ⟨HK4.out, HK3.out⟩
      · unfold wpOpIn
        go_simp
        refine wpAnyIn_two 0 2 (by kernel_rfl) ?_ ?_
        · unfold wpOpIn
          go_simp
          refine wpAnyIn_one 2 (by kernel_rfl) ?_
          unfold wpOpIn
          go_simp
          refine ⟨trivial, (CallsIn.inRound l (callsIn_wide.2 (CloneI_any ob cb is W.drew hintW hsl))).mono ?_⟩
          rintro e w5 ⟨oc5, cc5, rfl, hN5⟩
          obtain ⟨a7, n7, c7, w7, hrun, k1, k2, k3, k4⟩ := ow_step HI.out e1 (by omega) (by omega) HOU.out (by omega) (by omega) hN5 HIS.out
          have kz : w.heap.size + 1 < w5.heap.size := by have : W.drew.heap.size = W.heap.size := rfl; have := hN5.below.size; omega
          have kc : w5.cell? ⟨w.heap.size + 1, 0, none⟩ = some v := by rw [hN5.below.cell (by show w.heap.size + 1 < W.heap.size; omega)]; exact e1
          have HK3 := Lib.hid k3
          have HK4 := Lib.hid k4
          have HRUN := Lib.hid hrun
          clear k3 k4 hrun
          dsimp only
          refine wpAnyIn_one 3 (by kernel_rfl) ?_
          unfold wpOpIn
          go_simp
          refine wpAnyIn_one 4 (by kernel_rfl) ?_
          refine wpOpIn_append (fun _ => trivial) rfl rfl (s := .tmp 16) (x := .tmp 19) (t := 24) rfl rfl rfl HRUN.out ?_
          refine wpAnyIn_one 5 (by kernel_rfl) ?_
          unfold wpOpIn
          go_simp
          refine ⟨by kernel_rfl, ?_⟩
          exact ⟨HK4.out, HK3.out⟩
        · unfold wpOpIn
          go_simp
          refine ⟨trivial, (CallsIn.inRound l (callsIn_wide.2 (CloneI_any ob cb is W.drew hintW hsl))).mono ?_⟩
          rintro e w5 ⟨oc5, cc5, rfl, hN5⟩
          obtain ⟨a7, n7, c7, w7, hrun, k1, k2, k3, k4⟩ := ow_step HI.out e1 (by omega) (by omega) HOU.out (by omega) (by omega) hN5 HIS.out
          have kz : w.heap.size + 1 < w5.heap.size := by have : W.drew.heap.size = W.heap.size := rfl; have := hN5.below.size; omega
          have kc : w5.cell? ⟨w.heap.size + 1, 0, none⟩ = some v := by rw [hN5.below.cell (by show w.heap.size + 1 < W.heap.size; omega)]; exact e1
          have HK3 := Lib.hid k3
          have HK4 := Lib.hid k4
          have HRUN := Lib.hid hrun
          clear k3 k4 hrun
          dsimp only
          refine wpAnyIn_two 0 3 (by kernel_rfl) ?_ ?_
          · unfold wpOpIn
            go_simp
            refine wpAnyIn_one 3 (by kernel_rfl) ?_
            unfold wpOpIn
            go_simp
            refine wpAnyIn_one 4 (by kernel_rfl) ?_
            refine wpOpIn_append (fun _ => trivial) rfl rfl (s := .tmp 16) (x := .tmp 19) (t := 24) rfl rfl rfl HRUN.out ?_
            refine wpAnyIn_one 5 (by kernel_rfl) ?_
            unfold wpOpIn
            go_simp
            refine ⟨by kernel_rfl, ?_⟩
            exact ⟨HK4.out, HK3.out⟩
          · unfold wpOpIn
            go_simp
            refine wpAnyIn_one 0 (by kernel_rfl) ?_
            unfold wpOpIn
            go_simp
            refine wpAnyIn_one 4 (by kernel_rfl) ?_
            refine wpOpIn_append (fun _ => trivial) rfl rfl (s := .tmp 16) (x := .tmp 19) (t := 24) rfl rfl rfl HRUN.out ?_
            refine wpAnyIn_one 5 (by kernel_rfl) ?_
            unfold wpOpIn
            go_simp
            refine ⟨by kernel_rfl, ?_⟩
            exact ⟨HK4.out, HK3.out⟩
    case done =>
      rintro xs W1 rfl ⟨⟨v, es, h1, h2, h3, h4⟩, h5, h6, h7, h8⟩ hD
      obtain ⟨oo, co, rfl, hsets⟩ := ow_sets h2 (h3.trans (ownL_sets S)) (fun e he => ⟨(h4 e he).1, (h4 e he).2.1⟩)
      have HST := Lib.hid hsets
      have H1 := Lib.hid h1
      have H8 := Lib.hid h8
      have HD := Lib.hid hD
      have HPL : Hid ((∀ a, oo = some a → w.heap.size ≤ a.block) ∧ ∀ j, j < (ownL S).length → ∀ a, (hAt (es.map (·.1)) j).1 = some a → w.heap.size ≤ a.block) := Lib.hid (by
        have hw4 : w.heap.size ≤ w4.heap.size := HB4.out.size
        refine ⟨fun a ea => ?_, fun j hj a ea => ?_⟩
        · have hg := h2.lt a.block (by rw [ea]; rfl)
          omega
        · have hlen : (ownL S).length = es.length := by rw [HL.out, ← h3.trans (ownL_sets S)]; simp
          have hje : j < es.length := by omega
          have e1 : hAt (es.map (·.1)) j = es[j].1 := by unfold hAt; rw [List.getD_eq_getElem?_getD, List.getElem?_map, List.getElem?_eq_getElem hje]; rfl
          rw [e1] at ea
          have hb := ((h4 es[j] (List.getElem_mem hje)).2.2 a ea).1
          omega)
      clear hsets h1 h2 h3 h4 h5 h6 h7 h8 hD
      go_wp2_with fail
      refine ⟨by simp, .inl ⟨_, _, rfl, run_takeDeferred HD.out, ?_⟩⟩
      refine ⟨_, by simp [results, Tryz.results76], w.heap.size + 1, oo, co, es.map (·.1), rfl, ?_, ?_, below_put H8.out (by omega) _, by omega, HPL.out.1, fun j hj => HPL.out.2 j (by simpa only [HL.out] using hj)⟩
      · rw [HL.out]
        exact cell_put H1.out HD.out _
      · rw [HL.out]
        exact sets_put HST.out HD.out _
    case stop => intro c pre W _ h; exact h.elim
  · have HL := Lib.hid (show ownL S = [] by unfold ownL; rw [hok]; rfl)
    have c4 : w4.cell? ⟨w.heap.size + 1, 0, none⟩ = some (.slice none 0 0) := by rw [hb4.cell (by simp; omega)]; exact c2
    have HB4 := Lib.hid (HB2.out.trans (hb4.mono HB2.out.size))
    clear hb4 HC hok
    go_wp2_with fail
    refine ⟨_, by simp [results, Tryz.results76], w.heap.size + 1, none, 0, [], rfl, ?_, ?_, HB4.out, by omega, (fun a ea => by cases ea), (fun j hj a ea => by cases ea)⟩
    · rw [HL.out]; exact c4
    · rw [HL.out]; exact fun j hj => absurd hj (Nat.not_lt_zero j)
theorem Sets_any (p : SchV) (S : Sch) (w : World) (hnm : ∀ c ∈ S.cols, c.n.size ≤ 9223372036854775807) (hcl : S.cols.length ≤ 1000) (hul : S.uqs.length ≤ 6) (hkl : S.key.length ≤ 1000) (hpl : ∀ l ∈ S.uqs, l.length ≤ 1000) (hS : SchIn w p S) :
    Calls Tryz.prog 76 #[.agg #[.slice p.oc S.cols.length p.cc, .slice p.ok S.key.length p.ck, .slice p.ou S.uqs.length p.cu]] w fun e w' => ∃ cb oo co hs, e = .returned (.func (.func 114) #[] #[.pointer (some ⟨cb, 0, none⟩)]) ∧ w'.cell? ⟨cb, 0, none⟩ = some (.slice oo (ownL S).length co) ∧ SetsAt w' oo (ownL S) hs ∧ Below w.heap.size w w' := by
  refine (Sets_anyT p S w hnm hcl hul hkl hpl hS).mono ?_
  rintro e w' ⟨cb, oo, co, hs, h1, h2, h3, h4, _⟩
  exact ⟨cb, oo, co, hs, h1, h2, h3, h4⟩
end Go.Proofs.YtocmjlnhcloccaaGreatDoor
