/-
  A range over a function that hands on what lies in memory: as text VSeq, with facts about what is handed on.
-/
import Derived.Test.YtocmjlnhcloccaaGreatDoorSSch
namespace Go.Proofs.YtocmjlnhcloccaaGreatDoor
open Go.RowKit

/-- THE ITERATOR's CONTRACT -/
def SeqTurnsF {α : Type} (F : Fence) (n : Nat) (P : Program) (g : Nat) (lb : Array Value) (encs : α → Array Value) (G : Nat → Prop) (S Sp : List α → Prop) (Fx : α → World → Prop) (w : World) : Prop :=
  ∀ (l : Nat) (J Jx : List α → World → Prop) (W : World), Below w.heap.size w W → Firm W.heap.size J → Firm W.heap.size Jx →
    (∀ pre x W1, J pre W1 → Sp (pre ++ [x]) → Fx x W1 → W.heap.size ≤ W1.heap.size → YieldAt F (n - 1) P l (encs x) W1 fun e W' =>
      (e = .returned (.bool true) ∧ J (pre ++ [x]) W' ∧ Keep W.heap.size G W1 W') ∨ (e = .returned (.bool false) ∧ Jx (pre ++ [x]) W' ∧ Keep W.heap.size G W1 W')) →
    J [] W →
    CallsIn F n P g (#[.func (.yield l) #[] #[]] ++ lb) W fun e W' => (∃ v, e = .returned v) ∧ ((∃ xs, S xs ∧ J xs W') ∨ (∃ pre, Sp pre ∧ Jx pre W'))

variable {F : Fence} {n : Nat} {P : Program}
/-- THE LOOP's LAW -/
theorem wpIn_turnsF {α : Type} {g : Operand} {ps : Array Tmp} {assign body : Code} {Q : Exit → Act → World → Prop} {a : Act} {w : World}
    (hro : F.round = none) (h1 : 1 ≤ n) {gf : Nat} {lb : Array Value} (hg : a.eval g = .func (.func gf) #[] lb) (hFg : F.fn gf) (eg : ∀ args w, (callFunc gf args).run P w = .ok (.enter gf args) w)
    {encs : α → Array Value} {G : Nat → Prop} {S Sp : List α → Prop} {Fx : α → World → Prop} (hseq : SeqTurnsF F (n - 1) P gf lb encs G S Sp Fx w) (hG : ∀ k, G k → k < w.heap.size) (hps : ∀ x, (encs x).size = ps.size)
    (I : List α → World → Prop) (Ix : Code → List α → World → Prop) (hI : Firm w.heap.size I) (hIx : ∀ c, Firm w.heap.size (Ix c)) (hFx : ∀ x W l r o, Fx x W → W.heap[l]? = some (.loop r) → Fx x (W.putObj l o)) (h0 : I [] w) (a₁ : α → Act)
    (hassign : ∀ (l : Nat) (x : α) (W : World) (K : Act → World → Prop), K (a₁ x) W →
      assign.wpIn (F.inRound l) (n - 1 - 1) P (Exit.then K (fun _ _ _ => False)) { tmps := (ps.zip (encs x)).foldl (fun t (p, v) => t.setIfInBounds p v) a.tmps, defers := [] } W)
    (hbody : ∀ (l : Nat) (pre : List α) (x : α) (W : World), I pre W → Sp (pre ++ [x]) → Fx x W → w.heap.size + 2 ≤ W.heap.size → body.wpIn (F.inRound l) (n - 1 - 1) P (turnPost w.heap.size G I Ix (pre ++ [x]) W) (a₁ x) W)
    (hdone : ∀ (xs : List α) (W : World), S xs → I xs W → W.heap[w.heap.size]? = some (.deferred (some [])) → Q .normal { a with defers := { target := .collected w.heap.size, args := #[] } :: a.defers } W)
    (hstop : ∀ (c : Code) (pre : List α) (W : World), Sp pre → Ix c pre W → W.heap[w.heap.size]? = some (.deferred (some [])) → c.wpIn F n P Q { a with defers := { target := .collected w.heap.size, args := #[] } :: a.defers } W) :
    (Code.rangeFunc g ps assign body).wpIn F n P Q a w := by
  refine wpIn_rangeFunc fun fn hfn => ?_
  rw [hro]
  obtain ⟨B, hB⟩ : ∃ B, w.heap.size = B := ⟨_, rfl⟩
  rw [hB] at hI hIx hbody hdone hstop
  obtain ⟨rec, hrec⟩ : ∃ rec : LoopState → Option Code → Obj, rec = fun st pe => .loop { state := st, pending := pe, fn, tmps := a.tmps, params := ps, assign, body, defers := B } := ⟨_, rfl⟩
  obtain ⟨W1, hW1⟩ : ∃ W1, (w.alloc (.deferred (some []))).alloc (rec .ready none) = W1 := ⟨_, rfl⟩
  have hsz : W1.heap.size = B + 2 := by rw [← hW1, ← hB]; simp
  have hb1 : Below B w W1 := by
    rw [← hW1]
    exact ((Below.refl _ w).alloc (by omega) _).alloc (by simp; omega) _
  have hL1 : W1.heap[B + 1]? = some (rec .ready none) := by
    rw [← hW1, ← hB]
    have := World.alloc_heap_new (w.alloc (.deferred (some []))) (rec .ready none)
    rwa [World.size_alloc] at this
  have hD1 : W1.heap[B]? = some (.deferred (some [])) := by
    rw [← hW1, ← hB]
    exact (Below.heap_alloc _ _ _ (by simp)).trans (World.alloc_heap_new w _)
  refine ⟨B + 1, [{ target := .collected B, args := #[] }], W1, { target := .fn (.func gf) lb, args := #[.func (.yield (B + 1)) #[] #[]] }, W1, gf, #[.func (.yield (B + 1)) #[] #[]] ++ lb, W1, ?_, ?_, ?_, ?_, fun _ => h1, ?_⟩
  · rw [← hW1, hrec, ← hB]
    exact run_enterLoop_outer _ _ _ _ _
  · simp only [resolve, hg]
    simp [go_sem]
  · intro f' hf'
    simp [Target.leads] at hf'
    exact hf' ▸ hFg
  · simp [invoke, go_sem, eg]
  refine (hseq (B + 1) (fun pre W => I pre W ∧ W.heap[B + 1]? = some (rec .ready none) ∧ W.heap[B]? = some (.deferred (some [])))
    (fun pre W => ∃ c, Ix c pre W ∧ W.heap[B + 1]? = some (rec .done (some c)) ∧ W.heap[B]? = some (.deferred (some []))) W1 (by rw [hB]; exact hb1) ?_ ?_ ?_ ⟨hI _ _ _ h0 hb1, hL1, hD1⟩).mono ?_
  · rintro s A A' ⟨hi, hl, hd⟩ hb
    rw [hsz] at hb
    exact ⟨hI _ _ _ hi (hb.mono (by omega)), (hb.block _ (by omega)).trans hl, (hb.block _ (by omega)).trans hd⟩
  · rintro s A A' ⟨c, hi, hl, hd⟩ hb
    rw [hsz] at hb
    exact ⟨c, hIx c _ _ _ hi (hb.mono (by omega)), (hb.block _ (by omega)).trans hl, (hb.block _ (by omega)).trans hd⟩
  · rintro pre x W ⟨hi, hl, hd⟩ hsp hfx hsz2
    rw [hsz] at hsz2 ⊢
    have hl' := hl
    rw [hrec] at hl'
    have hy := run_yield (P := P) (args := encs x) hl' (hps x)
    refine ⟨fn, _, assign, body, hy, roundIn_of_wpIn hfn (hassign _ x W _ ⟨_, run_beginRound hl' rfl, ?_⟩)⟩
    have kp : ∀ (V : World) (o : Obj), B + 2 ≤ V.heap.size → Keep (B + 2) G V (V.putObj (B + 1) o) := fun V o hV =>
      ⟨by simp, fun k _ hk => World.putObj_heap_other (by rcases hk with hk | hk; omega; have := hG k hk; omega)⟩
    have mv : ∀ (V V' : World), Keep B G V V' → Keep (B + 2) G V V' := fun V V' h => ⟨h.size, fun k hk hh => h.same k hk (hh.imp_left (fun h => by omega))⟩
    have hk2 := kp W (rec .busy none) hsz2
    have hl2 : (W.putObj (B + 1) (rec .busy none)).heap[B + 1]? = some (rec .busy none) := World.putObj_heap_same (by omega)
    have hd2 : (W.putObj (B + 1) (rec .busy none)).heap[B]? = some (.deferred (some [])) := (World.putObj_heap_other (by omega)).trans hd
    have hf2 : Fx x (W.putObj (B + 1) (rec .busy none)) := hFx x W (B + 1) _ _ hfx hl'
    have hi2 : I pre (W.putObj (B + 1) (rec .busy none)) := hI.put _ hi (by omega) (by omega)
    have hs2 : B + 2 ≤ (W.putObj (B + 1) (rec .busy none)).heap.size := by simp; omega
    rw [hrec] at hk2 hl2 hd2 hi2 hf2 hs2
    replace hs2 : B + 2 ≤ (W.putObj (B + 1) (.loop { state := .busy, pending := none, fn, tmps := a.tmps, params := ps, assign, body, defers := B })).heap.size := hs2
    refine wpIn_mono (hbody _ pre x _ hi2 hsp hf2 hs2) ?_
    have fin : ∀ (jump : Option Code) (W3 : World), Keep B G (W.putObj (B + 1) (.loop { state := .busy, pending := none, fn, tmps := a.tmps, params := ps, assign, body, defers := B })) W3 →
        (Instr.endRound (B + 1) jump).run P W3 = .ok (.bool jump.isNone) (W3.putObj (B + 1) (rec (if jump.isNone then .ready else .done) jump)) ∧ B + 2 ≤ W3.heap.size ∧
        (W3.putObj (B + 1) (rec (if jump.isNone then .ready else .done) jump)).heap[B + 1]? = some (rec (if jump.isNone then .ready else .done) jump) ∧
        (W3.putObj (B + 1) (rec (if jump.isNone then .ready else .done) jump)).heap[B]? = some (.deferred (some [])) := fun jump W3 hk3 => by
      have hl3 := (hk3.same (B + 1) (by omega) (.inl (by omega))).trans hl2
      have hd3 := (hk3.same B (by omega) (.inl (by omega))).trans hd2
      have hs3 := hk3.size
      have he := run_endRound (P := P) jump hl3
      rw [hrec]
      exact ⟨he, by omega, World.putObj_heap_same (by omega), (World.putObj_heap_other (by omega)).trans hd3⟩
    rintro e a3 W3 hp
    cases e with
    | normal =>
      obtain ⟨hk3, hi3⟩ := hp
      obtain ⟨hr, hs3, hl4, hd4⟩ := fin none W3 hk3
      exact ⟨_, _, hr, .inl ⟨rfl, ⟨hI.put _ hi3 (by omega) (by omega), hl4, hd4⟩, (hk2.trans (mv _ _ hk3)).trans (kp _ _ hs3)⟩⟩
    | ret =>
      obtain ⟨hk3, hi3⟩ := hp
      obtain ⟨hr, hs3, hl4, hd4⟩ := fin (some .ret) W3 hk3
      exact ⟨_, _, hr, .inr ⟨rfl, ⟨.ret, (hIx _).put _ hi3 (by omega) (by omega), hl4, hd4⟩, (hk2.trans (mv _ _ hk3)).trans (kp _ _ hs3)⟩⟩
    | exit id =>
      obtain ⟨hk3, hi3⟩ := hp
      obtain ⟨hr, hs3, hl4, hd4⟩ := fin (some (.exit id)) W3 hk3
      exact ⟨_, _, hr, .inr ⟨rfl, ⟨.exit id, (hIx _).put _ hi3 (by omega) (by omega), hl4, hd4⟩, (hk2.trans (mv _ _ hk3)).trans (kp _ _ hs3)⟩⟩
    | goto t => exact hp.elim
    | panic ch => exact hp.elim
    | outgrown => exact hp.elim
  · rintro e W2 ⟨⟨v, rfl⟩, (⟨xs, hS, hi, hl, hd⟩ | ⟨pre, hSp, c, hi, hl, hd⟩)⟩
    · have hlt := (Array.getElem?_eq_some_iff.1 hl).1
      rw [hrec] at hl
      exact ⟨none, _, run_endLoop (P := P) hl (by simp), hdone _ _ hS (hI.put _ hi (by omega) hlt) ((World.putObj_heap_other (by omega)).trans hd)⟩
    · have hlt := (Array.getElem?_eq_some_iff.1 hl).1
      rw [hrec] at hl
      exact ⟨some c, _, run_endLoop (P := P) hl (by simp), hstop c _ _ hSp ((hIx c).put _ hi (by omega) hlt) ((World.putObj_heap_other (by omega)).trans hd)⟩
end Go.Proofs.YtocmjlnhcloccaaGreatDoor
