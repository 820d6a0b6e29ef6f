/-
  disk: Copy.
-/
import Derived.Test.YtbhgcioeibhjeaaDoorDApart
import Derived.Test.YtbhgcioeibhjeaaDoorDWks
namespace Go.Proofs.YtbhgcioeibhjeaaDoor
open Go.RowKit

theorem eq_slT (a : Addr) (n c : Nat) (W : World) : (binOp .eql 61 (.slice (some a) n c) (.slice none 0 0)).run Tryd.prog W = .ok (.bool false) W := by kernel_rfl
theorem eq_slTN (W : World) : (binOp .eql 61 (.slice none 0 0) (.slice none 0 0)).run Tryd.prog W = .ok (.bool true) W := by kernel_rfl
theorem ownsRow_base {w : World} {N M e size n : Nat} {v : Value} {xs : List Value} (h : w.ownsRow M e size v n xs) (hb : N ≤ M) : w.ownsRow N e size v n xs := by
  refine ⟨h.1, ?_⟩
  rcases h.2 with h0 | ⟨g, cap, cur, e0, h1, h2⟩
  · exact .inl h0
  · exact .inr ⟨g, cap, cur, e0, Nat.le_trans hb h1, h2⟩
/-- what of the old disk lies in a world that came of it -/
structure Old (w W : World) (N p mf ms : Nat) (V U : Nat → Value) (lv : Value) (B : List (Th × Nat × Nat)) (D : Dk) : Prop where
  below : Below w.heap.size w W
  ff : Fs W mf V D.F
  gg : Fs W ms U D.G
  row : W.ownsRow N 76 6 lv B.length (B.flatMap fun x => thC x.1 x.2.1 x.2.2)
theorem DkW.old {N : Nat} {w W : World} {Φ : Nat → Prop} {p mf ms : Nat} {V U : Nat → Value} {lv : Value} {B : List (Th × Nat × Nat)} {D : Dk} (h : DkW N w Φ p mf ms V U lv B D) (hb : Below w.heap.size w W) : Old w W N p mf ms V U lv B D := by
  have h2 := h.keep hb.size (fun k hk => hb.block k (h.lt k hk).2)
  exact ⟨hb, h2.ff, h2.gg, h2.row⟩
/-- the new disk, put together -/
theorem DkW.copied {N : Nat} {w wa w1 wb w2 wc w3 wd : World} {Φ : Nat → Prop} {p mf ms : Nat} {V U V1 U1 : Nat → Value} {lv lv1 : Value} {B : List (Th × Nat × Nat)} {D : Dk} (h : DkW N w Φ p mf ms V U lv B D) (hN : N ≤ w.heap.size)
    (hba : Below w.heap.size w wa) (f1 : Fs w1 wa.heap.size V1 D.F) (o1 : ∀ f g, (V1 f).ownBlock = some g → wa.heap.size < g) (hb1 : Below wa.heap.size wa w1)
    (hbb : Below w1.heap.size w1 wb) (f2 : Fs w2 wb.heap.size U1 D.G) (o2 : ∀ f g, (U1 f).ownBlock = some g → wb.heap.size < g) (hb2 : Below wb.heap.size wb w2)
    (hbc : Below w2.heap.size w2 wc) (r3 : w3.ownsRow wc.heap.size 76 6 lv1 B.length (B.flatMap fun x => thC x.1 x.2.1 x.2.2)) (hb3 : Below wc.heap.size wc w3) (hbd : Below w3.heap.size w3 wd) :
    ∃ Φ', DkAt N (wd.alloc (.cells #[.map (some wa.heap.size), .map (some wb.heap.size), lv1, .int .i64 D.room] 63)) Φ' wd.heap.size D ∧ TurnD w (wd.alloc (.cells #[.map (some wa.heap.size), .map (some wb.heap.size), lv1, .int .i64 D.room] 63)) Φ Φ' := by
  obtain ⟨we, hwe⟩ : ∃ we, wd.alloc (.cells #[.map (some wa.heap.size), .map (some wb.heap.size), lv1, .int .i64 D.room] 63) = we := ⟨_, rfl⟩
  have hp : we.heap[wd.heap.size]? = some (.cells #[.map (some wa.heap.size), .map (some wb.heap.size), lv1, .int .i64 D.room] 63 (0, 0)) := by rw [← hwe]; exact heap_alloc_at wd _
  have hbe : Below wd.heap.size wd we := by rw [← hwe]; exact (Below.refl _ wd).alloc (Nat.le_refl _) _
  have hze : we.heap.size = wd.heap.size + 1 := by rw [← hwe]; simp
  rw [hwe]
  have s0 := hba.size
  have s1 := hb1.size
  have s2 := hbb.size
  have s3 := hb2.size
  have s4 := hbc.size
  have s5 := hb3.size
  have s6 := hbd.size
  have k1 : Below w1.heap.size w1 we := hbb.trans ((hb2.mono (by omega)).trans ((hbc.mono (by omega)).trans ((hb3.mono (by omega)).trans ((hbd.mono (by omega)).trans (hbe.mono (by omega))))))
  have k2 : Below w2.heap.size w2 we := hbc.trans ((hb3.mono (by omega)).trans ((hbd.mono (by omega)).trans (hbe.mono (by omega))))
  have k3 : Below w3.heap.size w3 we := hbd.trans (hbe.mono (by omega))
  have k0 : Below w.heap.size w we := hba.trans ((hb1.mono (by omega)).trans (k1.mono (by omega)))
  have m1 := f1.map.lt
  have m2 := f2.map.lt
  have v1 : ∀ f g, (V1 f).ownBlock = some g → g < w1.heap.size := fun f g hg => (f1.row f).lt g hg
  have u1 : ∀ f g, (U1 f).ownBlock = some g → g < w2.heap.size := fun f g hg => (f2.row f).lt g hg
  refine ⟨grewΦ w we Φ, ⟨wa.heap.size, wb.heap.size, V1, U1, lv1, B, ⟨hp, f1.keep (k1.block _ m1) (fun f g hg => k1.block _ (v1 f g hg)), f2.keep (k2.block _ m2) (fun f g hg => k2.block _ (u1 f g hg)), by omega, fun f f' g _ ha hb => ?_, fun f g ha hb => ?_, ownsRow_base (ownsRow_same r3 (fun g hg => k3.block _ (r3.lt g hg).2)) (by omega), fun x hx => (h.bx x hx).same (k0.block _ (h.lt _ (h.fb x hx).1).2) (k0.block _ (h.lt _ (h.fb x hx).2).2), h.lb, .inr ⟨by omega, by omega⟩, .inr ⟨by omega, by omega⟩, .inr ⟨by omega, by omega⟩, fun f g hg => .inr ?_, fun f g hg => .inr ?_, fun g hg => .inr ?_, fun x hx => ⟨.inl (h.fb x hx).1, .inl (h.fb x hx).2⟩, fun k hk => ?_⟩⟩, ⟨k0.os, k0.tape, k0.output, k0.size, fun k hk _ => k0.block k hk, fun k hk => ?_⟩⟩
  · have := v1 f g ha
    have := o2 f' g hb
    omega
  · have := v1 f g ha
    have := o2 f g hb
    omega
  · have := v1 f g hg
    have := o1 f g hg
    exact ⟨by omega, by omega⟩
  · have := u1 f g hg
    have := o2 f g hg
    exact ⟨by omega, by omega⟩
  · have := r3.lt g hg
    exact ⟨by omega, by omega⟩
  · rcases hk with hk | hk
    · exact ⟨(h.lt k hk).1, by have := (h.lt k hk).2; omega⟩
    · exact ⟨by omega, hk.2⟩
  · rcases hk with hk | hk
    · exact .inl hk
    · exact .inr hk.1
end Go.Proofs.YtbhgcioeibhjeaaDoor
