/-
  disk: (*Disk).do.
-/
import Derived.Test.YtlnemefegkjjiaaDoorDDo
namespace Go.Proofs.YtlnemefegkjjiaaDoor
open Go.RowKit

def Dk.did (D : Dk) (t : Th) : Dk := { D with F := doneF D.F t, L := D.L ++ [t] }
/-- a disk behind the store of its longer list -/
theorem DkW.pushed {N : Nat} {w w1 : World} {Φ : Nat → Prop} {p mf ms : Nat} {V U : Nat → Value} {lv lv' : Value} {B : List (Th × Nat × Nat)} {D : Dk} {t : Th} {b1 b2 : Nat} (h : DkW N w Φ p mf ms V U lv B D) (hs : N ≤ w.heap.size)
    (hb : BoxIn w t b1 b2) (hΦ : Φ b1 ∧ Φ b2) (hg : w.grownBy w1 lv.ownBlock) (hrow : w1.ownsRow N 68 6 lv' (B.length + 1) ((B.flatMap fun x => thC x.1 x.2.1 x.2.2) ++ thC t b1 b2)) (hown : lv'.ownBlock = lv.ownBlock ∨ lv'.ownBlock = some w.heap.size) :
    DkW N (w1.setCell ⟨p, 2, none⟩ lv') (grewΦ w w1 Φ) p mf ms V U lv' (B ++ [(t, b1, b2)]) { D with L := D.L ++ [t] } ∧ TurnD w (w1.setCell ⟨p, 2, none⟩ lv') Φ (grewΦ w w1 Φ) := by
  have hlt := fun k (hk : Φ k) => (h.lt k hk).2
  -- the row's block is of things alone
  have hrb : ∀ g, lv.ownBlock = some g → ∃ cur, w.heap[g]? = some (.cells cur 68 (0, 0)) := fun g hg => by
    rcases h.row.2 with ⟨e0, _⟩ | ⟨b, cap, cur, e0, _, h2, _⟩
    · rw [e0] at hg; cases hg
    · rw [e0] at hg; cases hg; exact ⟨cur, h2⟩
  have hp1 : w1.heap[p]? = w.heap[p]? := hg.block p (hlt p h.fp) (fun e => by
    obtain ⟨cur, hc⟩ := hrb p e.symm
    rw [h.p0] at hc
    cases hc)
  have hfar : ∀ k, k ≠ p → (w1.setCell ⟨p, 2, none⟩ lv').heap[k]? = w1.heap[k]? := fun k hk => Below.heap_setCell _ _ _ _ hk
  have same : ∀ (k : Nat) (o : Obj), w.heap[k]? = some o → (∀ cur, o ≠ Obj.cells cur 68 (0, 0)) → k ≠ p → (w1.setCell ⟨p, 2, none⟩ lv').heap[k]? = w.heap[k]? := fun k o hk ho hkp => by
    rw [hfar k hkp, hg.block k (Array.getElem?_eq_some_iff.1 hk).1 (fun e => by
      obtain ⟨cur, hc⟩ := hrb k e.symm
      rw [hk] at hc
      cases hc
      exact ho cur rfl)]
  have nep : ∀ (k : Nat) (o : Obj), w.heap[k]? = some o → (∀ cur, o ≠ Obj.cells cur 51 (0, 0)) → k ≠ p := fun k o hk ho e => by
    rw [e, h.p0] at hk
    cases hk
    exact ho _ rfl
  obtain ⟨⟨es, c, hm⟩, ⟨es2, c2, hm2⟩⟩ := h.mapObj
  have keepMap : ∀ (r : Nat) (es : Array MapEntry) (c : Nat), w.heap[r]? = some (.map es c) → (w1.setCell ⟨p, 2, none⟩ lv').heap[r]? = w.heap[r]? := fun r es c hr => same r _ hr (fun _ e => by cases e) (nep r _ hr (fun _ e => by cases e))
  have keepRow : ∀ v l, SlAt w v l → ∀ g, v.ownBlock = some g → (w1.setCell ⟨p, 2, none⟩ lv').heap[g]? = w.heap[g]? := fun v l hv g hg => by
    obtain ⟨cur, hc⟩ := hv.elem g hg
    exact same g _ hc (fun _ e => by cases e) (nep g _ hc (fun _ e => by cases e))
  have keepBox : ∀ t b1 b2, BoxIn w t b1 b2 → BoxIn (w1.setCell ⟨p, 2, none⟩ lv') t b1 b2 := fun t b1 b2 hb => hb.same
    (by cases t <;> exact same _ _ hb.1 (fun _ e => by cases e) (nep _ _ hb.1 (fun _ e => by cases e)))
    (by cases t <;> exact same _ _ hb.2 (fun _ e => by cases e) (nep _ _ hb.2 (fun _ e => by cases e)))
  have hsz : (w1.setCell ⟨p, 2, none⟩ lv').heap.size = w1.heap.size := by simp [World.setCell]
  have hpne : ∀ g, lv'.ownBlock = some g → g ≠ p := fun g hg' e => by
    subst e
    rcases hown with h1 | h1
    · obtain ⟨cur, hc⟩ := hrb g (by rw [← h1]; exact hg')
      rw [h.p0] at hc
      cases hc
    · have := hlt g h.fp
      rw [h1] at hg'
      cases hg'
      omega
  refine ⟨⟨?_, h.ff.keep (keepMap _ _ _ hm) (fun f g hg => keepRow _ _ (h.ff.row f) g hg), h.gg.keep (keepMap _ _ _ hm2) (fun f g hg => keepRow _ _ (h.gg.row f) g hg), h.ne, h.cross, h.share, ?_, ?_, by simp [h.lb], .inl h.fp, .inl h.fmf, .inl h.fms, fun f g hg => .inl (h.fv f g hg), fun f g hg => .inl (h.fu f g hg), ?_, ?_, ?_⟩, ⟨hg.os, hg.tape, hg.output, by rw [hsz]; exact hg.size, ?_, ?_⟩⟩
  · have h1 : w1.heap[p]? = some (.cells #[.map (some mf), .map (some ms), lv, .int .i64 D.room] 51 (0, 0)) := hp1.trans h.p0
    unfold World.setCell
    rw [Array.getElem?_modify, if_pos rfl, h1]
    rfl
  · rw [List.length_append, List.flatMap_append]
    simp only [List.length_cons, List.length_nil, List.flatMap_cons, List.flatMap_nil, List.append_nil]
    exact ownsRow_same hrow (fun g hg => hfar g (hpne g hg))
  · intro x hx
    rcases List.mem_append.1 hx with hx | hx
    · exact keepBox _ _ _ (h.bx x hx)
    · rw [List.mem_singleton] at hx
      subst hx
      exact keepBox _ _ _ hb
  · intro g hg'
    rcases hown with h1 | h1
    · exact .inl (h.fl g (by rw [← h1]; exact hg'))
    · rw [h1] at hg'
      cases hg'
      exact .inr ⟨Nat.le_refl _, (hrow.lt _ h1).2⟩
  · intro x hx
    rcases List.mem_append.1 hx with hx | hx
    · exact ⟨.inl (h.fb x hx).1, .inl (h.fb x hx).2⟩
    · rw [List.mem_singleton] at hx
      subst hx
      exact ⟨.inl hΦ.1, .inl hΦ.2⟩
  · intro k hk
    rw [hsz]
    rcases hk with hk | hk
    · exact ⟨(h.lt k hk).1, Nat.lt_of_lt_of_le (h.lt k hk).2 hg.size⟩
    · exact ⟨by omega, hk.2⟩
  · intro k hk hn
    rw [hfar k (fun e => hn (by rw [e]; exact h.fp))]
    exact hg.block k hk (fun e => hn (h.fl k e.symm))
  · intro k hk
    rcases hk with hk | hk
    · exact .inl hk
    · exact .inr hk.1
end Go.Proofs.YtlnemefegkjjiaaDoor
