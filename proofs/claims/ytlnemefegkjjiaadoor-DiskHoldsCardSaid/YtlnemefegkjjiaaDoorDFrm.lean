/-
  swingbridgelaw09.DiskHolds: the blocks that a call of the law's own makes, beside the disk's and the row's.
-/
import Derived.Test.YtlnemefegkjjiaaDoorDRefS
import Derived.Test.YtlnemefegkjjiaaDoorDRefC
import Derived.Test.YtlnemefegkjjiaaDoorDRefD
import Derived.Test.YtlnemefegkjjiaaDoorDRefE
namespace Go.Proofs.YtlnemefegkjjiaaDoor
open Go.RowKit

/-- the blocks from lo to hi are neither the disk's nor the row's -/
def HRunF (w W : World) (p : Nat) (D : Dk) (hv : Value) (H : List (List UInt8)) (lo hi : Nat) : Prop :=
  ∃ Φ, DkAt w.heap.size W Φ p D ∧ Below w.heap.size w W ∧ D.Inv ∧ W.ownsRow w.heap.size 9 1 hv H.length (cS H) ∧ (∀ g, hv.ownBlock = some g → ¬ Φ g) ∧ (∀ k, lo ≤ k → k < hi → ¬ Φ k ∧ hv.ownBlock ≠ some k) ∧ hi ≤ W.heap.size ∧ w.heap.size ≤ lo
def Kept (lo hi : Nat) (W W' : World) : Prop := ∀ k, lo ≤ k → k < hi → W'.heap[k]? = W.heap[k]?
theorem HRun.frame {w W0 W : World} {p : Nat} {D : Dk} {hv : Value} {H : List (List UInt8)} (h : HRun w W0 p D hv H) (hb : Below W0.heap.size W0 W) : HRunF w W p D hv H W0.heap.size W.heap.size := by
  obtain ⟨Φ, h1, h2, h3, h4, h5⟩ := h.below hb
  obtain ⟨Ψ, k1, k2, k3, k4, k5⟩ := h
  refine ⟨Ψ, k1.below hb, h2, h3, h4, k5, fun k hk hk2 => ⟨fun hp => ?_, fun e => ?_⟩, Nat.le_refl _, k2.size⟩
  · obtain ⟨_, _, _, _, _, _, h⟩ := k1
    have := (h.lt k hp).2
    omega
  · have := (k4.lt k e).2
    omega
theorem HRunF.run {w W : World} {p : Nat} {D : Dk} {hv : Value} {H : List (List UInt8)} {lo hi : Nat} (h : HRunF w W p D hv H lo hi) : HRun w W p D hv H := by
  obtain ⟨Φ, h1, h2, h3, h4, h5, _⟩ := h
  exact ⟨Φ, h1, h2, h3, h4, h5⟩
theorem HRunF.turn {w W W' : World} {Φ Φ' : Nat → Prop} {p p' : Nat} {D D' : Dk} {hv : Value} {H : List (List UInt8)} {lo hi : Nat} (h1 : DkAt w.heap.size W Φ p D) (h2 : Below w.heap.size w W) (h4 : W.ownsRow w.heap.size 9 1 hv H.length (cS H)) (h5 : ∀ g, hv.ownBlock = some g → ¬ Φ g) (h6 : ∀ k, lo ≤ k → k < hi → ¬ Φ k ∧ hv.ownBlock ≠ some k) (h7 : hi ≤ W.heap.size) (h8 : w.heap.size ≤ lo)
    (h' : DkAt w.heap.size W' Φ' p' D') (ht : TurnD W W' Φ Φ') (hi' : D'.Inv) : HRunF w W' p' D' hv H lo hi ∧ Kept lo hi W W' :=
  ⟨⟨Φ', h', h2.trans (ht.below (fun k hk => by obtain ⟨_, _, _, _, _, _, h⟩ := h1; exact (h.lt k hk).1) h2.size), hi', ownsRow_same h4 (fun g hg => ht.block g (h4.lt g hg).2 (h5 g hg)), fun g hg hp => by
    rcases ht.new g hp with h0 | h0
    · exact h5 g hg h0
    · have := (h4.lt g hg).2
      omega, fun k hk hk2 => ⟨fun hp => by
    rcases ht.new k hp with h0 | h0
    · exact (h6 k hk hk2).1 h0
    · omega, (h6 k hk hk2).2⟩, Nat.le_trans h7 ht.size, h8⟩, fun k hk hk2 => ht.block k (by omega) (h6 k hk hk2).1⟩
theorem heap_setCellsD (b : Nat) : ∀ (vs : List Value) (o : Nat) (W : World) (k : Nat), k ≠ b → (W.setCells b o vs).heap[k]? = W.heap[k]?
  | [], _, _, _, _ => rfl
  | v :: r, o, W, k, hk => by
    show ((W.setCell ⟨b, o, none⟩ v).setCells b (o + 1) r).heap[k]? = _
    rw [heap_setCellsD b r (o + 1) _ k hk]
    exact Below.heap_setCell _ _ _ _ hk
theorem HRunF.setCells {w W : World} {p : Nat} {D : Dk} {hv : Value} {H : List (List UInt8)} {lo hi b : Nat} (h : HRunF w W p D hv H lo hi) (h1 : lo ≤ b) (h2 : b < hi) (vs : List Value) : HRunF w (W.setCells b 0 vs) p D hv H lo hi := by
  obtain ⟨Φ, ⟨mf, ms, V, U, lv, B, k1⟩, k2, k3, k4, k5, k6, k7, k8⟩ := h
  have hs := size_setCells b vs 0 W
  have hk := heap_setCellsD b vs 0 W
  refine ⟨Φ, ⟨mf, ms, V, U, lv, B, k1.keep (by omega) (fun k hp => hk k (fun e => (k6 b h1 h2).1 (e ▸ hp)))⟩, below_setCellsD (by omega) vs 0 k2, k3, ownsRow_same k4 (fun g hg => hk g (fun e => (k6 b h1 h2).2 (e ▸ hg))), k5, k6, by omega, k8⟩
theorem HRunF.et {w W : World} {p : Nat} {D : Dk} {hv : Value} {H : List (List UInt8)} {lo hi : Nat} (h : HRunF w W p D hv H lo hi) (hET : HasET w) : HasET W := h.run.et hET
theorem f_app {w W : World} {p : Nat} {D : Dk} {hv : Value} {H : List (List UInt8)} {lo hi : Nat} (h : HRunF w W p D hv H lo hi) (hET : HasET w) (hfew : D.L.length < 900) (f : Int) (vb : Value) (l : List UInt8) (hb : BtAt W vb l) :
    Calls Tryd.prog 13 #[.pointer (some ⟨p, 0, none⟩), .int .i64 f, vb] W fun e W' => e = .returned (.int .i64 (appE D f l.length)) ∧ HRunF w W' p (D.app f l) hv H lo hi ∧ Kept lo hi W W' := by
  have hET2 := h.et hET
  obtain ⟨Φ, h1, h2, h3, h4, h5, h6, h7, h8⟩ := h
  refine (Append_any h1 h2.size h3 hfew hET2 f vb l hb).mono ?_
  rintro e w' ⟨e0, Φ', k1, k2⟩
  exact ⟨e0, HRunF.turn h1 h2 h4 h5 h6 h7 h8 k1 k2 (h3.app f l hfew)⟩
theorem f_cut {w W : World} {p : Nat} {D : Dk} {hv : Value} {H : List (List UInt8)} {lo hi : Nat} (h : HRunF w W p D hv H lo hi) (hET : HasET w) (hfew : D.L.length < 900) (f m : Int) :
    Calls Tryd.prog 16 #[.pointer (some ⟨p, 0, none⟩), .int .i64 f, .int .i64 m] W fun e W' => e = .returned (.int .i64 (cutE D f m)) ∧ HRunF w W' p (D.cutd f m) hv H lo hi ∧ Kept lo hi W W' := by
  have hET2 := h.et hET
  obtain ⟨Φ, h1, h2, h3, h4, h5, h6, h7, h8⟩ := h
  refine (Cut_any h1 h2.size h3 hfew hET2 f m).mono ?_
  rintro e w' ⟨e0, Φ', k1, k2⟩
  exact ⟨e0, HRunF.turn h1 h2 h4 h5 h6 h7 h8 k1 k2 (h3.cutd f m hfew)⟩
theorem f_sync {w W : World} {p : Nat} {D : Dk} {hv : Value} {H : List (List UInt8)} {lo hi : Nat} (h : HRunF w W p D hv H lo hi) : Calls Tryd.prog 14 #[.pointer (some ⟨p, 0, none⟩)] W fun e W' => e = .returned (.int .i64 0) ∧ HRunF w W' p D.synced hv H lo hi ∧ Kept lo hi W W' := by
  obtain ⟨Φ, h1, h2, h3, h4, h5, h6, h7, h8⟩ := h
  refine (Sync_any h1 h2.size).mono ?_
  rintro e w' ⟨e0, Φ', k1, k2⟩
  exact ⟨e0, HRunF.turn h1 h2 h4 h5 h6 h7 h8 k1 k2 h3.synced⟩
theorem f_copy {w W : World} {p : Nat} {D : Dk} {hv : Value} {H : List (List UInt8)} {lo hi : Nat} (h : HRunF w W p D hv H lo hi) (hfew : D.L.length ≤ 900) : Calls Tryd.prog 21 #[.pointer (some ⟨p, 0, none⟩)] W fun e W' => ∃ p', e = .returned (.pointer (some ⟨p', 0, none⟩)) ∧ HRunF w W' p' D hv H lo hi ∧ Kept lo hi W W' := by
  obtain ⟨Φ, h1, h2, h3, h4, h5, h6, h7, h8⟩ := h
  refine (Copy_any h1 h2.size h3 (by omega)).mono ?_
  rintro e w' ⟨p', e0, Φ', k1, k2⟩
  exact ⟨p', e0, HRunF.turn h1 h2 h4 h5 h6 h7 h8 k1 k2 h3⟩
/-- Append of a new disk of the document's, whatever the file and the bytes -/
theorem rApp_any (c : Array Value) (hc : ZD c) (f : Int) (s : ByteArray) (w : World) : Calls Tryd.prog 17 #[.agg c, .int .i64 f, .string s] w (Tld w) := by
  by_cases h1 : f < 0
  · exact rApp_bad c hc f s w (.inl h1)
  · by_cases h2 : 63 < f
    · exact rApp_bad c hc f s w (.inr h2)
    · by_cases h3 : (1 : Int) < s.size
      · exact rApp_full c hc f s w h1 h2 h3
      · exact rApp_ok c hc f s w h1 h2 h3
theorem rCut_any (c : Array Value) (hc : ZD c) (f m : Int) (w : World) : Calls Tryd.prog 18 #[.agg c, .int .i64 f, .int .i64 m] w (Tld w) := by
  by_cases h0 : m < 0
  · exact rCut_arg c hc f m w h0
  · by_cases h1 : f < 0
    · exact rCut_file c hc f m w h0 (.inl h1)
    · by_cases h2 : 63 < f
      · exact rCut_file c hc f m w h0 (.inr h2)
      · obtain ⟨k, rfl⟩ : ∃ k : Nat, f = k := ⟨f.toNat, by omega⟩
        by_cases h3 : 0 < m
        · exact rCut_far c hc k m w (by omega) h3
        · obtain rfl : m = 0 := by omega
          exact rCut_ok c hc k w (by omega)
end Go.Proofs.YtlnemefegkjjiaaDoor
