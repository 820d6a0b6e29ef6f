/-
  swingbridgelaw09.DiskHolds: a disk, and the texts that a file had, side by side in memory.
-/
import Derived.Test.YtbhgcioeibhjeaaDoorDHad
import Derived.Test.YtbhgcioeibhjeaaDoorDCopy
namespace Go.Proofs.YtbhgcioeibhjeaaDoor
open Go.RowKit

theorem infoS : (Tryd.prog.info? 9).map (fun i => (i.zero, i.size, i.bytes)) = some (some (.string ⟨#[]⟩), 1, 16) := by kernel_rfl
def cS (h : List (List UInt8)) : List Value := h.map fun l => .string ⟨l.toArray⟩
theorem cS_length (h : List (List UInt8)) : (cS h).length = h.length := by simp [cS]
/-- a disk p and a row of texts hv -/
def HRun (w W : World) (p : Nat) (D : Dk) (hv : Value) (H : List (List UInt8)) : Prop :=
  ∃ Φ, DkAt w.heap.size W Φ p D ∧ Below w.heap.size w W ∧ D.Inv ∧ W.ownsRow w.heap.size 9 1 hv H.length (cS H) ∧ ∀ g, hv.ownBlock = some g → ¬ Φ g
theorem HRun.inv {w W : World} {p : Nat} {D : Dk} {hv : Value} {H : List (List UInt8)} (h : HRun w W p D hv H) : D.Inv := by
  obtain ⟨_, _, _, h, _⟩ := h
  exact h
theorem HRun.bel {w W : World} {p : Nat} {D : Dk} {hv : Value} {H : List (List UInt8)} (h : HRun w W p D hv H) : Below w.heap.size w W := by
  obtain ⟨_, _, h, _⟩ := h
  exact h
theorem HRun.below {w W W' : World} {p : Nat} {D : Dk} {hv : Value} {H : List (List UInt8)} (h : HRun w W p D hv H) (hb : Below W.heap.size W W') : HRun w W' p D hv H := by
  obtain ⟨Φ, h1, h2, h3, h4, h5⟩ := h
  exact ⟨Φ, h1.below hb, h2.trans (hb.mono h2.size), h3, ownsRow_same h4 (fun g hg => hb.block g (h4.lt g hg).2), h5⟩
theorem HRun.et {w W : World} {p : Nat} {D : Dk} {hv : Value} {H : List (List UInt8)} (h : HRun w W p D hv H) (hET : HasET w) : HasET W := hET.below h.bel hET.lt
theorem HRun.turn {w W W' : World} {Φ Φ' : Nat → Prop} {p p' : Nat} {D D' : Dk} {hv : Value} {H : List (List UInt8)} (h1 : DkAt w.heap.size W Φ p D) (h2 : Below w.heap.size w W) (h4 : W.ownsRow w.heap.size 9 1 hv H.length (cS H)) (h5 : ∀ g, hv.ownBlock = some g → ¬ Φ g)
    (h' : DkAt w.heap.size W' Φ' p' D') (ht : TurnD W W' Φ Φ') (hi : D'.Inv) : HRun w W' p' D' hv H :=
  ⟨Φ', h', h2.trans (ht.below (fun k hk => by obtain ⟨_, _, _, _, _, _, h⟩ := h1; exact (h.lt k hk).1) h2.size), hi, ownsRow_same h4 (fun g hg => ht.block g (h4.lt g hg).2 (h5 g hg)), fun g hg hp => by
    rcases ht.new g hp with h0 | h0
    · exact h5 g hg h0
    · have := (h4.lt g hg).2
      omega⟩
theorem HRun.start {w W : World} {p : Nat} {D : Dk} (h : Run w W p D) : HRun w W p D nilS [] := by
  obtain ⟨Φ, h1, h2, h3⟩ := h
  exact ⟨Φ, h1, h2, h3, World.ownsRow_nil _ _ _ _, fun _ h => by cases h⟩
theorem HRun.nil {w W : World} {p : Nat} {D : Dk} {hv : Value} {H : List (List UInt8)} (h : HRun w W p D hv H) : HRun w W p D nilS [] := by
  obtain ⟨Φ, h1, h2, h3, _⟩ := h
  exact ⟨Φ, h1, h2, h3, World.ownsRow_nil _ _ _ _, fun _ h => by cases h⟩
theorem HRun.run {w W : World} {p : Nat} {D : Dk} {hv : Value} {H : List (List UInt8)} (h : HRun w W p D hv H) : Run w W p D := by
  obtain ⟨Φ, h1, h2, h3, _⟩ := h
  exact ⟨Φ, h1, h2, h3⟩
/-- the first row: a literal of one empty text -/
theorem HRun.lit {w W : World} {p : Nat} {D : Dk} (h : Run w W p D) : HRun w (W.alloc (.cells #[.string ⟨#[]⟩] 9)) p D (.slice (some ⟨W.heap.size, 0, none⟩) 1 1) [[]] := by
  obtain ⟨Φ, h1, h2, h3⟩ := h
  have hb : Below W.heap.size W (W.alloc (.cells #[.string ⟨#[]⟩] 9)) := (Below.refl _ W).alloc (Nat.le_refl _) _
  refine ⟨Φ, h1.below hb, h2.trans (hb.mono h2.size), h3, ⟨rfl, .inr ⟨W.heap.size, 1, _, rfl, h2.size, heap_alloc_at W _, Nat.le_refl _, by unfold maxLen; omega, rfl, rfl⟩⟩, fun g hg hp => ?_⟩
  obtain ⟨_, _, _, _, _, _, h⟩ := h1
  have := (h.lt g hp).2
  simp [Value.ownBlock] at hg
  omega
/-- a text more -/
theorem HRun.app {w W W' : World} {p : Nat} {D : Dk} {hv v' : Value} {H : List (List UInt8)} {x : List UInt8} (h : HRun w W p D hv H) (hrow : W'.ownsRow w.heap.size 9 1 v' (H.length + 1) (cS H ++ [.string ⟨x.toArray⟩])) (hg : W.grownBy W' hv.ownBlock) (ho : v'.ownBlock = hv.ownBlock ∨ v'.ownBlock = some W.heap.size) : HRun w W' p D v' (H ++ [x]) := by
  obtain ⟨Φ, h1, h2, h3, h4, h5⟩ := h
  refine ⟨Φ, ?_, h2.grown hg h2.size (fun k hk => (h4.lt k hk).1), h3, ?_, fun g hg' hp => ?_⟩
  · obtain ⟨mf, ms, V, U, lv, B, h⟩ := h1
    exact ⟨mf, ms, V, U, lv, B, h.keep hg.size (fun k hk => hg.block k (h.lt k hk).2 (fun e => h5 k e.symm hk))⟩
  · rw [List.length_append, cS, List.map_append]
    exact hrow
  · obtain ⟨_, _, _, _, _, _, h⟩ := h1
    rcases ho with ho | ho
    · exact h5 g (ho.symm.trans hg') hp
    · rw [hg'] at ho
      cases ho
      exact Nat.lt_irrefl _ (h.lt _ hp).2
theorem h_app {w W : World} {p : Nat} {D : Dk} {hv : Value} {H : List (List UInt8)} (h : HRun w W p D hv H) (hET : HasET w) (hfew : D.L.length < 900) (f : Int) (vb : Value) (l : List UInt8) (hb : BtAt W vb l) :
    Calls Tryd.prog 27 #[.pointer (some ⟨p, 0, none⟩), .int .i64 f, vb] W fun e W' => e = .returned (.int .i64 (appE D f l.length)) ∧ HRun w W' p (D.app f l) hv H := by
  have hET2 := h.et hET
  obtain ⟨Φ, h1, h2, h3, h4, h5⟩ := h
  refine (Append_any h1 h2.size h3 hfew hET2 f vb l hb).mono ?_
  rintro e w' ⟨e0, Φ', h6, h7⟩
  exact ⟨e0, HRun.turn h1 h2 h4 h5 h6 h7 (h3.app f l hfew)⟩
theorem h_cut {w W : World} {p : Nat} {D : Dk} {hv : Value} {H : List (List UInt8)} (h : HRun w W p D hv H) (hET : HasET w) (hfew : D.L.length < 900) (f m : Int) :
    Calls Tryd.prog 25 #[.pointer (some ⟨p, 0, none⟩), .int .i64 f, .int .i64 m] W fun e W' => e = .returned (.int .i64 (cutE D f m)) ∧ HRun w W' p (D.cutd f m) hv H := by
  have hET2 := h.et hET
  obtain ⟨Φ, h1, h2, h3, h4, h5⟩ := h
  refine (Cut_any h1 h2.size h3 hfew hET2 f m).mono ?_
  rintro e w' ⟨e0, Φ', h6, h7⟩
  exact ⟨e0, HRun.turn h1 h2 h4 h5 h6 h7 (h3.cutd f m hfew)⟩
theorem h_sync {w W : World} {p : Nat} {D : Dk} {hv : Value} {H : List (List UInt8)} (h : HRun w W p D hv H) : Calls Tryd.prog 13 #[.pointer (some ⟨p, 0, none⟩)] W fun e W' => e = .returned (.int .i64 0) ∧ HRun w W' p D.synced hv H := by
  obtain ⟨Φ, h1, h2, h3, h4, h5⟩ := h
  refine (Sync_any h1 h2.size).mono ?_
  rintro e w' ⟨e0, Φ', h6, h7⟩
  exact ⟨e0, HRun.turn h1 h2 h4 h5 h6 h7 h3.synced⟩
theorem h_crash {w W : World} {p : Nat} {D : Dk} {hv : Value} {H : List (List UInt8)} (h : HRun w W p D hv H) (keep torn : Nat) (hk : keep ≤ 9223372036854775807) (ht : torn ≤ 9223372036854775807) :
    Calls Tryd.prog 14 #[.pointer (some ⟨p, 0, none⟩), .int .i64 keep, .int .i64 torn] W fun e W' => e = .returned (.int .i64 0) ∧ HRun w W' p (D.crashed (min keep D.L.length) torn) hv H := by
  obtain ⟨Φ, h1, h2, h3, h4, h5⟩ := h
  refine (Crash_any h1 h2.size h3 keep torn hk ht).mono ?_
  rintro e w' ⟨e0, Φ', h6, h7⟩
  exact ⟨e0, HRun.turn h1 h2 h4 h5 h6 h7 (h3.crashed _ torn)⟩
end Go.Proofs.YtbhgcioeibhjeaaDoor
