/-
  disk: what a disk is in memory; left, mayPut, mayCut.
-/
import Derived.Test.YtbhgcioeibhjeaaGreatDoorDAsks
import Derived.Test.YtbhgcioeibhjeaaGreatDoorDCut
namespace Go.Proofs.YtbhgcioeibhjeaaGreatDoor
open Go.RowKit

/-- a disk as the document has it -/
structure Dk where
  room : Nat
  F : Nat → List UInt8
  G : Nat → List UInt8
  L : List Th
structure DkW (N : Nat) (w : World) (Φ : Nat → Prop) (p mf ms : Nat) (V U : Nat → Value) (lv : Value) (B : List (Th × Nat × Nat)) (D : Dk) : Prop where
  p0 : w.heap[p]? = some (.cells #[.map (some mf), .map (some ms), lv, .int .i64 D.room] 72 (0, 0))
  ff : Fs w mf V D.F
  gg : Fs w ms U D.G
  ne : mf ≠ ms
  cross : ∀ f f' g, f ≠ f' → (V f).ownBlock = some g → (U f').ownBlock ≠ some g
  share : ∀ f g, (V f).ownBlock = some g → (U f).ownBlock = some g → (D.G f).length ≤ (D.F f).length ∨ capOf (V f) = (D.F f).length
  row : w.ownsRow N 95 6 lv B.length (B.flatMap fun x => thC x.1 x.2.1 x.2.2)
  bx : ∀ x ∈ B, BoxIn w x.1 x.2.1 x.2.2
  lb : B.map (·.1) = D.L
  fp : Φ p
  fmf : Φ mf
  fms : Φ ms
  fv : ∀ f g, (V f).ownBlock = some g → Φ g
  fu : ∀ f g, (U f).ownBlock = some g → Φ g
  fl : ∀ g, lv.ownBlock = some g → Φ g
  fb : ∀ x ∈ B, Φ x.2.1 ∧ Φ x.2.2
  lt : ∀ k, Φ k → N ≤ k ∧ k < w.heap.size
def DkAt (N : Nat) (w : World) (Φ : Nat → Prop) (p : Nat) (D : Dk) : Prop := ∃ mf ms V U lv B, DkW N w Φ p mf ms V U lv B D
/-- what a call on a disk does to memory: its own blocks, and new ones -/
structure TurnD (w w' : World) (Φ Φ' : Nat → Prop) : Prop where
  os : w'.os = w.os
  tape : w'.tape = w.tape
  output : w'.output = w.output
  size : w.heap.size ≤ w'.heap.size
  block : ∀ k, k < w.heap.size → ¬ Φ k → w'.heap[k]? = w.heap[k]?
  new : ∀ k, Φ' k → Φ k ∨ w.heap.size ≤ k
theorem TurnD.of_below {w w' : World} {Φ : Nat → Prop} (h : Below w.heap.size w w') : TurnD w w' Φ Φ := ⟨h.os, h.tape, h.output, h.size, fun k hk _ => h.block k hk, fun _ hk => .inl hk⟩
theorem TurnD.trans {w w' w'' : World} {Φ Φ' Φ'' : Nat → Prop} (h : TurnD w w' Φ Φ') (h' : TurnD w' w'' Φ' Φ'') : TurnD w w'' Φ Φ'' :=
  ⟨h'.os.trans h.os, h'.tape.trans h.tape, h'.output.trans h.output, Nat.le_trans h.size h'.size, fun k hk hn => (h'.block k (Nat.lt_of_lt_of_le hk h.size) (fun hp => by
    rcases h.new k hp with h0 | h0
    · exact hn h0
    · omega)).trans (h.block k hk hn), fun k hk => by
    rcases h'.new k hk with h0 | h0
    · exact h.new k h0
    · exact .inr (Nat.le_trans h.size h0)⟩
theorem TurnD.below {N : Nat} {w w' : World} {Φ Φ' : Nat → Prop} (h : TurnD w w' Φ Φ') (hN : ∀ k, Φ k → N ≤ k) (hs : N ≤ w.heap.size) : Below N w w' :=
  ⟨h.os, h.tape, h.output, h.size, fun k hk => h.block k (Nat.lt_of_lt_of_le hk hs) (fun hp => by have := hN k hp; omega)⟩
theorem DkW.isDisk {N : Nat} {w : World} {Φ : Nat → Prop} {p mf ms : Nat} {V U : Nat → Value} {lv : Value} {B : List (Th × Nat × Nat)} {D : Dk} (h : DkW N w Φ p mf ms V U lv B D) : IsDisk w p mf := by
  simp [IsDisk, World.cell?, h.p0]
theorem Fs.keep {w w' : World} {r : Nat} {V : Nat → Value} {F : Nat → List UInt8} (h : Fs w r V F) (hr : w'.heap[r]? = w.heap[r]?) (hv : ∀ f g, (V f).ownBlock = some g → w'.heap[g]? = w.heap[g]?) : Fs w' r V F :=
  ⟨h.map.keep hr, fun f => (h.row f).keep (hv f), h.apart⟩
theorem ownsRow_same {w w' : World} {base e size n : Nat} {v : Value} {xs : List Value} (h : w.ownsRow base e size v n xs) (hb : ∀ g, v.ownBlock = some g → w'.heap[g]? = w.heap[g]?) : w'.ownsRow base e size v n xs := by
  refine ⟨h.1, ?_⟩
  rcases h.2 with h0 | ⟨g, cap, cur, e0, h1, h2, h3⟩
  · exact .inl h0
  · exact .inr ⟨g, cap, cur, e0, h1, (hb g (by rw [e0]; rfl)).trans h2, h3⟩
theorem BoxIn.same {w w' : World} {t : Th} {b1 b2 : Nat} (h : BoxIn w t b1 b2) (h1 : w'.heap[b1]? = w.heap[b1]?) (h2 : w'.heap[b2]? = w.heap[b2]?) : BoxIn w' t b1 b2 := by
  cases t <;> exact ⟨h1.trans h.1, h2.trans h.2⟩
/-- a disk abides where its blocks do -/
theorem DkW.keep {N : Nat} {w w' : World} {Φ : Nat → Prop} {p mf ms : Nat} {V U : Nat → Value} {lv : Value} {B : List (Th × Nat × Nat)} {D : Dk} (h : DkW N w Φ p mf ms V U lv B D) (hs : w.heap.size ≤ w'.heap.size) (hb : ∀ k, Φ k → w'.heap[k]? = w.heap[k]?) : DkW N w' Φ p mf ms V U lv B D :=
  ⟨(hb p h.fp).trans h.p0, h.ff.keep (hb _ h.fmf) (fun f g hg => hb g (h.fv f g hg)), h.gg.keep (hb _ h.fms) (fun f g hg => hb g (h.fu f g hg)), h.ne, h.cross, h.share, ownsRow_same h.row (fun g hg => hb g (h.fl g hg)),
    fun x hx => (h.bx x hx).same (hb _ (h.fb x hx).1) (hb _ (h.fb x hx).2), h.lb, h.fp, h.fmf, h.fms, h.fv, h.fu, h.fl, h.fb, fun k hk => ⟨(h.lt k hk).1, Nat.lt_of_lt_of_le (h.lt k hk).2 hs⟩⟩
theorem DkAt.below {N : Nat} {w w' : World} {Φ : Nat → Prop} {p : Nat} {D : Dk} (h : DkAt N w Φ p D) (hb : Below w.heap.size w w') : DkAt N w' Φ p D := by
  obtain ⟨mf, ms, V, U, lv, B, h⟩ := h
  exact ⟨mf, ms, V, U, lv, B, h.keep hb.size (fun k hk => hb.block k (h.lt k hk).2)⟩
def Dk.left (D : Dk) : Int := (D.room : Int) - sumF D.F
def Dk.ok (D : Dk) : Prop := D.room ≤ 16777216 ∧ sumF D.F ≤ 1000000000
set_option maxHeartbeats 2000000 in
theorem left_any {N : Nat} {w : World} {Φ : Nat → Prop} {p : Nat} {D : Dk} (h : DkAt N w Φ p D) (ho : D.ok) :
    Calls Tryz.prog 48 #[.pointer (some ⟨p, 0, none⟩)] w fun e w' => e = .returned (.int .i64 D.left) ∧ Below w.heap.size w w' := by
  obtain ⟨mf, ms, V, U, lv, B, h⟩ := h
  have c0 : w.cell? ⟨p, 0, none⟩ = some (.map (some mf)) := by simp [World.cell?, h.p0]
  have c3 : w.cell? ⟨p, 3, none⟩ = some (.int .i64 D.room) := by simp [World.cell?, h.p0]
  have hpl := (h.lt p h.fp).2
  have HA : Hid (Calls Tryz.prog 78 #[.map (some mf)] w.drew fun e w' => e = .returned (.int .i64 (sumF D.F)) ∧ (w'.cell? ⟨p, 3, none⟩ = some (.int .i64 D.room) ∧ w'.cell? ⟨p, 0, none⟩ = some (.map (some mf))) ∧ Below w.heap.size w w') := Lib.hid ((all_any mf V D.F w.drew h.ff.drew ho.2).mono fun e w' ⟨h0, hb⟩ => by
    have hb' : Below w.heap.size w w' := ((Below.refl _ w).drew).trans hb
    exact ⟨h0, ⟨(hb'.cell hpl).trans c3, (hb'.cell hpl).trans c0⟩, hb'⟩)
  have hr1 := ho.1
  have hr2 := ho.2
  have hwr : IntKind.i64.wrap ((D.room : Int) - (sumF D.F : Int)) = (D.room : Int) - (sumF D.F : Int) := by rw [IntKind.wrap_i64]; omega
  unfold Dk.left
  clear h ho
  generalize sumF D.F = sF at *
  go_enter Tryz.func48, Tryz.ntmps48
  go_wp2_with fail
  go_region_held3 (fun W => W.cell? ⟨p, 3, none⟩ = some (.int .i64 D.room) ∧ W.cell? ⟨p, 0, none⟩ = some (.map (some mf))) (first | assumption | (simp [*]; done))
    (first | (go_at_call 78; refine HA.out.mono ?_; rintro e w' ⟨rfl, hcc, hbb⟩))
  go_wp2_with fail
  go_ret
  exact ⟨rfl, hbb⟩
end Go.Proofs.YtbhgcioeibhjeaaGreatDoor
