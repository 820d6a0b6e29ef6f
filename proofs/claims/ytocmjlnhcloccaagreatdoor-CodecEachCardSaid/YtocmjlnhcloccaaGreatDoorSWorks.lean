/-
  swingbridgelaw03.works: the chapter's rows; schema.Pick.
-/
import Derived.Test.YtocmjlnhcloccaaGreatDoorSSch
import Derived.Test.YtocmjlnhcloccaaGreatDoorVOL
namespace Go.Proofs.YtocmjlnhcloccaaGreatDoor
open Go.RowKit

theorem ValsIn.sl {w : World} {a : Addr} {l : List Vl} {cap : Nat} (h : ValsIn w (some a) l) (hc : l.length ≤ cap) : SliceOf w (.slice (some a) l.length cap) l :=
  .inr ⟨a, cap, rfl, hc, fun j hj => by
    obtain ⟨a', e, hv⟩ := h j hj
    cases e
    exact hv⟩
/-- what Pick answers -/
def PickPost (l : List Vl) (pl : List Int) (w : World) (e : Ending) (w' : World) : Prop :=
  (inAll l.length pl = true ∧ (∃ b, e = .returned (.tuple #[.slice (some ⟨b, 0, none⟩) pl.length pl.length, .int .i64 0]) ∧ ValsIn w' (some ⟨b, 0, none⟩) (pickL val0 l pl)) ∧ Below w.heap.size w w') ∨
  (inAll l.length pl = false ∧ e = .returned (.tuple #[.slice none 0 0, .int .i64 4]) ∧ Below w.heap.size w w')
def s0 : Sch := ⟨[⟨⟨#[97]⟩, 1, 1, false⟩, ⟨⟨#[98]⟩, 4, 2, true⟩], [0], []⟩
def p0 (b : Nat) : SchV := ⟨some ⟨b, 0, none⟩, 2, some ⟨b + 1, 0, none⟩, 1, none, 0⟩
def vI (n : Int) : Vl := ⟨1, n, 0, ⟨#[]⟩⟩
def v0 : Vl := ⟨0, 0, 0, ⟨#[]⟩⟩
def vB (s : ByteArray) : Vl := ⟨4, 0, 0, s⟩
theorem vals1 {w : World} {b : Nat} {x : Vl} (h : ValAt w ⟨b, 0, none⟩ x) : ValsIn w (some ⟨b, 0, none⟩) [x] := fun j hj => by
  match j, hj with
  | 0, _ => exact ⟨_, rfl, by rw [add4]; exact h⟩
theorem vals2 {w : World} {b : Nat} {x y : Vl} (h : ValAt w ⟨b, 0, none⟩ x) (h' : ValAt w ⟨b, 4, none⟩ y) : ValsIn w (some ⟨b, 0, none⟩) [x, y] := fun j hj => by
  match j, hj with
  | 0, _ => exact ⟨_, rfl, by rw [add4]; exact h⟩
  | 1, _ => exact ⟨_, rfl, by rw [add4]; exact h'⟩
theorem sch0 {w : World} {b : Nat} (h : w.heap[b]? = some (.cells #[.string ⟨#[97]⟩, .int .i64 1, .int .i64 1, .bool false, .string ⟨#[98]⟩, .int .i64 4, .int .i64 2, .bool true] 64)) (h' : w.cell? ⟨b + 1, 0, none⟩ = some (.int .i64 0)) : SchIn w (p0 b) s0 := by
  refine ⟨fun j hj => ?_, fun j hj => ?_, fun j hj => absurd hj (Nat.not_lt_zero j), Nat.le_refl _⟩
  · match j, hj with
    | 0, _ => exact ⟨_, rfl, by rw [add4]; exact ⟨by simp [World.cell?, h]; rfl, by simp [World.cell?, h]; rfl, by simp [World.cell?, h]; rfl, by simp [World.cell?, h]; rfl⟩⟩
    | 1, _ => exact ⟨_, rfl, by rw [add4]; exact ⟨by simp [World.cell?, h]; rfl, by simp [World.cell?, h]; rfl, by simp [World.cell?, h]; rfl, by simp [World.cell?, h]; rfl⟩⟩
  · match j, hj with
    | 0, _ => exact ⟨_, rfl, by unfold Addr.add; exact h'⟩

/-- the boxes of s and null -/
def Boxes (w W : World) : Prop := W.cell? ⟨w.heap.size + 1 + 1, 0, none⟩ = some (.slice (some ⟨w.heap.size, 0, none⟩) 2 2) ∧ W.cell? ⟨w.heap.size + 1 + 1, 1, none⟩ = some (.slice (some ⟨w.heap.size + 1, 0, none⟩) 1 1) ∧ W.cell? ⟨w.heap.size + 1 + 1, 2, none⟩ = some (.slice none 0 0) ∧ W.cell? ⟨w.heap.size + 1 + 1 + 1, 0, none⟩ = some (.int .i64 0) ∧ W.cell? ⟨w.heap.size + 1 + 1 + 1, 1, none⟩ = some (.int .i64 0) ∧ W.cell? ⟨w.heap.size + 1 + 1 + 1, 2, none⟩ = some (.int .u64 0) ∧ W.cell? ⟨w.heap.size + 1 + 1 + 1, 3, none⟩ = some (.string ⟨#[]⟩) ∧ w.heap.size + 1 + 1 + 1 < W.heap.size
theorem boxes_keep {w V W : World} (h : Boxes w V) (hb : Below V.heap.size V W) : Boxes w W := by
  obtain ⟨h0, h1, h2, h3, h4, h5, h6, h7⟩ := h
  exact ⟨cell_old h0 hb, cell_old h1 hb, cell_old h2 hb, cell_old h3 hb, cell_old h4 hb, cell_old h5 hb, cell_old h6 hb, by have := hb.size; omega⟩
theorem ints2 {w : World} {b : Nat} {x y : Int} (h : w.cell? ⟨b, 0, none⟩ = some (.int .i64 x)) (h' : w.cell? ⟨b, 1, none⟩ = some (.int .i64 y)) : IntsIn w (some ⟨b, 0, none⟩) [x, y] := fun j hj => by
  match j, hj with
  | 0, _ => exact ⟨_, rfl, by unfold Addr.add; exact h⟩
  | 1, _ => exact ⟨_, rfl, by unfold Addr.add; exact h'⟩
theorem sOf {w w2 W : World} (h : Boxes w w2) (hb : Below w2.heap.size w2 W) : W.cell? ⟨w.heap.size + 1 + 1, 0, none⟩ = some (.slice (some ⟨w.heap.size, 0, none⟩) 2 2) ∧ W.cell? ⟨w.heap.size + 1 + 1, 1, none⟩ = some (.slice (some ⟨w.heap.size + 1, 0, none⟩) 1 1) ∧ W.cell? ⟨w.heap.size + 1 + 1, 2, none⟩ = some (.slice none 0 0) ∧ W.cell? ⟨w.heap.size + 1 + 1 + 1, 0, none⟩ = some (.int .i64 0) ∧ W.cell? ⟨w.heap.size + 1 + 1 + 1, 1, none⟩ = some (.int .i64 0) ∧ W.cell? ⟨w.heap.size + 1 + 1 + 1, 2, none⟩ = some (.int .u64 0) ∧ W.cell? ⟨w.heap.size + 1 + 1 + 1, 3, none⟩ = some (.string ⟨#[]⟩) ∧ w2.heap.size ≤ W.heap.size ∧ Below w2.heap.size w2 W := by
  obtain ⟨h0, h1, h2, h3, h4, h5, h6, _⟩ := boxes_keep h hb
  exact ⟨h0, h1, h2, h3, h4, h5, h6, hb.size, hb⟩
end Go.Proofs.YtocmjlnhcloccaaGreatDoor
