/-
  swingbridgelaw03.SchemaChecks: what abides while it goes over the sets.
-/
import Derived.Test.YtjlhbpacecbfmaaGreatDoorSRSets
import Derived.Lib.MinMax
import Derived.Test.YtjlhbpacecbfmaaGreatDoorSFew
import Derived.Test.YtjlhbpacecbfmaaGreatDoorSWorks
namespace Go.Proofs.YtjlhbpacecbfmaaGreatDoor
open Go.RowKit

/-- between two rounds: the number's box turns alone -/
structure EI (w W3 : World) (B13 : Nat) (m : Nat) (W : World) : Prop where
  size : W3.heap.size ≤ W.heap.size
  same : ∀ k, k < W3.heap.size → k ≠ B13 → W.heap[k]? = W3.heap[k]?
  below : Below w.heap.size w W
  at13 : W.cell? ⟨B13, 0, none⟩ = some (.int .i64 m)
  at13F : W.frozen? ⟨B13, 0, none⟩ = false
theorem EI.keep {w W3 A A' : World} {B13 m : Nat} (h : EI w W3 B13 m A) (hb : Below W3.heap.size A A') (h13 : B13 < W3.heap.size) (hw : w.heap.size ≤ W3.heap.size) : EI w W3 B13 m A' :=
  ⟨Nat.le_trans h.size hb.size, fun k hk hn => (hb.block k hk).trans (h.same k hk hn), h.below.trans (hb.mono hw), by rw [hb.cell h13]; exact h.at13, by rw [hb.frozen h13]; exact h.at13F⟩
theorem EI.set {w W3 W : World} {B13 m m' : Nat} (h : EI w W3 B13 m W) (hw : w.heap.size ≤ B13) : EI w W3 B13 m' (W.setCell ⟨B13, 0, none⟩ (.int .i64 m')) :=
  ⟨by simp [World.setCell]; exact h.size, fun k hk hn => (Below.heap_setCell _ _ _ _ (fun e => hn (by subst e; rfl))).trans (h.same k hk hn), h.below.setCell (p := ⟨B13, 0, none⟩) hw _, World.cell?_setCell_same' _ _ _ (by rw [h.at13]; rfl), by rw [World.frozen?_setCell]; exact h.at13F⟩
theorem EI.next {w W3 W : World} {B13 m : Nat} (h : EI w W3 B13 m W) (hw : w.heap.size ≤ B13) : EI w W3 B13 (m + 1) (W.setCell ⟨B13, 0, none⟩ (.int .i64 ((m : Int) + 1))) := by
  have := h.set (m' := m + 1) hw
  rwa [show (((m + 1 : Nat) : Int)) = (m : Int) + 1 by omega] at this
theorem EI.up {w w2 W3 W : World} {B13 m : Nat} (h : EI w W3 B13 m W) (h2 : Below w.heap.size w w2) (hb : Below w2.heap.size w2 W3) (h13 : w2.heap.size ≤ B13) : Below w2.heap.size w2 W :=
  ⟨h.below.os.trans h2.os.symm, h.below.tape.trans h2.tape.symm, h.below.output.trans h2.output.symm, Nat.le_trans hb.size h.size, fun k hk => (h.same k (Nat.lt_of_lt_of_le hk hb.size) (by omega)).trans (hb.block k hk)⟩
theorem EI.cell {w W3 W : World} {B13 m : Nat} (h : EI w W3 B13 m W) {p : Addr} (hp : p.block < W3.heap.size) (hn : p.block ≠ B13) : W.cell? p = W3.cell? p := World.cell?_of_block (h.same _ hp hn)
theorem EI.frozen {w W3 W : World} {B13 m : Nat} (h : EI w W3 B13 m W) {p : Addr} (hp : p.block < W3.heap.size) (hn : p.block ≠ B13) : W.frozen? p = W3.frozen? p := World.frozen?_of_block (h.same _ hp hn)
theorem EI.still {w W3 : World} {B13 : Nat} (h13 : B13 < W3.heap.size) (hw : w.heap.size ≤ W3.heap.size) {Z : List NSl → Prop} : Still W3.heap.size (fun (pre : List NSl) W => EI w W3 B13 pre.length W ∧ Z pre) := by
  constructor
  · rintro s A A' ⟨h, hz⟩ hb
    have hl : B13 < A.heap.size := Nat.lt_of_lt_of_le h13 h.size
    exact ⟨⟨Nat.le_trans h.size hb.size, fun k hk hn => (hb.block k (Nat.lt_of_lt_of_le hk h.size)).trans (h.same k hk hn), h.below.trans (hb.mono h.below.size), by rw [hb.cell hl]; exact h.at13, by rw [hb.frozen hl]; exact h.at13F⟩, hz⟩
  · rintro s A l r o hl ⟨h, hz⟩ hr
    have hne : B13 ≠ l := by omega
    exact ⟨⟨by simp; exact h.size, fun k hk hn => (World.putObj_heap_other (by omega)).trans (h.same k hk hn), below_put h.below (by omega) o, cell_loop h.at13 hr o, (World.frozen?_of_block (a := ⟨B13, 0, none⟩) (World.putObj_heap_other hne)).trans h.at13F⟩, hz⟩
theorem EI.stillX {w W3 : World} {B13 : Nat} (h13 : B13 < W3.heap.size) (hw : w.heap.size ≤ W3.heap.size) {Y : Prop} {Z : List NSl → Prop} : Still W3.heap.size (fun (pre : List NSl) W => Y ∧ EI w W3 B13 pre.length W ∧ Z pre) := by
  have h := EI.still (w := w) (W3 := W3) (B13 := B13) h13 hw (Z := fun pre => Y ∧ Z pre)
  constructor
  · rintro s A A' ⟨hy, h1, hz⟩ hb
    obtain ⟨a, b, c⟩ := h.ext s A A' ⟨h1, hy, hz⟩ hb
    exact ⟨b, a, c⟩
  · rintro s A l r o hl ⟨hy, h1, hz⟩ hr
    obtain ⟨a, b, c⟩ := h.put s A l r o hl ⟨h1, hy, hz⟩ hr
    exact ⟨b, a, c⟩
theorem SeqTurnsX.up {α : Type} {F : Fence} {n : Nat} {P : Program} {g : Nat} {fb lb : Array Value} {encs : α → Array Value} {G : Nat → Prop} {m : Nat} {S Sp : List α → Prop} {Fx : α → World → Prop} {w W : World} (h : SeqTurnsX F n P g fb lb encs G m S Sp Fx w) (hb : Below w.heap.size w W) : SeqTurnsX F n P g fb lb encs G m S Sp Fx W :=
  fun l J Jx V hV => h l J Jx V (hb.trans (hV.mono hb.size))
theorem spo_at {L : List (List Int)} {pre : List NSl} {x : NSl} (h : SpO L (pre ++ [x])) : ∃ _ : pre.length < L.length, x.1 = pre.length := by
  obtain ⟨k, hk, hl⟩ := h
  rw [List.map_append] at hk
  have hlen := congrArg List.length hk
  simp at hlen
  have hk' : k = pre.length + 1 := by omega
  subst hk'
  rw [List.range_succ] at hk
  obtain ⟨_, h2⟩ := List.append_inj' hk rfl
  exact ⟨by omega, by simpa using h2⟩
theorem spo_le {L : List (List Int)} {pre : List NSl} (h : SpO L pre) : pre.length ≤ L.length := by
  obtain ⟨k, hk, _⟩ := h
  have hlen := congrArg List.length hk
  simp at hlen
  omega
theorem sets_lo {w W : World} (h : Lo w W) {oa : Option Addr} {L : List (List Int)} {hs : List (Option Addr × Nat)} (hS : SetsAt w oa L hs) : SetsAt W oa L hs := fun j hj => by
  obtain ⟨a, e, hc, h1, h2⟩ := hS j hj
  exact ⟨a, e, h.cell hc, h1, h.ints h2⟩
end Go.Proofs.YtjlhbpacecbfmaaGreatDoor
