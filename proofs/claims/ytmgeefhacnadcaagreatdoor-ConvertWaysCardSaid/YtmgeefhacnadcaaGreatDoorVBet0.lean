/-
  (convert.ways).between: the conversion between two columns.
-/
import Derived.Test.YtmgeefhacnadcaaGreatDoorVKnown
import Derived.Test.YtmgeefhacnadcaaGreatDoorVRead
import Derived.Test.YtmgeefhacnadcaaGreatDoorSFits
namespace Go.Proofs.YtmgeefhacnadcaaGreatDoor
open Go.RowKit

/-- what stood stands -/
theorem keep_cell {W W' : World} (hb : Below W.heap.size W W') {a : Addr} {v : Value} (h : W.cell? a = some v) : W'.cell? a = some v := by
  rw [hb.cell (World.block_lt_of_cell? W a h)]
  exact h
theorem keep_frozen {W W' : World} (hb : Below W.heap.size W W') {a : Addr} {b : Bool} (hl : a.block < W.heap.size) (h : W.frozen? a = b) : W'.frozen? a = b := by
  rw [hb.frozen hl]
  exact h
/-- cells of one block, one behind the other, are stored into -/
def setAll (b : Nat) : World → Nat → List Value → World
  | W, _, [] => W
  | W, j, v :: l => setAll b (W.setCell ⟨b, j, none⟩ v) (j + 1) l
theorem setAll_other (b : Nat) : ∀ (l : List Value) (W : World) (j k : Nat), k < j → (setAll b W j l).cell? ⟨b, k, none⟩ = W.cell? ⟨b, k, none⟩
  | [], _, _, _, _ => rfl
  | v :: l, W, j, k, h => by
    rw [show setAll b W j (v :: l) = setAll b (W.setCell ⟨b, j, none⟩ v) (j + 1) l from rfl, setAll_other b l _ (j + 1) k (by omega)]
    exact World.cell?_setCell_other _ _ _ _ (fun e => by injection e with _ e _; omega)
theorem setAll_cell (b : Nat) : ∀ (l : List Value) (W : World) (j : Nat), (∀ i, i < l.length → (W.cell? ⟨b, j + i, none⟩).isSome = true) → ∀ i, i < l.length → (setAll b W j l).cell? ⟨b, j + i, none⟩ = l[i]?
  | [], _, _, _, i, hi => absurd hi (Nat.not_lt_zero i)
  | v :: l, W, j, h, 0, _ => by
    rw [show setAll b W j (v :: l) = setAll b (W.setCell ⟨b, j, none⟩ v) (j + 1) l from rfl, setAll_other b l _ (j + 1) (j + 0) (by omega)]
    exact World.cell?_setCell_same' _ _ _ (h 0 (by simp))
  | v :: l, W, j, h, i + 1, hi => by
    rw [show setAll b W j (v :: l) = setAll b (W.setCell ⟨b, j, none⟩ v) (j + 1) l from rfl, show j + (i + 1) = (j + 1) + i by omega]
    refine setAll_cell b l _ (j + 1) (fun m hm => ?_) i (by simpa using hi)
    rw [World.cell?_setCell_other _ (a := ⟨b, j, none⟩) (b := ⟨b, j + 1 + m, none⟩) _ (fun e => by injection e with _ e _; omega), show j + 1 + m = j + (m + 1) by omega]
    exact h (m + 1) (by simpa using hm)
theorem setAll_below {B : Nat} {w : World} (b : Nat) (hb : B ≤ b) : ∀ (l : List Value) (W : World) (j : Nat), Below B w W → Below B w (setAll b W j l)
  | [], _, _, h => h
  | v :: l, _, j, h => setAll_below b hb l _ (j + 1) (h.setCell (p := ⟨b, j, none⟩) hb v)
theorem setAll_far (b : Nat) {a : Addr} (ha : a.block ≠ b) : ∀ (l : List Value) (W : World) (j : Nat), (setAll b W j l).cell? a = W.cell? a
  | [], _, _ => rfl
  | v :: l, W, j => by
    rw [show setAll b W j (v :: l) = setAll b (W.setCell ⟨b, j, none⟩ v) (j + 1) l from rfl, setAll_far b ha l _ (j + 1)]
    exact World.cell?_setCell_other _ _ _ _ (fun e => ha (by rw [← e]))
theorem setAll_frozen (b : Nat) (a : Addr) : ∀ (l : List Value) (W : World) (j : Nat), (setAll b W j l).frozen? a = W.frozen? a
  | [], _, _ => rfl
  | v :: l, W, j => by
    rw [show setAll b W j (v :: l) = setAll b (W.setCell ⟨b, j, none⟩ v) (j + 1) l from rfl, setAll_frozen b a l _ (j + 1), World.frozen?_setCell]
theorem setAll_size (b : Nat) : ∀ (l : List Value) (W : World) (j : Nat), (setAll b W j l).heap.size = W.heap.size
  | [], _, _ => rfl
  | v :: l, W, j => by
    rw [show setAll b W j (v :: l) = setAll b (W.setCell ⟨b, j, none⟩ v) (j + 1) l from rfl, setAll_size b l _ (j + 1)]
    simp [World.setCell]
def v0N : Vl := ⟨0, 0, 0, ⟨#[]⟩⟩
theorem fits_zero (c : Col) : (fitsN c v0N = 2 ∧ colOk c = false) ∨ (fitsN c v0N ≠ 2 ∧ colOk c = true) := by
  unfold fitsN
  cases h : colOk c
  · exact .inl ⟨rfl, rfl⟩
  · refine .inr ⟨?_, rfl⟩
    rw [if_pos rfl]
    unfold fitN
    rw [if_neg (show ¬ v0N.chk ≠ 0 by decide +kernel), if_pos (show v0N.k = 0 from rfl)]
    split <;> omega
theorem fits0_any (c : Col) (w : World) (hE : Env w) (hn : c.n.size ≤ 9223372036854775807) :
    Calls Tryz.prog 21 #[.agg #[.string c.n, .int .i64 c.t, .int .i64 c.z, .bool c.u], .agg #[.int .i64 0, .int .i64 0, .int .u64 0, .string ⟨#[]⟩]] w fun e w' => e = .returned (.int .i64 (fitsN c v0N)) ∧ Below w.heap.size w w' := Fits_any c v0N w hE.et hn

end Go.Proofs.YtmgeefhacnadcaaGreatDoor
