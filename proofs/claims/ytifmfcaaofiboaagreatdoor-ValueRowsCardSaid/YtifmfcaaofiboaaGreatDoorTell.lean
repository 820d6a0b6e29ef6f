/-
  What values' texts are, kind by kind (but for bytes).
-/
import Derived.Test.YtifmfcaaofiboaaGreatDoorFmtU
import Derived.Test.YtifmfcaaofiboaaGreatDoorOnly
import Derived.Lib.ItoaLen
namespace Go.Proofs.YtifmfcaaofiboaaGreatDoor
open Go.RowKit

/-- The table of powers of ten is there. -/
def HasTab (w : World) : Prop := Lib.TabIs Tryz.prog w "internal/strconv.uint64pow10" .u64 Lib.pow10Tab
theorem HasTab.below {B : Nat} {w w' : World} (h : HasTab w) (hb : Below B w w') (hB : 1 < B) : HasTab w' := by
  unfold HasTab Lib.TabIs World.var? at *
  have hg : Tryz.prog.globalNamed "internal/strconv.uint64pow10" = some 1 := by kernel_rfl
  rw [hg] at h ⊢
  simp only [Option.bind_some] at h ⊢
  rw [hb.block 1 hB]
  exact h
theorem HasTab.lt {w : World} (h : HasTab w) : 1 < w.heap.size := by
  unfold HasTab Lib.TabIs World.var? at h
  have hg : Tryz.prog.globalNamed "internal/strconv.uint64pow10" = some 1 := by kernel_rfl
  rw [hg] at h
  simp only [Option.bind_some] at h
  rcases Nat.lt_or_ge 1 w.heap.size with h' | h'
  · exact h'
  · rw [Array.getElem?_eq_none h'] at h; simp at h
theorem below_alloc1 (w : World) (o : Obj) {w' : World} (h : Below (w.alloc o).heap.size (w.alloc o) w') : Below w.heap.size w w' :=
  ((Below.refl _ _).alloc (Nat.le_refl _) _).trans (h.mono (by simp))

theorem tellNull_any (k i u : Int) (s : ByteArray) (w : World) :
    Calls Tryz.prog 68 #[.agg #[.int .i64 k, .int .i64 i, .int .u64 u, .string s]] w fun e w' => e = .returned (.string ⟨#[110, 117, 108, 108]⟩) ∧ Below w.heap.size w w' := by
  go_enter Tryz.func68, Tryz.ntmps68
  go_wp2
  go_ret
  exact ⟨rfl, by go_grown⟩
theorem tellInt_any (k i u : Int) (s : ByteArray) (w : World) (h0 : -9223372036854775808 ≤ i) (h1 : i ≤ 9223372036854775807) (ht : HasTab w) :
    Calls Tryz.prog 71 #[.agg #[.int .i64 k, .int .i64 i, .int .u64 u, .string s]] w fun e w' => e = .returned (.string ⟨(Lib.itoa i).toArray⟩) ∧ Below w.heap.size w w' := by
  have C := Lib.hid (FormatInt_10 i h0 h1 (w.alloc (.cells #[.int .i64 k, .int .i64 i, .int .u64 u, .string s] 25)) (Lib.tabIs_alloc ht _))
  clear h0 h1 ht
  go_enter Tryz.func71, Tryz.ntmps71
  go_wp2_with fail
  refine C.out.mono ?_
  rintro e w' ⟨rfl, hb⟩
  go_wp2_with fail
  go_ret
  exact ⟨rfl, below_alloc1 _ _ hb⟩
theorem tellUint_any (k i u : Int) (s : ByteArray) (w : World) (h0 : 0 ≤ u) (h1 : u ≤ 18446744073709551615) (ht : HasTab w) :
    Calls Tryz.prog 74 #[.agg #[.int .i64 k, .int .i64 i, .int .u64 u, .string s]] w fun e w' => e = .returned (.string (⟨(Lib.decDigits u.toNat).toArray⟩ ++ ⟨#[117]⟩)) ∧ Below w.heap.size w w' := by
  have C := Lib.hid (FormatUint_10 u h0 h1 (w.alloc (.cells #[.int .i64 k, .int .i64 i, .int .u64 u, .string s] 25)) (Lib.tabIs_alloc ht _))
  have hl : (Lib.decDigits u.toNat).length ≤ 20 := by rw [Lib.decDigits_length]; exact Lib.nDigits_le20 _ (by omega)
  clear h0 h1 ht
  go_enter Tryz.func74, Tryz.ntmps74
  go_wp2_with fail
  refine C.out.mono ?_
  rintro e w' ⟨rfl, hb⟩
  go_wp2_with fail
  go_ret
  exact ⟨rfl, below_alloc1 _ _ hb⟩
theorem tellBool_0w (k u : Int) (s : ByteArray) (w : World) :
    Calls Tryz.prog 77 #[.agg #[.int .i64 k, .int .i64 0, .int .u64 u, .string s]] w fun e w' => e = .returned (.string ⟨#[102, 97, 108, 115, 101]⟩) ∧ w.alloc (.cells #[.int .i64 k, .int .i64 0, .int .u64 u, .string s] 25) = w' := by
  go_enter Tryz.func77, Tryz.ntmps77
  go_wp2
  go_ret
  exact ⟨rfl, rfl⟩
theorem tellBool_0 (k u : Int) (s : ByteArray) (w : World) :
    Calls Tryz.prog 77 #[.agg #[.int .i64 k, .int .i64 0, .int .u64 u, .string s]] w fun e w' => e = .returned (.string ⟨#[102, 97, 108, 115, 101]⟩) ∧ Below w.heap.size w w' := by
  refine (tellBool_0w k u s w).mono ?_
  rintro e w' ⟨rfl, rfl⟩
  exact ⟨rfl, by go_grown⟩
theorem tellBool_1w (k u : Int) (s : ByteArray) (w : World) :
    Calls Tryz.prog 77 #[.agg #[.int .i64 k, .int .i64 1, .int .u64 u, .string s]] w fun e w' => e = .returned (.string ⟨#[116, 114, 117, 101]⟩) ∧ w.alloc (.cells #[.int .i64 k, .int .i64 1, .int .u64 u, .string s] 25) = w' := by
  go_enter Tryz.func77, Tryz.ntmps77
  go_wp2
  go_ret
  exact ⟨rfl, rfl⟩
theorem tellBool_1 (k u : Int) (s : ByteArray) (w : World) :
    Calls Tryz.prog 77 #[.agg #[.int .i64 k, .int .i64 1, .int .u64 u, .string s]] w fun e w' => e = .returned (.string ⟨#[116, 114, 117, 101]⟩) ∧ Below w.heap.size w w' := by
  refine (tellBool_1w k u s w).mono ?_
  rintro e w' ⟨rfl, rfl⟩
  exact ⟨rfl, by go_grown⟩
end Go.Proofs.YtifmfcaaofiboaaGreatDoor
