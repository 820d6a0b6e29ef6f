/-
  swingbridgelaw02.OctetEach: true, for any bytes and any number.
-/
import Derived.Test.YtkjdhkpnbgflhaaOEachL
namespace Go.Proofs.Ytkjdhkpnbgflhaa
open Go.RowKit Go.Shelf
attribute [local go_sem] Oper.semAt_some

set_option maxRecDepth 100000 in
set_option maxHeartbeats 2000000 in
theorem each_works (vb : Value) (b : List UInt8) (many : Int) (w : World) (hv : BytesOf w vb b) (hb : b.length ≤ 9223372036854775807) (h : 300 < b.length) :
    Calls Try.prog 3 #[vb, .int .i64 many] w fun e w' => e = .returned (.bool true) ∧ Below w.heap.size w w' := by
  obtain ⟨oa, cap, rfl, _, _⟩ := hv.at
  clear hv
  refine (callsIn_wide (n := 5)).1 ?_
  refine callsIn_of_wp_marks Try.func3 rfl trivial ?_ rfl
  simp only [Try.ntmps3, List.size_toArray, List.length_cons, List.length_nil, Nat.reduceAdd, Nat.reduceSub, Array.replicate_succ, Array.replicate_zero, List.push_toArray, List.append_toArray, List.nil_append, List.cons_append]
  refine wpIn_wide.2 ?_
  go_wp2_with fail
  refine (works_true _).mono ?_
  rintro e w9 ⟨rfl, hb9⟩
  have HB9 := Lib.hid ((((Below.refl w.heap.size w).alloc (Nat.le_refl _) (.cells #[.int .i64 many] 3)).alloc (by simp) (.cells #[.bool false] 4)).trans (hb9.mono (by simp; omega)))
  have r0 : w9.cell? ⟨w.heap.size + 1, 0, none⟩ = some (.bool false) := by rw [hb9.cell (by simp)]; simp [go_sem]
  have r0F : w9.frozen? ⟨w.heap.size + 1, 0, none⟩ = false := by rw [hb9.frozen (by simp)]; simp [go_sem]
  clear hb9
  go_wp2_with fail
  have hcell : (w9.setCell ⟨w.heap.size + 1, 0, none⟩ (.bool true)).cell? ⟨w.heap.size + 1, 0, none⟩ = some (.bool true) := World.cell?_setCell_same' _ _ _ (by rw [r0]; rfl)
  exact ⟨.bool true, by simp [results, Try.results3, go_sem, hcell], rfl, HB9.out.setCell (p := ⟨w.heap.size + 1, 0, none⟩) (by simp) _⟩
theorem each_true (vb : Value) (b : List UInt8) (many : Int) (w : World) (hv : BytesOf w vb b) (hb : b.length ≤ 9223372036854775807) (hm0 : -9223372036854775808 ≤ many) (hm1 : many ≤ 9223372036854775807) :
    Calls Try.prog 3 #[vb, .int .i64 many] w fun e w' => e = .returned (.bool true) ∧ Below w.heap.size w w' := by
  by_cases h : 300 < b.length
  · exact each_works vb b many w hv hb h
  · exact each_deep vb b many w hv (by omega) hm0 hm1
end Go.Proofs.Ytkjdhkpnbgflhaa
