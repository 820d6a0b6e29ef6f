/-
  value.Order and swingbridgeref01.Order: one number, 'ord'.
-/
import Derived.Test.YtifmfcaaofiboaaGreatDoorCmp
namespace Go.Proofs.YtifmfcaaofiboaaGreatDoor
open Go.RowKit

def ord (k i u : Int) (s : ByteArray) (k' i' u' : Int) (s' : ByteArray) : Int := or4 (cmpI k k') (cmpI i i') (cmpI u u') (cmpS s s')

theorem cell_third (w : World) (A B : Obj) (c : Array Value) (t : TypeId) (j : Nat) : (((w.alloc A).alloc B).alloc (.cells c t)).drew.cell? ⟨w.heap.size + 1 + 1, j, none⟩ = c[j]? :=
  World.cell?_alloc_at (w := (w.alloc A).alloc B) c t _ j (by simp)

set_option maxRecDepth 100000 in
set_option maxHeartbeats 4000000 in
theorem Order_any (k i u : Int) (s : ByteArray) (k' i' u' : Int) (s' : ByteArray) (w : World) :
    Calls Tryz.prog 13 #[.agg #[.int .i64 k, .int .i64 i, .int .u64 u, .string s], .agg #[.int .i64 k', .int .i64 i', .int .u64 u', .string s']] w fun e w' => e = .returned (.int .i64 (ord k i u s k' i' u' s')) ∧ Below w.heap.size w w' := by
  unfold ord
  go_enter Tryz.func13, Tryz.ntmps13
  go_wp2_with fail
  go_region_held3 (fun w' => w'.cell? ⟨w.heap.size, 0, none⟩ = some (.int .i64 k) ∧ w'.cell? ⟨w.heap.size, 1, none⟩ = some (.int .i64 i) ∧ w'.cell? ⟨w.heap.size, 2, none⟩ = some (.int .u64 u) ∧ w'.cell? ⟨w.heap.size, 3, none⟩ = some (.string s) ∧ w'.cell? ⟨w.heap.size + 1, 0, none⟩ = some (.int .i64 k') ∧ w'.cell? ⟨w.heap.size + 1, 1, none⟩ = some (.int .i64 i') ∧ w'.cell? ⟨w.heap.size + 1, 2, none⟩ = some (.int .u64 u') ∧ w'.cell? ⟨w.heap.size + 1, 3, none⟩ = some (.string s')) (first | (go_keep; done) | (simp [*, go_sem]; done))
    (first | (go_at_call 31; refine (cmp_kind _ _ _).mono ?_; rintro e w' ⟨rfl, rfl⟩) | (go_at_call 32; refine (cmp_int64 _ _ _).mono ?_; rintro e w' ⟨rfl, rfl⟩) | (go_at_call 33; refine (cmp_uint64 _ _ _).mono ?_; rintro e w' ⟨rfl, rfl⟩) | (go_at_call 34; refine (cmp_string _ _ _).mono ?_; rintro e w' ⟨rfl, rfl⟩) | (go_at_call 30; refine (cmp_or _ (cmpI k k') (cmpI i i') (cmpI u u') (cmpS s s') _ ?_ ?_ ?_ ?_).mono ?_; exact cell_third _ _ _ _ _ 0; exact cell_third _ _ _ _ _ 1; exact cell_third _ _ _ _ _ 2; exact cell_third _ _ _ _ _ 3; rintro e w' ⟨rfl, rfl⟩))
  go_wp2_with fail
  go_ret
  exact ⟨rfl, by go_grown⟩
end Go.Proofs.YtifmfcaaofiboaaGreatDoor
