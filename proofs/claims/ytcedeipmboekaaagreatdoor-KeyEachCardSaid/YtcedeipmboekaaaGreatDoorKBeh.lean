/-
  key.Behind, key.All; swingbridgelaw05.KeyBehind: its walk.
-/
import Derived.Test.YtcedeipmboekaaaGreatDoorKWorks
namespace Go.Proofs.YtcedeipmboekaaaGreatDoor
open Go.RowKit

theorem qBehind_any (s : ByteArray) (w : World) (hs : s.size ≤ 1000000) : Calls Tryz.prog 18 #[.string s] w fun e w' => e = .returned (.string (s ++ ⟨#[0]⟩)) ∧ w = w' := by
  go_enter Tryz.func18, Tryz.ntmps18
  go_wp2_with fail
  go_ret
  exact ⟨rfl, rfl⟩
theorem qAll_any (s : ByteArray) (w : World) (hs : s.size ≤ 1000000) : Calls Tryz.prog 19 #[.string s] w fun e w' => e = .returned (.string (s ++ ⟨#[255]⟩)) ∧ w = w' := by
  go_enter Tryz.func19, Tryz.ntmps19
  go_wp2_with fail
  go_ret
  exact ⟨rfl, rfl⟩
theorem less_app (a b c : List UInt8) : Op.bytesLess (a ++ b) (a ++ c) = Op.bytesLess b c := by
  induction a with
  | nil => rfl
  | cons x a ih => rw [List.cons_append, List.cons_append, bytesLess_cons, ih]; simp
theorem none_between {a b : List UInt8} (h : Op.bytesLess a b = true) : Op.bytesLess b (a ++ [0]) = false := by
  rcases less_forms a b h with h | ⟨x, r, rfl⟩
  · have := (h.app [0] []).less
    rw [List.append_nil] at this
    exact less_anti _ _ this
  · rw [less_app, bytesLess_cons, show Op.bytesLess r [] = false by cases r <;> simp [Op.bytesLess]]
    simp
theorem to_app (s : ByteArray) (x : UInt8) : (s ++ (⟨#[x]⟩ : ByteArray)).toList = s.toList ++ [x] := by
  rw [ByteArray.toList_eq, ByteArray.toList_eq]
  simp
set_option maxRecDepth 100000 in
set_option maxHeartbeats 2000000 in
theorem keyBehind_true (s o : ByteArray) (w : World) (hg : HasET w) (hs : s.size ≤ 9223372036854775807) (ho : o.size ≤ 9223372036854775807) : Calls Tryz.prog 6 #[.string s, .string o] w fun e w' => e = .returned (.bool true) ∧ Below w.heap.size w w' := by
  have HW := Lib.hid (qworks_true w hg)
  clear hg
  by_cases h1 : s.size ≤ 300
  · by_cases h2 : o.size ≤ 300
    · have HB := Lib.hid (qBehind_any s w (by omega))
      have HA := Lib.hid (qAll_any s w (by omega))
      cases hx : Op.bytesLess o.toList s.toList
      · cases hy : (o.toList == s.toList)
        · have hn : Op.bytesLess o.toList (s ++ (⟨#[0]⟩ : ByteArray)).toList = false := by
            rw [to_app]
            refine none_between ?_
            cases hz : Op.bytesLess s.toList o.toList
            · have := less_total _ _ hx hz
              rw [this] at hy
              simp at hy
            · rfl
          go_enter Tryz.func6, Tryz.ntmps6
          go_wp2_with (first | (go_at_call 18; refine HB.out.mono ?_; rintro e w' ⟨rfl, rfl⟩) | (go_at_call 19; refine HA.out.mono ?_; rintro e w' ⟨rfl, rfl⟩) | (go_at_call 9; refine HW.out.mono ?_; rintro e w' ⟨rfl, hb⟩))
          go_ret
          exact ⟨rfl, hb⟩
        · go_enter Tryz.func6, Tryz.ntmps6
          go_wp2_with (first | (go_at_call 18; refine HB.out.mono ?_; rintro e w' ⟨rfl, rfl⟩) | (go_at_call 19; refine HA.out.mono ?_; rintro e w' ⟨rfl, rfl⟩) | (go_at_call 9; refine HW.out.mono ?_; rintro e w' ⟨rfl, hb⟩))
          go_ret
          exact ⟨rfl, hb⟩
      · go_enter Tryz.func6, Tryz.ntmps6
        go_wp2_with (first | (go_at_call 18; refine HB.out.mono ?_; rintro e w' ⟨rfl, rfl⟩) | (go_at_call 19; refine HA.out.mono ?_; rintro e w' ⟨rfl, rfl⟩) | (go_at_call 9; refine HW.out.mono ?_; rintro e w' ⟨rfl, hb⟩))
        go_ret
        exact ⟨rfl, hb⟩
    · go_enter Tryz.func6, Tryz.ntmps6
      go_wp2_with (first | (go_at_call 9; refine HW.out.mono ?_; rintro e w' ⟨rfl, hb⟩))
      go_ret
      exact ⟨rfl, hb⟩
  · go_enter Tryz.func6, Tryz.ntmps6
    go_wp2_with (first | (go_at_call 9; refine HW.out.mono ?_; rintro e w' ⟨rfl, hb⟩))
    go_ret
    exact ⟨rfl, hb⟩
end Go.Proofs.YtcedeipmboekaaaGreatDoor
