/-
  disk: ask at numbers, isNone, askFile.
-/
import Derived.Test.YtbhgcioeibhjeaaDoorDErr
import Derived.Test.YtbhgcioeibhjeaaDoorDSts
namespace Go.Proofs.YtbhgcioeibhjeaaDoor
open Go.RowKit

theorem Told.ok {w : World} {e : Ending} {w' : World} (h : Told 0 w e w') : e = .returned .nilIface ∧ Below w.heap.size w w' := by
  rcases h with ⟨_, h⟩ | ⟨h, _⟩
  · exact h
  · exact absurd rfl h
theorem Told.err {n : Int} {w : World} {e : Ending} {w' : World} (h : Told n w e w') (hn : n ≠ 0) : IsErr n w e w' := by
  rcases h with ⟨h, _⟩ | ⟨_, h⟩
  · exact absurd h hn
  · exact h
theorem isErr_below {n : Int} {w w1 w' : World} {e : Ending} (hb : Below w.heap.size w w1) (h : IsErr n w1 e w') : IsErr n w e w' := by
  obtain ⟨b, e1, h1, h2, h3⟩ := h
  exact ⟨b, e1, Nat.le_trans hb.size h1, h2, hb.trans (h3.mono hb.size)⟩
set_option maxRecDepth 100000 in
set_option maxHeartbeats 1000000 in
theorem ask_nums (p m : Nat) (oa : Option Addr) (cap : Nat) (l : List Int) (w : World) (h : IsDisk w p m) (hn : NumsIn w oa l) (hl : l.length ≤ 10) :
    Calls Tryd.prog 29 #[.pointer (some ⟨p, 0, none⟩), .slice oa l.length cap] w (Told (if l.all (fun x => decide (0 ≤ x)) then 0 else 2) w) := by
  unfold IsDisk at h
  have em := eq_map
  obtain ⟨n, hnn⟩ : ∃ n : Int, (if l.all (fun x => decide (0 ≤ x)) then 0 else 2) = n := ⟨_, rfl⟩
  have HNN := Lib.hid hnn
  rw [hnn]
  clear hnn
  go_enter Tryd.func29, Tryd.ntmps29
  go_wp2_with fail
  go_loop [19] (fun i => ∃ k : Nat, k ≤ l.length ∧ i = .int .i64 k ∧ Hid ((l.take k).all (fun x => decide (0 ≤ x)) = true)) (fun i => l.length - (intOf i).toNat)
  case atStart => exact ⟨0, Nat.zero_le _, rfl, Lib.hid (by simp)⟩
  case round =>
    obtain ⟨k, hk, rfl, HK⟩ := hrel
    by_cases hlt : k < l.length
    · obtain ⟨a, rfl, hat⟩ := hn k hlt
      obtain ⟨y, hy⟩ : ∃ y, l[k] = y := ⟨_, rfl⟩
      rw [hy] at hat
      clear hn
      by_cases hneg : y < 0
      · have HF := Lib.hid (show l.all (fun x => decide (0 ≤ x)) = false by
          rw [List.all_eq_false]
          exact ⟨y, by rw [← hy]; exact List.getElem_mem hlt, by simp; omega⟩)
        clear HK
        go_wp2_with (go_at_call 34; refine (Of_any _ _ _).mono ?_; rintro e w' ⟨rfl, rfl⟩)
        go_ret
        have hnn := HNN.out
        rw [HF.out] at hnn
        simp at hnn
        subst hnn
        exact .inr ⟨by simp, isErr_of _ _ _⟩
      · have HN := Lib.hid (show (l.take (k + 1)).all (fun x => decide (0 ≤ x)) = true by
          rw [List.take_succ_eq_append_getElem hlt, List.all_append, HK.out, hy]
          simp; omega)
        clear HK
        go_wp2_with fail
        go_roundw
        case rel => exact ⟨k + 1, by omega, by go_num, HN⟩
        case measure => simp [intOf]; omega
    · have hkl : k = l.length := by omega
      subst hkl
      have HT := Lib.hid (show l.all (fun x => decide (0 ≤ x)) = true by rw [← HK.out, List.take_length])
      clear HK hn
      go_wp2_with fail
      go_ret
      have hnn := HNN.out
      rw [HT.out] at hnn
      simp at hnn
      subst hnn
      exact .inl ⟨rfl, rfl, Below.refl _ _⟩
set_option maxRecDepth 100000 in
set_option maxHeartbeats 1000000 in
theorem askFile_no (v : Value) (f : Int) (oa : Option Addr) (n c : Nat) (w : World) (h : NoDisk w v) : Calls Tryd.prog 41 #[v, .int .i64 f, .slice oa n c] w (IsErr 1 w) := by
  have HA := Lib.hid (ask_no v oa n c w h)
  have hq : ∀ x W, (binOp .eql 50 (.iface 106 x) .nilIface).run Tryd.prog W = .ok (.bool false) W := fun _ _ => rfl
  clear h
  go_enter Tryd.func41, Tryd.ntmps41
  go_wp2_with (first | (go_at_call 29; refine HA.out.mono ?_; rintro e w1 ⟨b, rfl, hb, hc, hbw⟩))
  go_ret
  exact ⟨b, rfl, hb, hc, hbw⟩
/-- what askFile tells of a disk -/
def fileE (l : List Int) (f : Int) : Int := if l.all (fun x => decide (0 ≤ x)) then (if f < 0 ∨ 64 ≤ f then 4 else 0) else 2
set_option maxRecDepth 100000 in
set_option maxHeartbeats 1000000 in
theorem askFile_any (p m : Nat) (f : Int) (oa : Option Addr) (cap : Nat) (l : List Int) (w : World) (h : IsDisk w p m) (hn : NumsIn w oa l) (hl : l.length ≤ 10) :
    Calls Tryd.prog 41 #[.pointer (some ⟨p, 0, none⟩), .int .i64 f, .slice oa l.length cap] w (Told (fileE l f) w) := by
  have HA := Lib.hid (ask_nums p m oa cap l w h hn hl)
  have hq : ∀ x W, (binOp .eql 50 (.iface 106 x) .nilIface).run Tryd.prog W = .ok (.bool false) W := fun _ _ => rfl
  have hq0 : ∀ W, (binOp .eql 50 .nilIface .nilIface).run Tryd.prog W = .ok (.bool true) W := fun _ => rfl
  clear h hn hl
  unfold fileE
  cases hb : l.all (fun x => decide (0 ≤ x)) with
  | false =>
    rw [hb] at HA
    have HA := Lib.hid (HA.out.mono (fun e w' h => Told.err h (by simp)))
    go_enter Tryd.func41, Tryd.ntmps41
    go_wp2_with (first | (go_at_call 29; refine HA.out.mono ?_; rintro e w1 ⟨b, rfl, h1, hc, hbw⟩))
    go_ret
    exact .inr ⟨by simp, b, rfl, h1, hc, hbw⟩
  | true =>
    rw [hb] at HA
    have HA := Lib.hid (HA.out.mono (fun e w' h => Told.ok h))
    by_cases hf : f < 0
    · have e0 : (if f < 0 ∨ 64 ≤ f then (4 : Int) else 0) = 4 := if_pos (.inl hf)
      rw [if_pos rfl, e0]
      go_enter Tryd.func41, Tryd.ntmps41
      go_wp2_with (first | (go_at_call 29; refine HA.out.mono ?_; rintro e w1 ⟨rfl, hbw⟩) | (go_at_call 34; refine (Of_any _ _ _).mono ?_; rintro e w' ⟨rfl, rfl⟩))
      go_ret
      exact .inr ⟨by simp, isErr_below hbw (isErr_of _ _ _)⟩
    · by_cases hf2 : 64 ≤ f
      · have e0 : (if f < 0 ∨ 64 ≤ f then (4 : Int) else 0) = 4 := if_pos (.inr hf2)
        rw [if_pos rfl, e0]
        go_enter Tryd.func41, Tryd.ntmps41
        go_wp2_with (first | (go_at_call 29; refine HA.out.mono ?_; rintro e w1 ⟨rfl, hbw⟩) | (go_at_call 34; refine (Of_any _ _ _).mono ?_; rintro e w' ⟨rfl, rfl⟩))
        go_ret
        exact .inr ⟨by simp, isErr_below hbw (isErr_of _ _ _)⟩
      · have e0 : (if f < 0 ∨ 64 ≤ f then (4 : Int) else 0) = 0 := if_neg (by omega)
        rw [if_pos rfl, e0]
        go_enter Tryd.func41, Tryd.ntmps41
        go_wp2_with (first | (go_at_call 29; refine HA.out.mono ?_; rintro e w1 ⟨rfl, hbw⟩))
        go_ret
        exact .inl ⟨rfl, rfl, hbw⟩
end Go.Proofs.YtbhgcioeibhjeaaDoor
