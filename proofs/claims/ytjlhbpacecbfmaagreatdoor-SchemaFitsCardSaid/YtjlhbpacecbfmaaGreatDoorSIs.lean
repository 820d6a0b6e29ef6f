/-
  errors.Is at an error of schema's own and a number; slices.Index at numbers.
-/
import Derived.Test.YtjlhbpacecbfmaaGreatDoorSPick
namespace Go.Proofs.YtjlhbpacecbfmaaGreatDoor
open Go.RowKit Go.Extern.Stop Go.Stop Go.Extern

theorem noIsM (v : Value) (w : World) : (Instr.typeAssert (.iface 132 v) 72 158 true).run Tryz.prog w = .ok (.tuple #[.nilIface, .bool false]) w :=
  run_typeAssert_lacksB Tryz.underlying158 (by kernel_rfl) (by kernel_rfl) v 72 w
theorem rl_cmpE (w : World) : (ReflectliteType.method (fun t => do Rtype.noPackHeld "Comparable" t; (fun a => Value.bool a.comparable) <$> typeInfo t) #[.agg #[.pointer (some ⟨5, 36, none⟩)]]).run Tryz.prog w = .ok (.bool true) w := by kernel_rfl
theorem eq_num (w : World) : (binOp .eql 72 (.iface 36 (.int .i64 4)) (.iface 36 (.int .i64 4))).run Tryz.prog w = .ok (.bool true) w := by kernel_rfl
theorem eq_mis (v : Value) (w : World) : (binOp .eql 72 (.iface 132 v) (.iface 36 (.int .i64 4))).run Tryz.prog w = .ok (.bool false) w := by kernel_rfl

set_option maxHeartbeats 1000000 in
theorem is_none (w : World) : Calls Tryz.prog 79 #[.nilIface, .iface 36 (.int .i64 4)] w fun e w' => e = .returned (.bool false) ∧ w = w' := by
  have hn : ∀ w, (binOp .eql 72 .nilIface (.iface 36 (.int .i64 4))).run Tryz.prog w = .ok (.bool false) w := fun w => by kernel_rfl
  go_enter Tryz.func79, Tryz.ntmps79
  go_wp2
  go_ret
  exact ⟨rfl, rfl⟩

set_option maxRecDepth 100000 in
set_option maxHeartbeats 4000000 in
theorem is_mis (b : Nat) (w : World) (h1 : w.cell? ⟨b, 1, none⟩ = some (.int .i64 4)) :
    Calls Tryz.prog 79 #[.iface 132 (.pointer (some ⟨b, 0, none⟩)), .iface 36 (.int .i64 4)] w fun e w' => e = .returned (.bool true) ∧ w = w' := by
  have hTO := @run_callFunc_extern Tryz.prog 90 _ ReflectliteType.typeOf Tryz.func90 (by kernel_rfl) (by kernel_rfl) (by kernel_rfl) (by kernel_rfl)
  have hCm := @run_callFunc_extern Tryz.prog 163 _ (ReflectliteType.method fun t => do Rtype.noPackHeld "Comparable" t; pure (.bool (← typeInfo t).comparable)) Tryz.func163 (by kernel_rfl) (by kernel_rfl) (by kernel_rfl) (by kernel_rfl)
  have r1 := rl_typeOfE
  have r2 := rl_cmpE
  have r3 := noIsM
  have r4 := hasUnwrapM
  have r5 := eq_num
  have r6 := eq_mis
  go_enter Tryz.func79, Tryz.ntmps79
  go_wp2
  refine wp_loop_rounds 2 ?_
  rw [rounds_succ]
  go_wp2
  rw [rounds_succ]
  go_wp2
  go_ret
  exact ⟨rfl, rfl⟩

/-- the place of the first such number; -1 -/
def firstIFrom (x : Int) : List Int → Int → Int
  | [], _ => -1
  | y :: l, i => if x = y then i else firstIFrom x l (i + 1)
def firstI (l : List Int) (x : Int) : Int := firstIFrom x l 0
def FRelI (l : List Int) (x : Int) (k : Nat) : Prop := firstI l x = firstIFrom x (l.drop k) k
theorem FRelI.zero (l : List Int) (x : Int) : FRelI l x 0 := rfl
theorem FRelI.next {l : List Int} {x y : Int} {k : Nat} (h : FRelI l x k) (hk : k < l.length) (hc : l[k] = y) (hn : x ≠ y) : FRelI l x (k + 1) := by
  unfold FRelI at *
  rw [h, List.drop_eq_getElem_cons hk, hc]
  simp [firstIFrom, hn]
theorem FRelI.hit {l : List Int} {x y : Int} {k : Nat} (h : FRelI l x k) (hk : k < l.length) (hc : l[k] = y) (hn : x = y) : firstI l x = k := by
  unfold FRelI at *
  rw [h, List.drop_eq_getElem_cons hk, hc]
  simp [firstIFrom, hn]
theorem FRelI.none {l : List Int} {x : Int} {k : Nat} (h : FRelI l x k) (hk : l.length ≤ k) : firstI l x = -1 := by
  unfold FRelI at *
  rw [h, List.drop_eq_nil_of_le hk]
  rfl
set_option maxRecDepth 100000 in
set_option maxHeartbeats 1000000 in
theorem iIndex_any (oa : Option Addr) (cap : Nat) (l : List Int) (x : Int) (w : World) (hl : l.length ≤ 1000) (hc : IntsIn w oa l) :
    Calls Tryz.prog 80 #[.slice oa l.length cap, .int .i64 x] w fun e w' => e = .returned (.int .i64 (firstI l x)) ∧ w = w' := by
  go_enter Tryz.func80, Tryz.ntmps80
  go_wp2
  go_loop [8] (fun i => ∃ k : Nat, k ≤ l.length ∧ i = .int .i64 k ∧ Hid (FRelI l x k)) (fun i => l.length - (intOf i).toNat)
  case atStart => exact ⟨0, Nat.zero_le _, rfl, Lib.hid (FRelI.zero _ _)⟩
  case round =>
    obtain ⟨k, hk, rfl, HK⟩ := hrel
    by_cases hlt : k < l.length
    · obtain ⟨a, rfl, hat⟩ := hc k hlt
      obtain ⟨y, hy⟩ : ∃ y, l[k] = y := ⟨_, rfl⟩
      rw [hy] at hat
      clear hc
      by_cases hxy : x = y
      · have HN := Lib.hid (HK.out.hit hlt hy hxy)
        have hq : (x == y) = true := by simpa using hxy
        clear hxy hy
        go_wp2
        go_ret
        exact ⟨by rw [HN.out]; rfl, rfl⟩
      · have HN := Lib.hid (HK.out.next hlt hy hxy)
        have hq : (x == y) = false := by simpa using hxy
        clear hxy hy
        go_wp2
        go_round
        case rel => exact ⟨k + 1, by omega, by go_num, HN⟩
        case measure => simp [intOf]; omega
    · have HN := Lib.hid (HK.out.none (by omega))
      clear hc
      go_wp2
      go_ret
      exact ⟨by rw [HN.out]; rfl, rfl⟩
end Go.Proofs.YtjlhbpacecbfmaaGreatDoor
