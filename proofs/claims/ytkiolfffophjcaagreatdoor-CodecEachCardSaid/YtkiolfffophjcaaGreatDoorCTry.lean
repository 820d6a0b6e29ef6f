/-
  codec: end, attempt, whole: what is read whole, or tells ErrCode.
-/
import Derived.Test.YtkiolfffophjcaaGreatDoorCLRead
import Derived.Defers
import Derived.Recover
namespace Go.Proofs.YtkiolfffophjcaaGreatDoor
open Go.RowKit

set_option maxRecDepth 100000 in
set_option maxHeartbeats 1000000 in
theorem cend_yes (R : Nat) (oa : Option Addr) (n cap : Nat) (w : World) (hr : Rd w R (.slice oa n cap) n) :
    Calls Tryz.prog 112 #[.pointer (some ⟨R, 0, none⟩)] w fun e w' => e = .returned (.tuple #[]) ∧ ∃ q, w.drewN q = w' := by
  obtain ⟨h0, h1, h2⟩ := hr
  go_enter Tryz.func112, Tryz.ntmps112
  go_wp2_with fail
  go_quiet (fail)
  go_wp2_with fail
  go_end0
  exact ⟨rfl, _, rfl⟩
set_option maxRecDepth 100000 in
set_option maxHeartbeats 1000000 in
theorem cend_no (R : Nat) (oa : Option Addr) (n cap i : Nat) (w : World) (hr : Rd w R (.slice oa n cap) i) (hi : i < n) :
    Calls Tryz.prog 112 #[.pointer (some ⟨R, 0, none⟩)] w (Gone w R) := by
  obtain ⟨h0, h1, h2⟩ := hr
  go_enter Tryz.func112, Tryz.ntmps112
  go_wp2_with fail
  go_quiet (fail)
  go_wp2_with fail
  exact ⟨rfl, ⟨_, rfl⟩, grown_drewN w _ _⟩

theorem asNone (s : ByteArray) (w : World) : (Instr.typeAssert (.iface 174 (.string s)) 20 174 true).run Tryz.prog w = .ok (.tuple #[.string s, .bool true]) w := by kernel_rfl
theorem asNil (w : World) : (Instr.typeAssert .nilIface 20 174 true).run Tryz.prog w = .ok (.tuple #[.string ⟨#[]⟩, .bool false]) w := by kernel_rfl
set_option maxRecDepth 100000 in
set_option maxHeartbeats 1000000 in
theorem ccatchV_panicking (p : Addr) (x : Int) (s : ByteArray) (w : World) (hc : w.cell? p = some (.int .i64 x)) (hz : w.frozen? p = false) :
    CallsD Tryz.prog 117 #[.pointer (some p)] (.panicking [{ v := .iface 174 (.string s), recovered := false }]) w fun e u' w' =>
      e = .returned (.tuple #[]) ∧ u' = .panicking [{ v := .iface 174 (.string s), recovered := true }] ∧ w.setCell p (.int .i64 140) = w' := by
  refine callsD_of_wpS Tryz.func117 rfl fun c₀ cs hu => ?_
  apply wpS_seq
  apply wpS_region
  simp [wpOpsS, go_sem, recoverD, hu, Tryz.ntmps117, Exit.thenS]
  refine wpS_of_wp ?_
  rw [show (#[Value.pointer (some p)] ++ ((Array.replicate 15 undef).setIfInBounds 3 (Value.iface 174 (Value.string s))).setIfInBounds 0 (Value.iface 174 (Value.string s)) : Array Value) = #[.pointer (some p), .iface 174 (.string s), undef, undef, .iface 174 (.string s), undef, undef, undef, undef, undef, undef, undef, undef, undef, undef, undef] from rfl]
  have HU := Lib.hid hu
  clear hu
  have hTA := asNone s
  go_wp2
  simp [bodyPostS, results, Tryz.results117, go_sem]

set_option maxRecDepth 100000 in
set_option maxHeartbeats 1000000 in
theorem ccatchV_idle (p : Addr) (w : World) :
    CallsD Tryz.prog 117 #[.pointer (some p)] .returning w fun e u' w' => e = .returned (.tuple #[]) ∧ u' = .returning ∧ w = w' := by
  refine callsD_of_wpS Tryz.func117 rfl fun c₀ cs hu => ?_
  apply wpS_seq
  apply wpS_region
  simp [wpOpsS, go_sem, recoverD, hu, Tryz.ntmps117, Exit.thenS]
  refine wpS_of_wp ?_
  rw [show (#[Value.pointer (some p)] ++ ((Array.replicate 15 undef).setIfInBounds 3 Value.nilIface).setIfInBounds 0 Value.nilIface : Array Value) = #[.pointer (some p), .nilIface, undef, undef, .nilIface, undef, undef, undef, undef, undef, undef, undef, undef, undef, undef, undef] from rfl]
  have HU := Lib.hid hu
  clear hu
  have hTA := asNil
  go_wp2
  have hu := HU.out
  cases c₀
  simp_all [bodyPostS, results, Tryz.results117, go_sem]

/-- what attempt tells -/
def TryPost (w : World) (R : Nat) (s : Value) (o : Option (List Vl × Nat)) (i : Nat) (e : Ending) (w' : World) : Prop :=
  match o with
  | some (vs, k) => ∃ b, e = .returned (.tuple #[.slice (some ⟨b, 0, none⟩) vs.length vs.length, .int .i64 0]) ∧ w.heap.size ≤ b ∧ ValsIn w' (some ⟨b, 0, none⟩) vs ∧ Rd w' R s (i + k) ∧ w.grownBy w' (some R)
  | none => e = .returned (.tuple #[.slice none 0 0, .int .i64 140]) ∧ w.grownBy w' (some R)
theorem cellE {w w1 : World} {R : Nat} (hR : R < w.heap.size) (hg : (w.alloc (.cells #[.int .i64 0] 36)).grownBy w1 (some R)) : w1.cell? ⟨w.heap.size, 0, none⟩ = some (.int .i64 0) ∧ w1.frozen? ⟨w.heap.size, 0, none⟩ = false := by
  refine ⟨?_, ?_⟩
  · rw [hg.cell_far _ (by simp) (by simp; omega)]; simp [go_sem]
  · rw [hg.frozen_far _ (by simp) (by simp; omega)]; simp [go_sem]
theorem vals_set {w : World} {b B o : Nat} {x : Value} {vs : List Vl} (h : ValsIn w (some ⟨b, 0, none⟩) vs) (hne : b ≠ B) : ValsIn (w.setCell ⟨B, o, none⟩ x) (some ⟨b, 0, none⟩) vs := fun j hj => by
  obtain ⟨a, e, h0, h1, h2, h3⟩ := h j hj
  cases e
  have hb : ((⟨b, 0, none⟩ : Addr).add (j * 4)).block = b := Addr.add_block _ _
  refine ⟨_, rfl, ?_, ?_, ?_, ?_⟩
  · rw [World.cell?_setCell_far _ _ _ _ (by rw [hb]; exact fun e => hne e.symm)]; exact h0
  · rw [World.cell?_setCell_far _ _ _ _ (by simp only [hb]; exact fun e => hne e.symm)]; exact h1
  · rw [World.cell?_setCell_far _ _ _ _ (by simp only [hb]; exact fun e => hne e.symm)]; exact h2
  · rw [World.cell?_setCell_far _ _ _ _ (by simp only [hb]; exact fun e => hne e.symm)]; exact h3
set_option maxRecDepth 100000 in
set_option maxHeartbeats 1000000 in
theorem attemptV_yes (R : Nat) (s : Value) (f : Value) (vs : List Vl) (k i : Nat) (w : World) (hR : R < w.heap.size)
    (H : Calls Tryz.prog 111 #[.pointer (some ⟨R, 0, none⟩), f] (w.alloc (.cells #[.int .i64 0] 36)) (ReadPost (w.alloc (.cells #[.int .i64 0] 36)) R s (some (vs, k)) i)) :
    Calls Tryz.prog 78 #[.pointer (some ⟨R, 0, none⟩), .func (.func 111) #[] #[f]] w (TryPost w R s (some (vs, k)) i) := by
  have hmf : ∀ (fn : Fn) (first cap : Array Value) (w : World), (Instr.makeFunc fn first cap).run Tryz.prog w = .ok (.func fn first cap) w := fun _ _ _ _ => rfl
  have HH := Lib.hid H
  clear H
  go_enter_defers Tryz.func78, Tryz.ntmps78
  go_wp2_with fail
  refine HH.out.mono ?_
  rintro e w1 ⟨b, rfl, hbl, hv, hrd, hg⟩
  obtain ⟨c0, f0⟩ := cellE hR hg
  have HV := Lib.hid hv
  have HRD := Lib.hid hrd
  have HG := Lib.hid ((World.grownBy_alloc w _ _).trans hg)
  have hb2 : w.heap.size < b := by rw [World.size_alloc] at hbl; omega
  clear hv hrd hg hbl
  go_wp2_with fail
  refine leaves_cons (f := 117) (args := #[.pointer (some ⟨w.heap.size, 0, none⟩)]) (by simp) (by simp [go_sem]) ?_
  refine (ccatchV_idle ⟨w.heap.size, 0, none⟩ _).mono ?_
  rintro e u' w'' ⟨rfl, rfl, rfl⟩
  simp [Leaves, settle, results, Tryz.results78, go_sem, c0]
  exact ⟨b, rfl, by omega, vals_set HV.out (by omega), HRD.out.set (by omega), grown_set HG.out (Nat.le_refl _)⟩
set_option maxRecDepth 100000 in
set_option maxHeartbeats 1000000 in
theorem attemptV_no (R : Nat) (s : Value) (f : Value) (i : Nat) (w : World) (hR : R < w.heap.size)
    (H : Calls Tryz.prog 111 #[.pointer (some ⟨R, 0, none⟩), f] (w.alloc (.cells #[.int .i64 0] 36)) (ReadPost (w.alloc (.cells #[.int .i64 0] 36)) R s none i)) :
    Calls Tryz.prog 78 #[.pointer (some ⟨R, 0, none⟩), .func (.func 111) #[] #[f]] w (TryPost w R s none i) := by
  have hmf : ∀ (fn : Fn) (first cap : Array Value) (w : World), (Instr.makeFunc fn first cap).run Tryz.prog w = .ok (.func fn first cap) w := fun _ _ _ _ => rfl
  have HH := Lib.hid H
  clear H
  go_enter_defers Tryz.func78, Tryz.ntmps78
  go_wp2_with fail
  refine HH.out.mono ?_
  rintro e w1 ⟨⟨q, rfl⟩, hg⟩
  obtain ⟨c0, f0⟩ := cellE hR hg
  have HG := Lib.hid ((World.grownBy_alloc w _ _).trans hg)
  clear hg
  refine leaves_cons (f := 117) (args := #[.pointer (some ⟨w.heap.size, 0, none⟩)]) (by simp) (by simp [go_sem]) ?_
  refine (ccatchV_panicking ⟨w.heap.size, 0, none⟩ 0 q _ c0 f0).mono ?_
  rintro e u' w'' ⟨rfl, rfl, rfl⟩
  simp [Leaves, settle, results, Tryz.results78, go_sem, c0]
  exact ⟨rfl, grown_set HG.out (Nat.le_refl _)⟩
set_option maxRecDepth 100000 in
set_option maxHeartbeats 1000000 in
theorem attemptL_yes (R : Nat) (s : Value) (f : Value) (vs : List Vl) (k i : Nat) (w : World) (hR : R < w.heap.size)
    (H : Calls Tryz.prog 71 #[f, .pointer (some ⟨R, 0, none⟩)] (w.alloc (.cells #[.int .i64 0] 36)) (ReadPost (w.alloc (.cells #[.int .i64 0] 36)) R s (some (vs, k)) i)) :
    Calls Tryz.prog 78 #[.pointer (some ⟨R, 0, none⟩), .func (.func 71) #[f] #[]] w (TryPost w R s (some (vs, k)) i) := by
  have hmf : ∀ (fn : Fn) (first cap : Array Value) (w : World), (Instr.makeFunc fn first cap).run Tryz.prog w = .ok (.func fn first cap) w := fun _ _ _ _ => rfl
  have HH := Lib.hid H
  clear H
  go_enter_defers Tryz.func78, Tryz.ntmps78
  go_wp2_with fail
  refine HH.out.mono ?_
  rintro e w1 ⟨b, rfl, hbl, hv, hrd, hg⟩
  obtain ⟨c0, f0⟩ := cellE hR hg
  have HV := Lib.hid hv
  have HRD := Lib.hid hrd
  have HG := Lib.hid ((World.grownBy_alloc w _ _).trans hg)
  have hb2 : w.heap.size < b := by rw [World.size_alloc] at hbl; omega
  clear hv hrd hg hbl
  go_wp2_with fail
  refine leaves_cons (f := 117) (args := #[.pointer (some ⟨w.heap.size, 0, none⟩)]) (by simp) (by simp [go_sem]) ?_
  refine (ccatchV_idle ⟨w.heap.size, 0, none⟩ _).mono ?_
  rintro e u' w'' ⟨rfl, rfl, rfl⟩
  simp [Leaves, settle, results, Tryz.results78, go_sem, c0]
  exact ⟨b, rfl, by omega, vals_set HV.out (by omega), HRD.out.set (by omega), grown_set HG.out (Nat.le_refl _)⟩
set_option maxRecDepth 100000 in
set_option maxHeartbeats 1000000 in
theorem attemptL_no (R : Nat) (s : Value) (f : Value) (i : Nat) (w : World) (hR : R < w.heap.size)
    (H : Calls Tryz.prog 71 #[f, .pointer (some ⟨R, 0, none⟩)] (w.alloc (.cells #[.int .i64 0] 36)) (ReadPost (w.alloc (.cells #[.int .i64 0] 36)) R s none i)) :
    Calls Tryz.prog 78 #[.pointer (some ⟨R, 0, none⟩), .func (.func 71) #[f] #[]] w (TryPost w R s none i) := by
  have hmf : ∀ (fn : Fn) (first cap : Array Value) (w : World), (Instr.makeFunc fn first cap).run Tryz.prog w = .ok (.func fn first cap) w := fun _ _ _ _ => rfl
  have HH := Lib.hid H
  clear H
  go_enter_defers Tryz.func78, Tryz.ntmps78
  go_wp2_with fail
  refine HH.out.mono ?_
  rintro e w1 ⟨⟨q, rfl⟩, hg⟩
  obtain ⟨c0, f0⟩ := cellE hR hg
  have HG := Lib.hid ((World.grownBy_alloc w _ _).trans hg)
  clear hg
  refine leaves_cons (f := 117) (args := #[.pointer (some ⟨w.heap.size, 0, none⟩)]) (by simp) (by simp [go_sem]) ?_
  refine (ccatchV_panicking ⟨w.heap.size, 0, none⟩ 0 q _ c0 f0).mono ?_
  rintro e u' w'' ⟨rfl, rfl, rfl⟩
  simp [Leaves, settle, results, Tryz.results78, go_sem, c0]
  exact ⟨rfl, grown_set HG.out (Nat.le_refl _)⟩

/-- all of them are one's -/
def wholeO (n : Nat) : Option (List Vl × Nat) → Option (List Vl × Nat)
  | some (vs, k) => if k = n then some (vs, k) else none
  | none => none
set_option maxRecDepth 100000 in
set_option maxHeartbeats 1000000 in
theorem wholeV1_any (R : Nat) (oa : Option Addr) (n cap : Nat) (L : Value) (p : Addr) (o : Option (List Vl × Nat)) (w : World) (hn : ∀ x, o = some x → x.2 ≤ n) (hp : w.cell? p = some (.func (.func 71) #[L] #[]))
    (H : Calls Tryz.prog 71 #[L, .pointer (some ⟨R, 0, none⟩)] w (ReadPost w R (.slice oa n cap) o 0)) :
    Calls Tryz.prog 111 #[.pointer (some ⟨R, 0, none⟩), .pointer (some p)] w (ReadPost w R (.slice oa n cap) (wholeO n o) 0) := by
  have HH := Lib.hid H
  clear H
  cases o with
  | none =>
    go_enter Tryz.func111, Tryz.ntmps111
    go_wp2_with fail
    refine HH.out.mono ?_
    rintro e w1 ⟨⟨q, rfl⟩, hg⟩
    exact ⟨rfl, ⟨_, rfl⟩, hg⟩
  | some x =>
    obtain ⟨vs, k⟩ := x
    have hk : k ≤ n := hn _ rfl
    clear hn
    by_cases hkn : k = n
    · subst hkn
      have HW := Lib.hid (show wholeO k (some (vs, k)) = some (vs, k) by simp [wholeO])
      go_enter Tryz.func111, Tryz.ntmps111
      go_wp2_with fail
      refine HH.out.mono ?_
      rintro e w1 ⟨b, rfl, hbl, hv, hrd, hg⟩
      rw [Nat.zero_add] at hrd
      have HE := Lib.hid (cend_yes R oa k cap w1 hrd)
      have HV := Lib.hid hv
      have HRD := Lib.hid hrd
      have HG := Lib.hid hg
      clear hv hrd hg
      go_wp2_with fail
      refine HE.out.mono ?_
      rintro e w2 ⟨rfl, q, rfl⟩
      go_wp2_with fail
      go_ret
      rw [HW.out]
      exact ⟨b, rfl, hbl, HV.out.keep (below_drewN (Below.refl _ w1) q) (Nat.le_refl _), by rw [Nat.zero_add]; exact HRD.out.keep (below_drewN (Below.refl _ w1) q), HG.out.trans (grown_drewN w1 q _)⟩
    · have HW := Lib.hid (show wholeO n (some (vs, k)) = none by simp [wholeO, hkn])
      go_enter Tryz.func111, Tryz.ntmps111
      go_wp2_with fail
      refine HH.out.mono ?_
      rintro e w1 ⟨b, rfl, hbl, hv, hrd, hg⟩
      rw [Nat.zero_add] at hrd
      have HE := Lib.hid (cend_no R oa n cap k w1 hrd (by omega))
      have HG := Lib.hid hg
      clear hv hrd hg
      go_wp2_with fail
      refine HE.out.mono ?_
      rintro e w2 ⟨⟨q, rfl⟩, hg2⟩
      rw [HW.out]
      exact ⟨rfl, ⟨_, rfl⟩, HG.out.trans hg2⟩
end Go.Proofs.YtkiolfffophjcaaGreatDoor
