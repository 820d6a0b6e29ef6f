/-
  reading.Of, At, end; refusal.Attempt: a thing that is told, or the number of what was given up at; reading.Whole of a row.
-/
import Derived.Test.YtocmjlnhcloccaaGreatDoorCLRead
import Derived.Defers
import Derived.Recover
namespace Go.Proofs.YtocmjlnhcloccaaGreatDoor
open Go.RowKit

set_option maxHeartbeats 1000000 in
theorem Of8_any (oa : Option Addr) (n cap : Nat) (w : World) : Calls Tryz.prog 44 #[.slice oa n cap] w fun e w' => e = .returned (.pointer (some ⟨w.heap.size, 0, none⟩)) ∧ w.alloc (.cells #[.slice oa n cap, .int .i64 0] 137) = w' := by
  go_enter Tryz.func44, Tryz.ntmps44
  go_wp2_with fail
  go_ret
  exact ⟨rfl, rfl⟩
set_option maxHeartbeats 1000000 in
theorem At8_any (R i : Nat) (v : Value) (w : World) (hr : Rd w R v i) : Calls Tryz.prog 45 #[.pointer (some ⟨R, 0, none⟩)] w fun e w' => e = .returned (.int .i64 i) ∧ w = w' := by
  obtain ⟨h0, h1, h2⟩ := hr
  go_enter Tryz.func45, Tryz.ntmps45
  go_wp2_with fail
  go_ret
  exact ⟨rfl, rfl⟩
set_option maxRecDepth 100000 in
set_option maxHeartbeats 1000000 in
theorem cend_yes (R : Nat) (oa : Option Addr) (n cap : Nat) (w : World) (hr : Rd w R (.slice oa n cap) n) :
    Calls Tryz.prog 65 #[.pointer (some ⟨R, 0, none⟩)] w fun e w' => e = .returned (.tuple #[]) ∧ ∃ q, w.drewN q = w' := by
  obtain ⟨h0, h1, h2⟩ := hr
  go_enter Tryz.func65, Tryz.ntmps65
  go_wp2_with fail
  go_quiet (fail)
  go_wp2_with fail
  go_end0
  exact ⟨rfl, _, rfl⟩
set_option maxRecDepth 100000 in
set_option maxHeartbeats 1000000 in
theorem cend_no (R : Nat) (oa : Option Addr) (n cap i : Nat) (w : World) (hr : Rd w R (.slice oa n cap) i) (hi : i < n) :
    Calls Tryz.prog 65 #[.pointer (some ⟨R, 0, none⟩)] w (Gone w R) := by
  obtain ⟨h0, h1, h2⟩ := hr
  go_enter Tryz.func65, Tryz.ntmps65
  go_wp2_with fail
  go_quiet (fail)
  go_wp2_with fail
  refine (GiveUp_any _ 120 _ (by decide)).mono ?_
  rintro e w3 ⟨⟨y, rfl, hth⟩, hbG⟩
  exact ⟨rfl, ⟨_, rfl, hth⟩, (grown_drewN w _ _).trans (grown_below hbG _)⟩

theorem asRef (v : Value) (w : World) : (Instr.typeAssert (.iface 138 v) 20 138 true).run Tryz.prog w = .ok (.tuple #[v, .bool true]) w := by kernel_rfl
theorem asRefNil (w : World) : (Instr.typeAssert .nilIface 20 138 true).run Tryz.prog w = .ok (.tuple #[.pointer none, .bool false]) w := by kernel_rfl
theorem cellE {w w1 : World} {row : Option Nat} (hR : row ≠ some w.heap.size) (hg : (w.alloc (.cells #[.int .i64 0] 32)).grownBy w1 row) : w1.cell? ⟨w.heap.size, 0, none⟩ = some (.int .i64 0) ∧ w1.frozen? ⟨w.heap.size, 0, none⟩ = false := by
  refine ⟨?_, ?_⟩
  · rw [hg.cell_far _ (by simp) (fun e => hR e.symm)]; simp [go_sem]
  · rw [hg.frozen_far _ (by simp) (fun e => hR e.symm)]; simp [go_sem]
theorem vals_set {w : World} {b B o : Nat} {x : Value} {vs : List Vl} (h : ValsIn w (some ⟨b, 0, none⟩) vs) (hne : b ≠ B) : ValsIn (w.setCell ⟨B, o, none⟩ x) (some ⟨b, 0, none⟩) vs := fun j hj => by
  obtain ⟨a, e, h0, h1, h2, h3⟩ := h j hj
  cases e
  have hb : ((⟨b, 0, none⟩ : Addr).add (j * 4)).block = b := Addr.add_block _ _
  refine ⟨_, rfl, ?_, ?_, ?_, ?_⟩
  · rw [World.cell?_setCell_far _ _ _ _ (by rw [hb]; exact fun e => hne e.symm)]; exact h0
  · rw [World.cell?_setCell_far _ _ _ _ (by simp only [hb]; exact fun e => hne e.symm)]; exact h1
  · rw [World.cell?_setCell_far _ _ _ _ (by simp only [hb]; exact fun e => hne e.symm)]; exact h2
  · rw [World.cell?_setCell_far _ _ _ _ (by simp only [hb]; exact fun e => hne e.symm)]; exact h3
theorem hasET_grown {w w' : World} {row : Option Nat} (h : HasET w) (hg : w.grownBy w' row) (hr : row ≠ some 0) : HasET w' := by
  unfold HasET at *
  rw [hg.cell_far _ (HasET.lt h) (fun e => hr e.symm)]
  exact h
/-- what is told of a thing that was told: what lies then, but for the number's box -/
def AttYes (w : World) (row : Option Nat) (Q : Value → World → Prop) (e : Ending) (w' : World) : Prop := ∃ x w1, e = .returned (.tuple #[x, .int .i64 0]) ∧ Q x w1 ∧ w.grownBy w1 row ∧ w1.setCell ⟨w.heap.size, 0, none⟩ (.int .i64 0) = w'
/-- what is told where it gave up -/
def AttNo (z : Value) (w : World) (row : Option Nat) (e : Ending) (w' : World) : Prop := ∃ n, n ≠ (0 : Int) ∧ e = .returned (.tuple #[z, .int .i64 n]) ∧ w.grownBy w' row
def C0 : Obj := .cells #[.int .i64 0] 32
set_option maxRecDepth 100000 in
set_option maxHeartbeats 1000000 in
theorem attV_panicking (p : Addr) (y : Int) (x : Value) (w : World) (hg : HasET w) (hx : Thrown w x) (hc : w.cell? p = some (.int .i64 y)) (hz : w.frozen? p = false) :
    CallsD Tryz.prog 72 #[.pointer (some p)] (.panicking [{ v := x, recovered := false }]) w fun e u' w' =>
      e = .returned (.tuple #[]) ∧ u' = .panicking [{ v := x, recovered := true }] ∧ ∃ n w1, n ≠ (0 : Int) ∧ Below w.heap.size w w1 ∧ w1.setCell p (.int .i64 n) = w' := by
  obtain ⟨b, n, rfl, hn0, hb⟩ := hx
  have HE := Lib.hid (errno_err b n w hg hb)
  have hpl : p.block < w.heap.size := World.block_lt_of_cell? _ _ hc
  refine callsD_of_wpS Tryz.func72 rfl fun c₀ cs hu => ?_
  apply wpS_seq
  apply wpS_region
  simp [wpOpsS, go_sem, recoverD, hu, Tryz.ntmps72, Exit.thenS]
  refine wpS_of_wp ?_
  rw [show (#[Value.pointer (some p)] ++ ((Array.replicate 18 undef).setIfInBounds 3 (Value.iface 138 (Value.pointer (some ⟨b, 0, none⟩)))).setIfInBounds 0 (Value.iface 138 (Value.pointer (some ⟨b, 0, none⟩))) : Array Value) = #[.pointer (some p), .iface 138 (.pointer (some ⟨b, 0, none⟩)), undef, undef, .iface 138 (.pointer (some ⟨b, 0, none⟩)), undef, undef, undef, undef, undef, undef, undef, undef, undef, undef, undef, undef, undef, undef] from rfl]
  have HU := Lib.hid hu
  clear hu
  have hTA := asRef (.pointer (some ⟨b, 0, none⟩))
  go_wp2_with (go_at_call 58; refine HE.out.mono ?_; rintro e w1 ⟨rfl, hb1⟩; have hc1 : w1.cell? p = some (.int .i64 y) := (hb1.cell hpl).trans hc; have hz1 : w1.frozen? p = false := (hb1.frozen hpl).trans hz)
  have hu := HU.out
  cases c₀
  simp_all [bodyPostS, results, Tryz.results72, go_sem]
  exact ⟨n, hn0, w1, hb1, rfl⟩
set_option maxRecDepth 100000 in
set_option maxHeartbeats 1000000 in
theorem attV_idle (p : Addr) (w : World) :
    CallsD Tryz.prog 72 #[.pointer (some p)] .returning w fun e u' w' => e = .returned (.tuple #[]) ∧ u' = .returning ∧ w = w' := by
  refine callsD_of_wpS Tryz.func72 rfl fun c₀ cs hu => ?_
  apply wpS_seq
  apply wpS_region
  simp [wpOpsS, go_sem, recoverD, hu, Tryz.ntmps72, Exit.thenS]
  refine wpS_of_wp ?_
  rw [show (#[Value.pointer (some p)] ++ ((Array.replicate 18 undef).setIfInBounds 3 Value.nilIface).setIfInBounds 0 Value.nilIface : Array Value) = #[.pointer (some p), .nilIface, undef, undef, .nilIface, undef, undef, undef, undef, undef, undef, undef, undef, undef, undef, undef, undef, undef, undef] from rfl]
  have HU := Lib.hid hu
  clear hu
  have hTA := asRefNil
  go_wp2
  have hu := HU.out
  cases c₀
  simp_all [bodyPostS, results, Tryz.results72, go_sem]
set_option maxRecDepth 100000 in
set_option maxHeartbeats 1000000 in
theorem attV_yes (f : Nat) (a b : Value) (row : Option Nat) (Q : Value → World → Prop) (w : World) (hrow : row ≠ some w.heap.size) (hf : ∀ (a : Array Value) W, (callFunc f a).run Tryz.prog W = .ok (.enter f a) W)
    (H : Calls Tryz.prog f #[a, b] (w.alloc C0) fun e w' => ∃ x, e = .returned x ∧ (w.alloc C0).grownBy w' row ∧ Q x w') :
    Calls Tryz.prog 46 #[.func (.func f) #[] #[a, b]] w (AttYes w row Q) := by
  have hmf : ∀ (fn : Fn) (first cap : Array Value) (w : World), (Instr.makeFunc fn first cap).run Tryz.prog w = .ok (.func fn first cap) w := fun _ _ _ _ => rfl
  have HH := Lib.hid H
  clear H
  go_enter_defers Tryz.func46, Tryz.ntmps46
  go_wp2_with fail
  refine HH.out.mono ?_
  rintro e w1 ⟨x, rfl, hg, hq⟩
  obtain ⟨c0, f0⟩ := cellE hrow hg
  have HQ := Lib.hid hq
  have HG := Lib.hid ((World.grownBy_alloc w _ _).trans hg)
  clear hq hg
  go_wp2_with fail
  refine leaves_cons (f := 72) (args := #[.pointer (some ⟨w.heap.size, 0, none⟩)]) (by simp) (by simp [go_sem]) ?_
  refine (attV_idle ⟨w.heap.size, 0, none⟩ _).mono ?_
  rintro e u' w'' ⟨rfl, rfl, rfl⟩
  simp [Leaves, settle, results, Tryz.results46, go_sem, c0]
  exact ⟨x, w1, rfl, HQ.out, HG.out, rfl⟩
set_option maxRecDepth 100000 in
set_option maxHeartbeats 1000000 in
theorem attV_no (f : Nat) (a b : Value) (row : Option Nat) (w : World) (hrow : row ≠ some w.heap.size) (hrow2 : row ≠ some 0) (he : HasET w) (hf : ∀ (a : Array Value) W, (callFunc f a).run Tryz.prog W = .ok (.enter f a) W)
    (H : Calls Tryz.prog f #[a, b] (w.alloc C0) fun e w' => (∃ x, e = .panicked [{ v := x, recovered := false }] ∧ Thrown w' x) ∧ (w.alloc C0).grownBy w' row) :
    Calls Tryz.prog 46 #[.func (.func f) #[] #[a, b]] w (AttNo (.slice none 0 0) w row) := by
  have hmf : ∀ (fn : Fn) (first cap : Array Value) (w : World), (Instr.makeFunc fn first cap).run Tryz.prog w = .ok (.func fn first cap) w := fun _ _ _ _ => rfl
  have HH := Lib.hid H
  clear H
  go_enter_defers Tryz.func46, Tryz.ntmps46
  go_wp2_with fail
  refine HH.out.mono ?_
  rintro e w1 ⟨⟨x, rfl, hth⟩, hg⟩
  obtain ⟨c0, f0⟩ := cellE hrow hg
  have he1 : HasET w1 := hasET_grown he ((World.grownBy_alloc w _ _).trans hg) hrow2
  have HG := Lib.hid ((World.grownBy_alloc w _ _).trans hg)
  have hsz : w.heap.size < w1.heap.size := World.block_lt_of_cell? _ _ c0
  clear hg
  refine leaves_cons (f := 72) (args := #[.pointer (some ⟨w.heap.size, 0, none⟩)]) (by simp) (by simp [go_sem]) ?_
  refine (attV_panicking ⟨w.heap.size, 0, none⟩ 0 x _ he1 hth c0 f0).mono ?_
  rintro e u' w'' ⟨rfl, rfl, n, w2, hn0, hb2, rfl⟩
  have c2 : w2.cell? ⟨w.heap.size, 0, none⟩ = some (.int .i64 0) := (hb2.cell hsz).trans c0
  simp [Leaves, settle, results, Tryz.results46, go_sem, c2]
  exact ⟨n, hn0, rfl, grown_set (HG.out.trans (grown_below hb2 _)) (Nat.le_refl _)⟩

/-- all of them are one's -/
def wholeO (n : Nat) : Option (List Vl × Nat) → Option (List Vl × Nat)
  | some (vs, k) => if k = n then some (vs, k) else none
  | none => none
/-- what the reader of a whole row tells -/
def WhP (o : Option (List Vl × Nat)) (w : World) (e : Ending) (w' : World) : Prop :=
  match o with
  | some (vs, _) => ∃ b, e = .returned (.slice (some ⟨b, 0, none⟩) vs.length vs.length) ∧ w.heap.size ≤ b ∧ ValsIn w' (some ⟨b, 0, none⟩) vs ∧ Below w.heap.size w w'
  | none => Gave w e w'
set_option maxRecDepth 100000 in
set_option maxHeartbeats 1000000 in
theorem wholeV1_any (oa : Option Addr) (n cap : Nat) (L : Value) (pb pr : Addr) (o : Option (List Vl × Nat)) (w : World) (hn : ∀ x, o = some x → x.2 ≤ n) (hb : w.cell? pb = some (.slice oa n cap)) (hp : w.cell? pr = some (.func (.func 35) #[L] #[]))
    (H : Calls Tryz.prog 35 #[L, .pointer (some ⟨w.heap.size, 0, none⟩)] (w.alloc (.cells #[.slice oa n cap, .int .i64 0] 137)) (ReadPost (w.alloc (.cells #[.slice oa n cap, .int .i64 0] 137)) w.heap.size (.slice oa n cap) o 0)) :
    Calls Tryz.prog 64 #[.pointer (some pb), .pointer (some pr)] w (WhP (wholeO n o) w) := by
  have HH := Lib.hid H
  have hlp := World.block_lt_of_cell? _ _ hp
  have HB0 : Hid (∀ w1, (w.alloc (.cells #[.slice oa n cap, .int .i64 0] 137)).grownBy w1 (some w.heap.size) → Below w.heap.size w w1) := Lib.hid (fun w1 hg => ((Below.refl _ w).alloc (Nat.le_refl _) _).trans (grown_under hg (by simp)))
  have HOF := Lib.hid (Of8_any oa n cap)
  clear H
  cases o with
  | none =>
    go_enter Tryz.func64, Tryz.ntmps64
    go_wp2_with (go_at_call 44; refine (HOF.out _).mono ?_; rintro e w' ⟨rfl, rfl⟩)
    refine HH.out.mono ?_
    rintro e w1 ⟨⟨q, rfl, hth⟩, hg⟩
    exact ⟨rfl, ⟨_, rfl, hth⟩, HB0.out _ hg⟩
  | some x =>
    obtain ⟨vs, k⟩ := x
    have hk : k ≤ n := hn _ rfl
    clear hn
    by_cases hkn : k = n
    · subst hkn
      have HW := Lib.hid (show wholeO k (some (vs, k)) = some (vs, k) by simp [wholeO])
      go_enter Tryz.func64, Tryz.ntmps64
      go_wp2_with (go_at_call 44; refine (HOF.out _).mono ?_; rintro e w' ⟨rfl, rfl⟩)
      refine HH.out.mono ?_
      rintro e w1 ⟨b, rfl, hbl, hv, hrd, hg⟩
      rw [Nat.zero_add] at hrd
      have HE := Lib.hid (cend_yes w.heap.size oa k cap w1 hrd)
      have HV := Lib.hid hv
      have HG := Lib.hid (HB0.out _ hg)
      have hbl2 : w.heap.size ≤ b := by simp at hbl; omega
      clear hv hrd hg hbl
      go_wp2_with fail
      refine HE.out.mono ?_
      rintro e w2 ⟨rfl, q, rfl⟩
      go_wp2_with fail
      go_ret
      rw [HW.out]
      exact ⟨b, rfl, hbl2, HV.out.keep (below_drewN (Below.refl _ w1) q) (Nat.le_refl _), below_drewN HG.out q⟩
    · have HW := Lib.hid (show wholeO n (some (vs, k)) = none by simp [wholeO, hkn])
      go_enter Tryz.func64, Tryz.ntmps64
      go_wp2_with (go_at_call 44; refine (HOF.out _).mono ?_; rintro e w' ⟨rfl, rfl⟩)
      refine HH.out.mono ?_
      rintro e w1 ⟨b, rfl, hbl, hv, hrd, hg⟩
      rw [Nat.zero_add] at hrd
      have HE := Lib.hid (cend_no w.heap.size oa n cap k w1 hrd (by omega))
      have HG := Lib.hid hg
      clear hv hrd hg
      go_wp2_with fail
      refine HE.out.mono ?_
      rintro e w2 ⟨⟨q, rfl, hth⟩, hg2⟩
      rw [HW.out]
      exact ⟨rfl, ⟨_, rfl, hth⟩, HB0.out _ (HG.out.trans hg2)⟩
end Go.Proofs.YtocmjlnhcloccaaGreatDoor
