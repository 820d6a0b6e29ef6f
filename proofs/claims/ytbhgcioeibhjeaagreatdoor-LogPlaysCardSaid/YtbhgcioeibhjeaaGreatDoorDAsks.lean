/-
  parts that belong together.
-/
import Derived.Test.YtbhgcioeibhjeaaGreatDoorKErr
import Derived.Test.YtbhgcioeibhjeaaGreatDoorDSts
import Derived.LoopN
namespace Go.Proofs.YtbhgcioeibhjeaaGreatDoor
open Go.RowKit Go.Extern.Stop Go.Stop Go.Extern

theorem noIsD (v : Value) (w : World) : (Instr.typeAssert (.iface 144 v) 86 183 true).run Tryz.prog w = .ok (.tuple #[.nilIface, .bool false]) w :=
  run_typeAssert_lacksB Tryz.underlying183 (by kernel_rfl) (by kernel_rfl) v 86 w
theorem rl_cmpD (w : World) : (ReflectliteType.method (fun t => do Rtype.noPackHeld "Comparable" t; (fun a => Value.bool a.comparable) <$> typeInfo t) #[.agg #[.pointer (some ⟨1, 26, none⟩)]]).run Tryz.prog w = .ok (.bool true) w := by kernel_rfl
theorem eq_one (w : World) : (binOp .eql 86 (.iface 26 (.int .i64 1)) (.iface 26 (.int .i64 1))).run Tryz.prog w = .ok (.bool true) w := by kernel_rfl
theorem eq_misD (v : Value) (w : World) : (binOp .eql 86 (.iface 144 v) (.iface 26 (.int .i64 1))).run Tryz.prog w = .ok (.bool false) w := by kernel_rfl

set_option maxHeartbeats 1000000 in
theorem isD_none (w : World) : Calls Tryz.prog 77 #[.nilIface, .iface 26 (.int .i64 1)] w fun e w' => e = .returned (.bool false) ∧ w = w' := by
  have hn : ∀ w, (binOp .eql 86 .nilIface (.iface 26 (.int .i64 1))).run Tryz.prog w = .ok (.bool false) w := fun w => by kernel_rfl
  go_enter Tryz.func77, Tryz.ntmps77
  go_wp2
  go_ret
  exact ⟨rfl, rfl⟩

set_option maxRecDepth 100000 in
set_option maxHeartbeats 4000000 in
theorem isD_one (b : Nat) (w : World) (h1 : w.cell? ⟨b, 1, none⟩ = some (.int .i64 1)) :
    Calls Tryz.prog 77 #[.iface 144 (.pointer (some ⟨b, 0, none⟩)), .iface 26 (.int .i64 1)] w fun e w' => e = .returned (.bool true) ∧ w = w' := by
  have hTO := @run_callFunc_extern Tryz.prog 96 _ ReflectliteType.typeOf Tryz.func96 (by kernel_rfl) (by kernel_rfl) (by kernel_rfl) (by kernel_rfl)
  have hCm := @run_callFunc_extern Tryz.prog 136 _ (ReflectliteType.method fun t => do Rtype.noPackHeld "Comparable" t; pure (.bool (← typeInfo t).comparable)) Tryz.func136 (by kernel_rfl) (by kernel_rfl) (by kernel_rfl) (by kernel_rfl)
  have r1 := rl_typeOfE
  have r2 := rl_cmpD
  have r3 := noIsD
  have r4 := hasUnwrap
  have r5 := eq_one
  have r6 := eq_misD
  go_enter Tryz.func77, Tryz.ntmps77
  go_wp2
  refine wp_loop_rounds 2 ?_
  rw [rounds_succ]
  go_wp2
  rw [rounds_succ]
  go_wp2
  go_ret
  exact ⟨rfl, rfl⟩

/-- what is told of a number of an error: nil of 0 -/
def Told (n : Int) (w : World) (e : Ending) (w' : World) : Prop := (n = 0 ∧ e = .returned .nilIface ∧ Below w.heap.size w w') ∨ (n ≠ 0 ∧ IsErr n w e w')
/-- a disk that is not there, one that New did not make, too -/
def NoDisk (w : World) (v : Value) : Prop := v = .pointer none ∨ ∃ p, v = .pointer (some ⟨p, 0, none⟩) ∧ w.cell? ⟨p, 0, none⟩ = some (.map none)
/-- one that is there: where its cells lie -/
def IsDisk (w : World) (p m : Nat) : Prop := w.cell? ⟨p, 0, none⟩ = some (.map (some m))
/-- numbers, one behind the other -/
def NumsIn (w : World) (oa : Option Addr) (l : List Int) : Prop := ∀ (j : Nat) (h : j < l.length), ∃ a, oa = some a ∧ w.cell? (a.add j) = some (.int .i64 l[j])

theorem eq_map (m : Nat) (W : World) : (binOp .eql 69 (.map (some m)) (.map none)).run Tryz.prog W = .ok (.bool false) W := by kernel_rfl
theorem eq_mapN (W : World) : (binOp .eql 69 (.map none) (.map none)).run Tryz.prog W = .ok (.bool true) W := by kernel_rfl
theorem isErr_of (w : World) (s : ByteArray) (n : Int) : IsErr n w (.returned (.iface 144 (.pointer (some ⟨w.heap.size, 0, none⟩)))) (w.alloc (.cells #[.string s, .int .i64 n] 146)) :=
  ⟨_, rfl, Nat.le_refl _, by simp [go_sem], by go_grown⟩

set_option maxRecDepth 100000 in
set_option maxHeartbeats 1000000 in
theorem ask_no (v : Value) (oa : Option Addr) (n c : Nat) (w : World) (h : NoDisk w v) : Calls Tryz.prog 58 #[v, .slice oa n c] w (IsErr 1 w) := by
  have em := eq_mapN
  rcases h with rfl | ⟨p, rfl, h⟩
  all_goals
    go_enter Tryz.func58, Tryz.ntmps58
    go_wp2_with (go_at_call 67; refine (Of_any _ _ _).mono ?_; rintro e w' ⟨rfl, rfl⟩)
    go_ret
    exact isErr_of _ _ _
set_option maxRecDepth 100000 in
set_option maxHeartbeats 1000000 in
theorem ask_ok (p m : Nat) (w : World) (h : IsDisk w p m) : Calls Tryz.prog 58 #[.pointer (some ⟨p, 0, none⟩), .slice none 0 0] w fun e w' => e = .returned .nilIface ∧ w = w' := by
  unfold IsDisk at h
  have em := eq_map
  go_enter Tryz.func58, Tryz.ntmps58
  go_wp2_with fail
  refine wp_loop_rounds 1 ?_
  rw [rounds_succ]
  go_wp2_with fail
  go_ret
  exact ⟨rfl, rfl⟩
end Go.Proofs.YtbhgcioeibhjeaaGreatDoor
namespace Go.Proofs.YtbhgcioeibhjeaaGreatDoor
open Go.RowKit

theorem Told.ok {w : World} {e : Ending} {w' : World} (h : Told 0 w e w') : e = .returned .nilIface ∧ Below w.heap.size w w' := by
  rcases h with ⟨_, h⟩ | ⟨h, _⟩
  · exact h
  · exact absurd rfl h
theorem Told.err {n : Int} {w : World} {e : Ending} {w' : World} (h : Told n w e w') (hn : n ≠ 0) : IsErr n w e w' := by
  rcases h with ⟨h, _⟩ | ⟨_, h⟩
  · exact absurd h hn
  · exact h
theorem isErr_below {n : Int} {w w1 w' : World} {e : Ending} (hb : Below w.heap.size w w1) (h : IsErr n w1 e w') : IsErr n w e w' := by
  obtain ⟨b, e1, h1, h2, h3⟩ := h
  exact ⟨b, e1, Nat.le_trans hb.size h1, h2, hb.trans (h3.mono hb.size)⟩
set_option maxRecDepth 100000 in
set_option maxHeartbeats 1000000 in
theorem ask_nums (p m : Nat) (oa : Option Addr) (cap : Nat) (l : List Int) (w : World) (h : IsDisk w p m) (hn : NumsIn w oa l) (hl : l.length ≤ 10) :
    Calls Tryz.prog 58 #[.pointer (some ⟨p, 0, none⟩), .slice oa l.length cap] w (Told (if l.all (fun x => decide (0 ≤ x)) then 0 else 2) w) := by
  unfold IsDisk at h
  have em := eq_map
  obtain ⟨n, hnn⟩ : ∃ n : Int, (if l.all (fun x => decide (0 ≤ x)) then 0 else 2) = n := ⟨_, rfl⟩
  have HNN := Lib.hid hnn
  rw [hnn]
  clear hnn
  go_enter Tryz.func58, Tryz.ntmps58
  go_wp2_with fail
  go_loop [19] (fun i => ∃ k : Nat, k ≤ l.length ∧ i = .int .i64 k ∧ Hid ((l.take k).all (fun x => decide (0 ≤ x)) = true)) (fun i => l.length - (intOf i).toNat)
  case atStart => exact ⟨0, Nat.zero_le _, rfl, Lib.hid (by simp)⟩
  case round =>
    obtain ⟨k, hk, rfl, HK⟩ := hrel
    by_cases hlt : k < l.length
    · obtain ⟨a, rfl, hat⟩ := hn k hlt
      obtain ⟨y, hy⟩ : ∃ y, l[k] = y := ⟨_, rfl⟩
      rw [hy] at hat
      clear hn
      by_cases hneg : y < 0
      · have HF := Lib.hid (show l.all (fun x => decide (0 ≤ x)) = false by
          rw [List.all_eq_false]
          exact ⟨y, by rw [← hy]; exact List.getElem_mem hlt, by simp; omega⟩)
        clear HK
        go_wp2_with (go_at_call 67; refine (Of_any _ _ _).mono ?_; rintro e w' ⟨rfl, rfl⟩)
        go_ret
        have hnn := HNN.out
        rw [HF.out] at hnn
        simp at hnn
        subst hnn
        exact .inr ⟨by simp, isErr_of _ _ _⟩
      · have HN := Lib.hid (show (l.take (k + 1)).all (fun x => decide (0 ≤ x)) = true by
          rw [List.take_succ_eq_append_getElem hlt, List.all_append, HK.out, hy]
          simp; omega)
        clear HK
        go_wp2_with fail
        go_roundw
        case rel => exact ⟨k + 1, by omega, by go_num, HN⟩
        case measure => simp [intOf]; omega
    · have hkl : k = l.length := by omega
      subst hkl
      have HT := Lib.hid (show l.all (fun x => decide (0 ≤ x)) = true by rw [← HK.out, List.take_length])
      clear HK hn
      go_wp2_with fail
      go_ret
      have hnn := HNN.out
      rw [HT.out] at hnn
      simp at hnn
      subst hnn
      exact .inl ⟨rfl, rfl, Below.refl _ _⟩
set_option maxRecDepth 100000 in
set_option maxHeartbeats 1000000 in
theorem isNone_no (v : Value) (w : World) (h : NoDisk w v) : Calls Tryz.prog 47 #[v] w fun e w' => e = .returned (.bool true) ∧ Below w.heap.size w w' := by
  have HA := Lib.hid (ask_no v none 0 0 w h)
  clear h
  go_enter Tryz.func47, Tryz.ntmps47
  go_wp2_with (first | (go_at_call 58; refine HA.out.mono ?_; rintro e w1 ⟨b, rfl, hb, hc, hbw⟩) | (go_at_call 77; refine (isD_one b w1 hc).mono ?_; rintro e w2 ⟨rfl, rfl⟩))
  go_ret
  exact ⟨rfl, hbw⟩
set_option maxRecDepth 100000 in
set_option maxHeartbeats 1000000 in
theorem isNone_ok (p m : Nat) (w : World) (h : IsDisk w p m) : Calls Tryz.prog 47 #[.pointer (some ⟨p, 0, none⟩)] w fun e w' => e = .returned (.bool false) ∧ w = w' := by
  go_enter Tryz.func47, Tryz.ntmps47
  go_wp2_with (first | (go_at_call 58; refine (ask_ok p m _ h).mono ?_; rintro e w1 ⟨rfl, rfl⟩) | (go_at_call 77; refine (isD_none _).mono ?_; rintro e w2 ⟨rfl, rfl⟩))
  go_ret
  exact ⟨rfl, rfl⟩
set_option maxRecDepth 100000 in
set_option maxHeartbeats 1000000 in
theorem askFile_no (v : Value) (f : Int) (oa : Option Addr) (n c : Nat) (w : World) (h : NoDisk w v) : Calls Tryz.prog 60 #[v, .int .i64 f, .slice oa n c] w (IsErr 1 w) := by
  have HA := Lib.hid (ask_no v oa n c w h)
  have hq : ∀ x W, (binOp .eql 86 (.iface 144 x) .nilIface).run Tryz.prog W = .ok (.bool false) W := fun _ _ => rfl
  clear h
  go_enter Tryz.func60, Tryz.ntmps60
  go_wp2_with (first | (go_at_call 58; refine HA.out.mono ?_; rintro e w1 ⟨b, rfl, hb, hc, hbw⟩))
  go_ret
  exact ⟨b, rfl, hb, hc, hbw⟩
/-- what askFile tells of a disk -/
def fileE (l : List Int) (f : Int) : Int := if l.all (fun x => decide (0 ≤ x)) then (if f < 0 ∨ 64 ≤ f then 4 else 0) else 2
set_option maxRecDepth 100000 in
set_option maxHeartbeats 1000000 in
theorem askFile_any (p m : Nat) (f : Int) (oa : Option Addr) (cap : Nat) (l : List Int) (w : World) (h : IsDisk w p m) (hn : NumsIn w oa l) (hl : l.length ≤ 10) :
    Calls Tryz.prog 60 #[.pointer (some ⟨p, 0, none⟩), .int .i64 f, .slice oa l.length cap] w (Told (fileE l f) w) := by
  have HA := Lib.hid (ask_nums p m oa cap l w h hn hl)
  have hq : ∀ x W, (binOp .eql 86 (.iface 144 x) .nilIface).run Tryz.prog W = .ok (.bool false) W := fun _ _ => rfl
  have hq0 : ∀ W, (binOp .eql 86 .nilIface .nilIface).run Tryz.prog W = .ok (.bool true) W := fun _ => rfl
  clear h hn hl
  unfold fileE
  cases hb : l.all (fun x => decide (0 ≤ x)) with
  | false =>
    rw [hb] at HA
    have HA := Lib.hid (HA.out.mono (fun e w' h => Told.err h (by simp)))
    go_enter Tryz.func60, Tryz.ntmps60
    go_wp2_with (first | (go_at_call 58; refine HA.out.mono ?_; rintro e w1 ⟨b, rfl, h1, hc, hbw⟩))
    go_ret
    exact .inr ⟨by simp, b, rfl, h1, hc, hbw⟩
  | true =>
    rw [hb] at HA
    have HA := Lib.hid (HA.out.mono (fun e w' h => Told.ok h))
    by_cases hf : f < 0
    · have e0 : (if f < 0 ∨ 64 ≤ f then (4 : Int) else 0) = 4 := if_pos (.inl hf)
      rw [if_pos rfl, e0]
      go_enter Tryz.func60, Tryz.ntmps60
      go_wp2_with (first | (go_at_call 58; refine HA.out.mono ?_; rintro e w1 ⟨rfl, hbw⟩) | (go_at_call 67; refine (Of_any _ _ _).mono ?_; rintro e w' ⟨rfl, rfl⟩))
      go_ret
      exact .inr ⟨by simp, isErr_below hbw (isErr_of _ _ _)⟩
    · by_cases hf2 : 64 ≤ f
      · have e0 : (if f < 0 ∨ 64 ≤ f then (4 : Int) else 0) = 4 := if_pos (.inr hf2)
        rw [if_pos rfl, e0]
        go_enter Tryz.func60, Tryz.ntmps60
        go_wp2_with (first | (go_at_call 58; refine HA.out.mono ?_; rintro e w1 ⟨rfl, hbw⟩) | (go_at_call 67; refine (Of_any _ _ _).mono ?_; rintro e w' ⟨rfl, rfl⟩))
        go_ret
        exact .inr ⟨by simp, isErr_below hbw (isErr_of _ _ _)⟩
      · have e0 : (if f < 0 ∨ 64 ≤ f then (4 : Int) else 0) = 0 := if_neg (by omega)
        rw [if_pos rfl, e0]
        go_enter Tryz.func60, Tryz.ntmps60
        go_wp2_with (first | (go_at_call 58; refine HA.out.mono ?_; rintro e w1 ⟨rfl, hbw⟩))
        go_ret
        exact .inl ⟨rfl, rfl, hbw⟩
end Go.Proofs.YtbhgcioeibhjeaaGreatDoor
namespace Go.Proofs.YtbhgcioeibhjeaaGreatDoor
open Go.RowKit

/-- a step that touches neither cells nor the world outside -/
def QuietSem {α : Type} : Sem α → Prop
  | .pure _ => True
  | .getObj _ k => ∀ o, QuietSem (k o)
  | .setObj _ _ k => QuietSem k
  | .choose _ k => ∀ n, QuietSem (k n)
  | .halt _ => True
  | _ => False
theorem QuietSem.bind {α β : Type} : ∀ {m : Sem α} {f : α → Sem β}, QuietSem m → (∀ a, QuietSem (f a)) → QuietSem (m.bind f)
  | .pure a, _, _, hf => hf a
  | .getObj _ _, _, h, hf => fun o => QuietSem.bind (h o) hf
  | .setObj _ _ k, _, h, hf => QuietSem.bind (m := k) h hf
  | .choose _ _, _, h, hf => fun n => QuietSem.bind (h n) hf
  | .halt _, _, _, _ => trivial
theorem QuietSem.tape {α : Type} {P : Program} (m : Sem α) : ∀ (w : World) (r : α) (w' : World), QuietSem m → m.run P w = .ok r w' → w'.tape = w.tape := by
  induction m with
  | pure _ =>
    intro w r w' _ hr
    simp only [Sem.run] at hr
    cases hr
    rfl
  | getObj _ _ ih =>
    intro w r w' h hr
    simp only [Sem.run] at hr
    split at hr
    · cases hr
    · exact ih _ _ _ _ (h _) hr
    · cases hr
  | setObj _ _ _ ih =>
    intro w r w' h hr
    simp only [Sem.run] at hr
    split at hr
    · cases hr
    · have h1 := ih _ _ _ h hr
      exact h1
    · cases hr
  | choose _ _ ih =>
    intro w r w' h hr
    simp only [Sem.run] at hr
    split at hr
    · exact ih _ _ _ _ (h _) hr
    · have h1 := ih _ _ _ _ (h _) hr
      exact h1
  | halt _ =>
    intro w r w' _ hr
    simp only [Sem.run] at hr
    cases hr
  | _ => exact fun _ _ _ h => h.elim
theorem quiet_getObj (r : Nat) : QuietSem (getObj r) := fun _ => trivial
theorem quiet_setObj (r : Nat) (o : Obj) : QuietSem (setObj r o) := trivial
theorem quiet_choose (q : Question) : QuietSem (choose q) := fun _ => trivial
theorem next_quiet (r : Nat) (ty : TypeId) : QuietSem (Instr.next (.pointer (some ⟨r, 0, none⟩)) false ty) := by
  unfold Instr.next
  refine QuietSem.bind (quiet_getObj r) fun o => ?_
  cases o <;> try trivial
  rename_i m since seen last
  cases m with
  | none => trivial
  | some m =>
    refine QuietSem.bind (quiet_getObj m) fun o => ?_
    cases o <;> try trivial
    dsimp only
    split
    · trivial
    · refine QuietSem.bind (quiet_choose _) fun n => ?_
      split
      · exact QuietSem.bind (quiet_setObj _ _) fun _ => trivial
      · trivial
      · trivial
theorem next_tape {P : Program} {r : Nat} {ty : TypeId} {w w' : World} {v : Value} (h : (Instr.next (.pointer (some ⟨r, 0, none⟩)) false ty).run P w = .ok v w') : w'.tape = w.tape := QuietSem.tape _ _ _ _ (next_quiet r ty) h
/-- how long a slice is -/
def vlen : Value → Nat
  | .slice _ n _ => n
  | _ => 0
theorem SlAt.vlen {w : World} {v : Value} {l : List UInt8} (h : SlAt w v l) : Proofs.YtbhgcioeibhjeaaGreatDoor.vlen v = l.length := by
  obtain ⟨oa, cap, rfl⟩ := h.len
  rfl
def sumF (F : Nat → List UInt8) : Nat := ((List.range 64).map (fun f => (F f).length)).sum
def seenL (es : List MapEntry) (seen : Array Nat) : Nat := ((es.filter (fun e => seen.contains e.born)).map (fun e => vlen e.val)).sum
theorem seenL_other (seen : Array Nat) (b : Nat) : ∀ (es : List MapEntry), b ∉ es.map (·.born) → seenL es (seen.push b) = seenL es seen
  | [], _ => rfl
  | e :: es, h => by
    have h1 : e.born ≠ b := fun q => h (by simp [q])
    have ih := seenL_other seen b es (fun q => h (by simp [q]))
    have hc : (seen.push b).contains e.born = seen.contains e.born := by rw [contains_push]; simp [h1]
    unfold seenL at *
    simp only [List.filter_cons, hc]
    split
    · simp only [List.map_cons, List.sum_cons, ih]
    · exact ih
theorem seenL_push (seen : Array Nat) (e : MapEntry) (hs : seen.contains e.born = false) : ∀ (es : List MapEntry), (es.map (·.born)).Nodup → e ∈ es → seenL es (seen.push e.born) = seenL es seen + vlen e.val
  | [], _, h => by cases h
  | x :: es, hn, he => by
    simp only [List.map_cons, List.nodup_cons] at hn
    by_cases hx : x = e
    · subst hx
      have ih := seenL_other seen x.born es hn.1
      have hc : (seen.push x.born).contains x.born = true := by rw [contains_push]; simp
      unfold seenL at *
      simp only [List.filter_cons, hc, hs]
      simp only [if_true, List.map_cons, List.sum_cons, ih]
      simp [Nat.add_comm]
    · have he' : e ∈ es := by
        rcases List.mem_cons.1 he with h | h
        · exact absurd h.symm hx
        · exact h
      have hne : x.born ≠ e.born := fun q => hn.1 (by rw [q]; exact List.mem_map.2 ⟨e, he', rfl⟩)
      have ih := seenL_push seen e hs es hn.2 he'
      have hc : (seen.push e.born).contains x.born = seen.contains x.born := by rw [contains_push]; simp [hne]
      unfold seenL at *
      simp only [List.filter_cons, hc]
      split
      · simp only [List.map_cons, List.sum_cons, ih, Nat.add_assoc]
      · exact ih
theorem seenL_none : ∀ (es : List MapEntry), seenL es #[] = 0
  | [] => rfl
  | e :: es => by
    have ih := seenL_none es
    unfold seenL at *
    simpa using ih
theorem seenL_all (es : Array MapEntry) (seen : Array Nat) (h : (leftOf es seen).size = 0) : seenL es.toList seen = (es.toList.map fun e => vlen e.val).sum := by
  have ha := all_seen es seen h
  unfold seenL
  rw [List.filter_eq_self.2 (fun x hx => ha x hx)]
theorem seenL_le (es : List MapEntry) (seen : Array Nat) : seenL es seen ≤ (es.map fun e => vlen e.val).sum := by
  induction es with
  | nil => exact Nat.le_refl _
  | cons e es ih =>
    unfold seenL at *
    simp only [List.filter_cons, List.map_cons, List.sum_cons]
    split
    · simp only [List.map_cons, List.sum_cons]; omega
    · omega
/-- a map's entries, told by the numbers of files -/
theorem sum_range_pick (g : Nat → Nat) : ∀ (n : Nat) (ks : List Nat), ks.Nodup → (∀ k ∈ ks, k < n) → (∀ k, k < n → k ∉ ks → g k = 0) → (ks.map g).sum = ((List.range n).map g).sum
  | 0, ks, _, hlt, _ => by
    cases ks with
    | nil => rfl
    | cons k ks => exact absurd (hlt k (.head _)) (Nat.not_lt_zero _)
  | n + 1, ks, hnd, hlt, hz => by
    rw [List.range_succ, List.map_append, List.sum_append]
    by_cases hn : n ∈ ks
    · have hp := List.perm_cons_erase hn
      have hnd' := (hp.nodup_iff.1 hnd)
      rw [List.nodup_cons] at hnd'
      have ih := sum_range_pick g n (ks.erase n) hnd'.2 (fun k hk => by
        have h1 := hlt k (List.mem_of_mem_erase hk)
        have h2 : k ≠ n := fun e => hnd'.1 (by subst e; exact hk)
        omega) (fun k hk hk2 => hz k (by omega) (fun hm => hk2 ((List.mem_erase_of_ne (by omega)).2 hm)))
      rw [← ih]
      have hs := (hp.map g).sum_nat
      rw [hs]
      simp [Nat.add_comm]
    · have ih := sum_range_pick g n ks hnd (fun k hk => by
        have h1 := hlt k hk
        have h2 : k ≠ n := fun e => hn (by rw [← e]; exact hk)
        omega) (fun k hk hk2 => hz k (by omega) hk2)
      have hg := hz n (by omega) hn
      rw [ih]
      simp [hg]
theorem Fs.sum {w : World} {r : Nat} {V : Nat → Value} {F : Nat → List UInt8} (h : Fs w r V F) {es : Array MapEntry} {c : Nat} (he : FMapE es c V) : (es.toList.map fun e => vlen e.val).sum = sumF F := by
  have hk : ∀ x ∈ es.toList, ∃ f : Nat, x.key = .int .i64 f ∧ f < 64 ∧ vlen x.val = (F f).length ∧ F f ≠ [] := fun x hx => by
    obtain ⟨f, h1, h2, h3, h4⟩ := he.sound x hx
    exact ⟨f, h2, h1, by rw [h3]; exact (h.row f).vlen, fun e => h4 ((h.row f).nil_iff.2 e)⟩
  let kf : MapEntry → Nat := fun x => match x.key with | .int _ z => z.toNat | _ => 0
  have hkf : ∀ x ∈ es.toList, x.key = .int .i64 (kf x : Int) ∧ kf x < 64 ∧ vlen x.val = (F (kf x)).length := fun x hx => by
    obtain ⟨f, h1, h2, h3, _⟩ := hk x hx
    have e : kf x = f := by simp [kf, h1]
    rw [e]
    exact ⟨h1, h2, h3⟩
  have hnd : (es.toList.map kf).Nodup := by
    have hp := List.pairwise_map.1 he.st.2.2
    refine List.pairwise_map.2 (List.Pairwise.imp_of_mem ?_ hp)
    intro x y hx hy hne e
    exact hne (by rw [(hkf x hx).1, (hkf y hy).1, e])
  have h1 : (es.toList.map fun e => vlen e.val).sum = ((es.toList.map kf).map (fun f => (F f).length)).sum := by
    rw [List.map_map]
    congr 1
    exact List.map_congr_left (fun x hx => (hkf x hx).2.2)
  rw [h1]
  refine sum_range_pick _ 64 _ hnd (fun k hk => ?_) (fun k _ hk => ?_)
  · obtain ⟨x, hx, rfl⟩ := List.mem_map.1 hk
    exact (hkf x hx).2.1
  · refine List.length_eq_zero_iff.2 ?_
    refine Classical.byContradiction fun hne => hk ?_
    obtain ⟨x, hx, hxk⟩ := he.full k (fun e => hne ((h.row k).nil_iff.1 e))
    refine List.mem_map.2 ⟨x, hx, ?_⟩
    simp [kf, hxk]
set_option maxRecDepth 1000000 in
set_option maxHeartbeats 1000000 in
theorem all_any (r : Nat) (V : Nat → Value) (F : Nat → List UInt8) (w : World) (h : Fs w r V F) (hs : sumF F ≤ 1000000000) :
    Calls Tryz.prog 78 #[.map (some r)] w fun e w' => e = .returned (.int .i64 (sumF F)) ∧ Below w.heap.size w w' := by
  obtain ⟨es, clock, hb, he⟩ := h.map
  have hsum := h.sum he
  have hst := he.st
  have hsl : ∀ x ∈ es.toList, ∃ oa cap, x.val = .slice oa (vlen x.val) cap := fun x hx => by
    obtain ⟨f, _, _, h3, _⟩ := he.sound x hx
    obtain ⟨oa, cap, e⟩ := (h.row f).len
    rw [h3, e]
    exact ⟨oa, cap, rfl⟩
  have hle := fun seen => seenL_le es.toList seen
  rw [hsum] at hle
  have HSUM := Lib.hid hsum
  have HSL := Lib.hid hsl
  have HLE := Lib.hid hle
  clear h he hsum hsl hle
  have hrg := run_range_map (P := Tryz.prog) w 69 3 43 r es clock Tryz.underlying69 hb
  go_enter Tryz.func78, Tryz.ntmps78
  go_wp2_with fail
  go_loopw [3] (fun s w' => ∃ (w1 : World) (seen : Array Nat), (w1.Alike w ∧ w1.tape = w.tape) ∧ w' = w1.alloc (.mapIter (some r) clock seen clock) ∧ s = .int .i64 (seenL es.toList seen : Nat)) (fun _ w' => (leftOf es (w'.iterSeen w.heap.size)).size)
  case atStart => exact ⟨w, #[], ⟨⟨rfl, rfl, rfl⟩, rfl⟩, rfl, by rw [seenL_none]; rfl⟩
  case round =>
    obtain ⟨w1, seen, ⟨hal, htp⟩, rfl, rfl⟩ := hrel
    have hsz : w1.heap.size = w.heap.size := by rw [hal.1]
    have hb1 : w1.heap[r]? = some (.map es clock) := by rw [hal.1]; exact hb
    have law := run_next_map (P := Tryz.prog) w1 0 r clock clock seen es clock hb1 hst.1 (Nat.le_refl _)
    rw [hsz] at law
    rcases law with ⟨h0, hrun⟩ | ⟨e, he, w2, hal2, hrun⟩
    · have hnx : ∀ ty, (Instr.next (.pointer (some ⟨w.heap.size, 0, none⟩)) false ty).run Tryz.prog (w1.alloc (.mapIter (some r) clock seen clock)) = _ := fun _ => hrun
      go_wp2_with fail
      go_ret
      rw [seenL_all es seen h0, HSUM.out]
      exact ⟨rfl, hal.2.1, htp, hal.2.2, by rw [World.size_alloc]; omega, fun k hk => (Below.heap_alloc _ _ _ (by omega)).trans (by rw [hal.1])⟩
    · have htp2 : w2.tape = w.tape := (next_tape hrun).trans htp
      obtain ⟨oa, cap, hval⟩ := HSL.out e (mem_left he).1
      have hpush := seenL_push seen e (mem_left he).2 es.toList hst.2.1 (mem_left he).1
      have hle2 := HLE.out (seen.push e.born)
      rw [hpush] at hle2
      have HPUSH := Lib.hid hpush
      generalize hvl : vlen e.val = vl at *
      rw [hval] at hrun
      have hnx : ∀ ty, (Instr.next (.pointer (some ⟨w.heap.size, 0, none⟩)) false ty).run Tryz.prog (w1.alloc (.mapIter (some r) clock seen clock)) = _ := fun _ => hrun
      have hsz2 : w2.heap.size = w.heap.size := by rw [hal2.1, hal.1]
      have hb2 : w2.heap[r]? = some (.map es clock) := by rw [hal2.1]; exact hb1
      have hen := run_entry_map (P := Tryz.prog) w2 r clock seen es clock e hb2 (mem_left he).1 hst.2.1
      rw [hsz2, hval] at hen
      clear hpush
      go_wp2_with fail
      go_roundw
      case rel =>
        refine ⟨w2, seen.push e.born, ⟨⟨hal2.1.trans hal.1, hal2.2.1.trans hal.2.1, hal2.2.2.trans hal.2.2⟩, htp2⟩, rfl, ?_⟩
        rw [HPUSH.out]
        go_num
      case measure =>
        rw [← hsz2, World.iterSeen_alloc, hsz2, ← hsz, World.iterSeen_alloc]
        exact left_shrinks es seen e he
end Go.Proofs.YtbhgcioeibhjeaaGreatDoor
