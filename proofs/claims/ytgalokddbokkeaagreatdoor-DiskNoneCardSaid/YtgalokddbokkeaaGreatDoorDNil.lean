/-
  disk: Files of none: the keys of a nil map, sorted.
-/
import Derived.Test.YtgalokddbokkeaaGreatDoorDNone
import Derived.Test.YtgalokddbokkeaaGreatDoorSeqN
import Derived.Test.YtgalokddbokkeaaGreatDoorShelf
namespace Go.Proofs.YtgalokddbokkeaaGreatDoor
open Go.RowKit Go.Shelf

set_option maxRecDepth 100000 in
set_option maxHeartbeats 1000000 in
theorem keys1_nil (y : Value) (b : Nat) (w : World) (h : w.cell? ⟨b, 0, none⟩ = some (.map none)) : Calls Tryz.prog 67 #[y, .pointer (some ⟨b, 0, none⟩)] w fun e w' => e = .returned (.tuple #[]) ∧ Below w.heap.size w w' := by
  have hrg := run_range_nilMap (P := Tryz.prog) w 29 3 22 Tryz.underlying29
  have hnx : ∀ ty, (Instr.next (.pointer (some ⟨w.heap.size, 0, none⟩)) false ty).run Tryz.prog (w.alloc (.mapIter none 0 #[] 0)) = _ := fun ty => run_next_nilMap w ty 0 0 #[]
  go_enter Tryz.func67, Tryz.ntmps67
  go_wp2
  refine wp_loop_rounds 1 ?_
  rw [rounds_succ]
  go_wp2
  go_end0
  exact ⟨rfl, (Below.refl _ _).alloc (Nat.le_refl _) _⟩
set_option maxHeartbeats 1000000 in
theorem keys_nil (w : World) : Calls Tryz.prog 60 #[.map none] w fun e w' => e = .returned (.func (.func 67) #[] #[.pointer (some ⟨w.heap.size, 0, none⟩)]) ∧ w'.cell? ⟨w.heap.size, 0, none⟩ = some (.map none) ∧ Below w.heap.size w w' := by
  have hmf : ∀ (fn : Fn) (first cap : Array Value) (w : World), (Instr.makeFunc fn first cap).run Tryz.prog w = .ok (.func fn first cap) w := fun _ _ _ _ => rfl
  go_enter Tryz.func60, Tryz.ntmps60
  go_wp2
  go_ret
  exact ⟨rfl, by simp [go_sem], (Below.refl _ _).alloc (Nat.le_refl _) _⟩
set_option maxRecDepth 100000 in
set_option maxHeartbeats 2000000 in
theorem appSeq_nil (b : Nat) (w : World) (h : w.cell? ⟨b, 0, none⟩ = some (.map none)) : Calls Tryz.prog 68 #[.slice none 0 0, .func (.func 67) #[] #[.pointer (some ⟨b, 0, none⟩)]] w fun e w' => e = .returned (.slice none 0 0) ∧ Below w.heap.size w w' := by
  have hbl := World.block_lt_of_cell? w _ h
  have H1 : Hid (∀ W, Below w.heap.size w W → ∀ y, Calls Tryz.prog 67 #[y, .pointer (some ⟨b, 0, none⟩)] W fun e w' => (∃ v, e = .returned v) ∧ Below W.heap.size W w') := Lib.hid fun W hb y => (keys1_nil y b W ((hb.cell hbl).trans h)).mono fun e w' ⟨e0, hb'⟩ => ⟨⟨_, e0⟩, hb'⟩
  clear h hbl
  refine (callsIn_wide (n := 5)).1 ?_
  refine callsIn_of_wp_marks Tryz.func68 rfl trivial ?_ rfl
  simp only [Tryz.ntmps68, List.size_toArray, List.length_cons, List.length_nil, Nat.reduceAdd, Nat.reduceSub, Array.replicate_succ, Array.replicate_zero, List.push_toArray, List.append_toArray, List.nil_append, List.cons_append]
  refine wpIn_wide.2 ?_
  go_wp2
  obtain ⟨w0, hw0⟩ : ∃ w0, w.alloc (.cells #[.slice none 0 0] 76) = w0 := ⟨_, rfl⟩
  have hb0 : Below w.heap.size w w0 := by rw [← hw0]; exact (Below.refl _ w).alloc (Nat.le_refl _) _
  have hc0 : w0.cell? ⟨w.heap.size, 0, none⟩ = some (.slice none 0 0) := by rw [← hw0]; simp [go_sem]
  have hl0 := World.block_lt_of_cell? w0 _ hc0
  try rw [hw0]
  clear hw0
  refine (wpIn_wide (n := 5)).1 ?_
  refine wpIn_seqNone (by decide) (gf := 67) (fb := #[]) (lb := #[.pointer (some ⟨b, 0, none⟩)]) rfl (enters_of Tryz.func67 (by kernel_rfl) rfl) (fun W y _ _ hb => H1.out W (hb0.trans (hb.mono hb0.size)) y) ?_
  intro W hb hd
  have hc1 : W.cell? ⟨w.heap.size, 0, none⟩ = some (.slice none 0 0) := (hb.cell hl0).trans hc0
  have HD := Lib.hid hd
  have HB := Lib.hid (hb0.trans (hb.mono hb0.size))
  have hz := hb0.size
  clear hd
  go_wp2_with fail
  refine ⟨by simp, .inl ⟨_, _, rfl, run_takeDeferred HD.out, ?_⟩⟩
  exact ⟨.slice none 0 0, by simp [results, Tryz.results68, go_sem], rfl, HB.out.trans ⟨rfl, rfl, rfl, by simp, fun k hk => World.putObj_heap_other (by omega)⟩⟩
set_option maxRecDepth 100000 in
set_option maxHeartbeats 1000000 in
theorem coll_nil (b : Nat) (w : World) (h : w.cell? ⟨b, 0, none⟩ = some (.map none)) : Calls Tryz.prog 65 #[.func (.func 67) #[] #[.pointer (some ⟨b, 0, none⟩)]] w fun e w' => e = .returned (.slice none 0 0) ∧ Below w.heap.size w w' := by
  have HA := Lib.hid (appSeq_nil b w h)
  clear h
  go_enter Tryz.func65, Tryz.ntmps65
  go_wp2_with (go_at_call 68; refine HA.out.mono ?_; rintro e w1 ⟨rfl, hb⟩)
  go_ret
  exact ⟨rfl, hb⟩
set_option maxRecDepth 100000 in
set_option maxHeartbeats 1000000 in
theorem sortedI_nil (b : Nat) (w : World) (h : w.cell? ⟨b, 0, none⟩ = some (.map none)) : Calls Tryz.prog 59 #[.func (.func 67) #[] #[.pointer (some ⟨b, 0, none⟩)]] w fun e w' => e = .returned (.slice none 0 0) ∧ Below w.heap.size w w' := by
  have HA := Lib.hid (coll_nil b w h)
  clear h
  go_enter Tryz.func59, Tryz.ntmps59
  go_wp2_with (first | (go_at_call 65; refine HA.out.mono ?_; rintro e w1 ⟨rfl, hb⟩) | (go_at_call 66; refine (Tryz.slices_Sort_int_none none 0 _).mono ?_; rintro e w2 ⟨rfl, rfl⟩))
  go_ret
  exact ⟨rfl, hb⟩
set_option maxRecDepth 100000 in
set_option maxHeartbeats 1000000 in
theorem dsorted_nil (w : World) : Calls Tryz.prog 43 #[.map none] w fun e w' => e = .returned (.slice none 0 0) ∧ Below w.heap.size w w' := by
  go_enter Tryz.func43, Tryz.ntmps43
  go_wp2_with (first | (go_at_call 60; refine (keys_nil _).mono ?_; rintro e w1 ⟨rfl, hc, hb⟩) | (go_at_call 59; refine (sortedI_nil _ w1 hc).mono ?_; rintro e w2 ⟨rfl, hb2⟩))
  go_ret
  exact ⟨rfl, hb.trans (hb2.mono hb.size)⟩
set_option maxRecDepth 100000 in
set_option maxHeartbeats 1000000 in
theorem rising_nil (y : Value) (w : World) : Calls Tryz.prog 25 #[.map none, y] w fun e w' => e = .returned (.tuple #[]) ∧ Below w.heap.size w w' := by
  go_enter Tryz.func25, Tryz.ntmps25
  go_wp2_with (first | (go_at_call 43; refine (dsorted_nil _).mono ?_; rintro e w1 ⟨rfl, hb⟩))
  refine wp_loop_rounds 1 ?_
  rw [rounds_succ]
  go_wp2
  go_end0
  exact ⟨rfl, hb⟩
set_option maxRecDepth 100000 in
set_option maxHeartbeats 2000000 in
theorem files1_nil (l : Nat) (b : Nat) (w : World) (h : w.cell? ⟨b, 0, none⟩ = some (.map none)) : Calls Tryz.prog 24 #[.func (.yield l) #[] #[], .pointer (some ⟨b, 0, none⟩)] w fun e w' => (∃ v, e = .returned v) ∧ Below w.heap.size w w' := by
  have hmf : ∀ (fn : Fn) (first cap : Array Value) (w : World), (Instr.makeFunc fn first cap).run Tryz.prog w = .ok (.func fn first cap) w := fun _ _ _ _ => rfl
  have hbl := World.block_lt_of_cell? w _ h
  refine (callsIn_wide (n := 5)).1 ?_
  refine callsIn_of_wp_marks Tryz.func24 rfl trivial ?_ rfl
  simp only [Tryz.ntmps24, List.size_toArray, List.length_cons, List.length_nil, Nat.reduceAdd, Nat.reduceSub, Array.replicate_succ, Array.replicate_zero, List.push_toArray, List.append_toArray, List.nil_append, List.cons_append]
  refine wpIn_wide.2 ?_
  go_wp2
  refine wp_scope_straight ?_
  obtain ⟨w0, hw0⟩ : ∃ w0, w.alloc (.cells #[.func (.yield l) #[] #[]] 58) = w0 := ⟨_, rfl⟩
  have hb0 : Below w.heap.size w w0 := by rw [← hw0]; exact (Below.refl _ w).alloc (Nat.le_refl _) _
  have hc0 : w0.cell? ⟨b, 0, none⟩ = some (.map none) := (hb0.cell hbl).trans h
  have HB0 := Lib.hid hb0
  try rw [hw0]
  clear hw0 h hb0
  refine wp_seq ?_
  refine wp_label ?_
  go_wp2
  refine (wpIn_wide (n := 5)).1 ?_
  refine wpIn_seqNone (by decide) (gf := 25) (fb := #[.map none]) (lb := #[]) rfl (enters_of Tryz.func25 (by kernel_rfl) rfl) (fun W y _ _ hb => (rising_nil y W).mono fun e w' ⟨e0, hb'⟩ => ⟨⟨_, e0⟩, hb'⟩) ?_
  intro W hb hd
  have HD := Lib.hid hd
  have HB := Lib.hid (HB0.out.trans (hb.mono HB0.out.size))
  clear hd hb
  go_wp2_with fail
  refine ⟨by simp, .inl ⟨_, _, rfl, run_takeDeferred HD.out, ?_⟩⟩
  exact ⟨.tuple #[], by simp [results, Tryz.results24, go_sem], ⟨_, rfl⟩, HB.out.trans ⟨rfl, rfl, rfl, by simp, fun k hk => World.putObj_heap_other (by have := HB0.out.size; omega)⟩⟩
end Go.Proofs.YtgalokddbokkeaaGreatDoor
