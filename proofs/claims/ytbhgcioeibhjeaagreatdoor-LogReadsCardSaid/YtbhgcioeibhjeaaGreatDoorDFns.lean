/-
  disk: New, settle, Append, Cut, Sync.
-/
import Derived.Test.YtbhgcioeibhjeaaGreatDoorDDos
namespace Go.Proofs.YtbhgcioeibhjeaaGreatDoor
open Go.RowKit Go.Extern.Stop Go.Stop Go.Extern

def noF : Nat → List UInt8 := fun _ => []
def newD (room : Nat) : Dk := ⟨room, noF, noF, []⟩
theorem Fs.none (w : World) (r : Nat) (h : w.heap[r]? = some (.map #[] 0)) : Fs w r (fun _ => nilS) noF :=
  ⟨⟨#[], 0, h, MapKept.stamped_empty 0, fun x hx => by simp at hx, fun f hf => absurd rfl hf⟩, fun _ => SlAt.nil w, fun _ _ _ _ h => by cases h⟩
theorem run_makeFiles (w : World) : (Instr.makeMap 69 none).run Tryz.prog w = .ok (.map (some w.heap.size)) (w.alloc (.map #[] 0)) := by kernel_rfl
set_option maxHeartbeats 1000000 in
theorem New_ok (room : Nat) (w : World) (h0 : 1 ≤ room) (h1 : room ≤ 16777216) :
    Calls Tryz.prog 7 #[.int .i64 room] w fun e w' => e = .returned (.tuple #[.pointer (some ⟨w.heap.size + 2, 0, none⟩), .int .i64 0]) ∧ DkAt w.heap.size w' (fun k => w.heap.size ≤ k ∧ k < w.heap.size + 3) (w.heap.size + 2) (newD room) ∧ Below w.heap.size w w' := by
  have hmk := run_makeFiles
  go_enter Tryz.func7, Tryz.ntmps7
  go_wp2_with fail
  go_ret2
  have m0 : (((w.alloc (.map #[] 0)).alloc (.map #[] 0)).alloc (.cells #[.map (some w.heap.size), .map (some (w.heap.size + 1)), .slice none 0 0, .int .i64 (room : Int)] 72)).heap[w.heap.size]? = some (.map #[] 0) := by
    rw [Below.heap_alloc _ _ _ (by simp; omega), Below.heap_alloc _ _ _ (by simp)]
    exact heap_alloc_at w _
  have m1 : (((w.alloc (.map #[] 0)).alloc (.map #[] 0)).alloc (.cells #[.map (some w.heap.size), .map (some (w.heap.size + 1)), .slice none 0 0, .int .i64 (room : Int)] 72)).heap[w.heap.size + 1]? = some (.map #[] 0) := by
    rw [Below.heap_alloc _ _ _ (by simp)]
    have h := heap_alloc_at (w.alloc (.map #[] 0)) (.map #[] 0)
    rwa [World.size_alloc] at h
  have m2 : (((w.alloc (.map #[] 0)).alloc (.map #[] 0)).alloc (.cells #[.map (some w.heap.size), .map (some (w.heap.size + 1)), .slice none 0 0, .int .i64 (room : Int)] 72)).heap[w.heap.size + 2]? = some (.cells #[.map (some w.heap.size), .map (some (w.heap.size + 1)), .slice none 0 0, .int .i64 (room : Int)] 72 (0, 0)) := by
    have h := heap_alloc_at ((w.alloc (.map #[] 0)).alloc (.map #[] 0)) (.cells #[.map (some w.heap.size), .map (some (w.heap.size + 1)), .slice none 0 0, .int .i64 (room : Int)] 72)
    simpa using h
  refine ⟨rfl, ⟨w.heap.size, w.heap.size + 1, fun _ => nilS, fun _ => nilS, nilS, [], ⟨m2, Fs.none _ _ m0, Fs.none _ _ m1, by omega, (fun _ _ _ _ h => by cases h), (fun _ _ h => by cases h), World.ownsRow_nil _ _ _ _, (fun x hx => by cases hx), rfl, by omega, by omega, by omega, (fun _ _ h => by cases h), (fun _ _ h => by cases h), (fun _ h => by cases h), (fun x hx => by cases hx), fun k hk => ⟨hk.1, by simp; omega⟩⟩⟩, (((Below.refl _ w).alloc (Nat.le_refl _) _).alloc (by simp) _).alloc (by simp; omega) _⟩
set_option maxHeartbeats 1000000 in
theorem New_bad (room : Int) (w : World) (h : room < 1 ∨ 16777216 < room) :
    Calls Tryz.prog 7 #[.int .i64 room] w fun e w' => e = .returned (.tuple #[.pointer none, .int .i64 2]) ∧ w = w' := by
  by_cases h1 : room < 1
  · go_enter Tryz.func7, Tryz.ntmps7
    go_wp2_with fail
    go_ret2
    exact ⟨rfl, rfl⟩
  · have h2 : 16777216 < room := by omega
    go_enter Tryz.func7, Tryz.ntmps7
    go_wp2_with fail
    go_ret2
    exact ⟨rfl, rfl⟩
theorem run_clone (r : Nat) (w : World) (es : Array MapEntry) (c : Nat) (h : w.heap[r]? = some (.map es c)) : (MapsClone.clone #[.iface 69 (.map (some r))]).run Tryz.prog w = .ok (.iface 69 (.map (some w.heap.size))) (w.alloc (.map es c)) := by
  have e : MapsClone.clone #[.iface 69 (.map (some r))] = (getObj r >>= fun o => match o with
      | .map entries clock => (newObj (.map entries clock) >>= fun n => pure (.iface 69 (.map (some n))))
      | _ => stuck "maps.clone: a map expected") := rfl
  rw [e]
  simp [MapKept.run_getObj_map h, Result.andThen]
theorem asFiles (v : Value) (w : World) : (Instr.typeAssert (.iface 69 v) 20 69 false).run Tryz.prog w = .ok v w := by kernel_rfl
set_option maxRecDepth 100000 in
set_option maxHeartbeats 2000000 in
theorem clone_any (r : Nat) (w : World) (es : Array MapEntry) (c : Nat) (h : w.heap[r]? = some (.map es c)) :
    Calls Tryz.prog 84 #[.map (some r)] w fun e w' => e = .returned (.map (some w.heap.size)) ∧ w' = w.alloc (.map es c) := by
  have hCl := @run_callFunc_extern Tryz.prog 100 _ MapsClone.clone Tryz.func100 (by kernel_rfl) (by kernel_rfl) (by kernel_rfl) (by kernel_rfl)
  have r1 := run_clone r w es c h
  have r2 := asFiles
  have em := eq_map
  go_enter Tryz.func84, Tryz.ntmps84
  go_wp2_with fail
  go_ret
  exact ⟨rfl, rfl⟩
set_option maxHeartbeats 2000000 in
theorem settle_any (p mf : Nat) (V : Nat → Value) (F : Nat → List UInt8) (x1 lv : Value) (room : Int) (w : World) (hp : w.heap[p]? = some (.cells #[.map (some mf), x1, lv, .int .i64 room] 72 (0, 0))) (hfs : Fs w mf V F) :
    Calls Tryz.prog 59 #[.pointer (some ⟨p, 0, none⟩)] w fun e w' => e = .returned (.tuple #[]) ∧ w'.heap[p]? = some (.cells #[.map (some mf), .map (some w.heap.size), nilS, .int .i64 room] 72 (0, 0)) ∧ Fs w' mf V F ∧ Fs w' w.heap.size V F ∧ w.grownBy w' (some p) ∧ w'.heap.size = w.heap.size + 1 := by
  obtain ⟨es, c, hm, hE⟩ := id hfs.map
  have hpl := (Array.getElem?_eq_some_iff.1 hp).1
  have hml := hfs.map.lt
  have hpm : p ≠ mf := fun e => by rw [e, hm] at hp; cases hp
  have c0 : w.cell? ⟨p, 0, none⟩ = some (.map (some mf)) := by simp [World.cell?, hp]
  obtain ⟨w1, hw1⟩ : ∃ w1, w.alloc (.map es c) = w1 := ⟨_, rfl⟩
  have hz1 : w1.heap.size = w.heap.size + 1 := by rw [← hw1]; simp
  have hb1 : ∀ k, k < w.heap.size → w1.heap[k]? = w.heap[k]? := fun k hk => by rw [← hw1]; exact Below.heap_alloc _ _ _ hk
  have hn1 : w1.heap[w.heap.size]? = some (.map es c) := by rw [← hw1]; exact heap_alloc_at w _
  have hp1 := (hb1 p hpl).trans hp
  have c1 : w1.cell? ⟨p, 1, none⟩ = some x1 := by simp [World.cell?, hp1]
  have f1 : w1.frozen? ⟨p, 1, none⟩ = false := by simp [World.frozen?, hp1]
  have c2 : w1.cell? ⟨p, 2, none⟩ = some lv := by simp [World.cell?, hp1]
  have f2 : w1.frozen? ⟨p, 2, none⟩ = false := by simp [World.frozen?, hp1]
  have hg1 : w.grownBy w1 none := by rw [← hw1]; exact ⟨rfl, rfl, rfl, by simp, fun k hk _ => Below.heap_alloc _ _ _ hk⟩
  have HC := Lib.hid (clone_any mf w es c hm)
  rw [hw1] at HC
  have HP : Hid (((w1.setCell ⟨p, 1, none⟩ (.map (some w.heap.size))).setCell ⟨p, 2, none⟩ (.slice none 0 0)).heap[p]? = some (.cells #[.map (some mf), .map (some w.heap.size), nilS, .int .i64 room] 72 (0, 0)) ∧
      (∀ k, k ≠ p → ((w1.setCell ⟨p, 1, none⟩ (.map (some w.heap.size))).setCell ⟨p, 2, none⟩ (.slice none 0 0)).heap[k]? = w1.heap[k]?)) := Lib.hid ⟨by
    unfold World.setCell
    rw [Array.getElem?_modify, if_pos rfl, Array.getElem?_modify, if_pos rfl, hp1]
    rfl, fun k hk => (Below.heap_setCell _ _ _ _ hk).trans (Below.heap_setCell _ _ _ _ hk)⟩
  have HQ : Hid (∀ w', (∀ k, k ≠ p → w'.heap[k]? = w1.heap[k]?) → Fs w' mf V F ∧ Fs w' w.heap.size V F) := Lib.hid fun w' hk => by
    have row : ∀ f, SlAt w' (V f) (F f) := fun f => (hfs.row f).keep (fun g hg => by
      have hgl := (hfs.row f).lt g hg
      have hgp : g ≠ p := fun e => by
        obtain ⟨cur, hc⟩ := (hfs.row f).elem g hg
        rw [e, hp] at hc
        cases hc
      rw [hk g hgp, hb1 g hgl])
    exact ⟨⟨⟨es, c, by rw [hk mf hpm.symm, hb1 mf hml]; exact hm, hE⟩, row, hfs.apart⟩, ⟨⟨es, c, by rw [hk _ (by omega)]; exact hn1, hE⟩, row, hfs.apart⟩⟩
  have HG := Lib.hid hg1
  have HZ := Lib.hid hz1
  clear hp hfs hm hE hb1 hn1 hp1 hg1 hw1 hz1
  go_enter Tryz.func59, Tryz.ntmps59
  go_wp2_with (first | (go_at_call 84; refine HC.out.mono ?_; rintro e w' ⟨rfl, rfl⟩))
  go_end0
  refine ⟨rfl, HP.out.1, (HQ.out _ HP.out.2).1, (HQ.out _ HP.out.2).2, ⟨HG.out.os, HG.out.tape, HG.out.output, by simp [World.setCell]; exact HG.out.size, fun k hk hkp => (HP.out.2 k (fun e => hkp (congrArg some e))).trans (HG.out.block k hk (by simp))⟩, by simp [World.setCell]; exact HZ.out⟩
end Go.Proofs.YtbhgcioeibhjeaaGreatDoor
