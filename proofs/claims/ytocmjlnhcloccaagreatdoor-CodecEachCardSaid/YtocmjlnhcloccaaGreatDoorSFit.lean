/-
  schema.kinds.fit: whether a value fits a column that may be: 'fitN'.
-/
import Derived.Test.YtocmjlnhcloccaaGreatDoorSCol
import Derived.Test.YtocmjlnhcloccaaGreatDoorVVl
namespace Go.Proofs.YtocmjlnhcloccaaGreatDoor
open Go.RowKit

/-- the bounds of a column -/
def bnd (t z : Int) (v : Vl) : Bool :=
  if t = 1 then decide (leastI z ≤ v.i) && decide (v.i ≤ mostI z) else if t = 2 then decide (v.u ≤ mostU z) else if t = 3 then true else decide ((v.s.size : Int) ≤ z)
/-- whether a value fits a column that may be: an error's number -/
def fitN (c : Col) (v : Vl) : Int :=
  if v.chk ≠ 0 then v.chk else if v.k = 0 then (if c.u = true then 0 else 131) else if v.k ≠ c.t then 132 else if bnd c.t c.z v = true then 0 else 133
theorem cell_new {w : World} {cs : Array Value} {t : TypeId} (j : Nat) : (w.alloc (.cells cs t)).cell? ⟨w.heap.size, j, none⟩ = cs[j]? := World.cell?_alloc_at cs t _ j rfl
theorem cellN1 (w : World) (A B : Obj) (c : Array Value) (t : TypeId) (j : Nat) : (((w.alloc A).alloc (.cells c t)).alloc B).drew.cell? ⟨w.heap.size + 1, j, none⟩ = c[j]? :=
  (World.cell?_alloc_lt _ _ ⟨w.heap.size + 1, j, none⟩ (by simp)).trans (World.cell?_alloc_at (w := w.alloc A) c t _ j (by simp))
theorem cellN2 (w : World) (A B : Obj) (c : Array Value) (t : TypeId) (j : Nat) : (((w.alloc A).alloc B).alloc (.cells c t)).drew.cell? ⟨w.heap.size + 1 + 1, j, none⟩ = c[j]? :=
  World.cell?_alloc_at (w := (w.alloc A).alloc B) c t _ j (by simp)
theorem cellN3 (w : World) (A : Obj) (c : Array Value) (t : TypeId) (j : Nat) : ((w.alloc A).alloc (.cells c t)).drew.cell? ⟨w.heap.size + 1, j, none⟩ = c[j]? :=
  World.cell?_alloc_at (w := w.alloc A) c t _ j (by simp)
theorem cell_old {w w' : World} {a : Addr} {v : Value} (h : w.cell? a = some v) (hb : Below w.heap.size w w') : w'.cell? a = some v := by
  rw [hb.cell (World.block_lt_of_cell? w a h)]
  exact h
theorem heap_keep {w w' : World} {r : Nat} {o : Obj} (h : w.heap[r]? = some o) (hb : Below w.heap.size w w') : w'.heap[r]? = some o := by
  rw [hb.block r (Array.getElem?_eq_some_iff.1 h).1]
  exact h
set_option maxRecDepth 100000 in
set_option maxHeartbeats 2000000 in
theorem fit_chk (n : ByteArray) (t z : Int) (nl : Bool) (k i u : Int) (s : ByteArray) (r : Nat) (w : World) (hm : w.heap[r]? = some (.map mapTypes 4)) (hg : HasET w) (m : Int) (h : chk k i u s = m) (h0 : m ≠ 0) :
    Calls Tryz.prog 89 #[.map (some r), .agg #[.string n, .int .i64 t, .int .i64 z, .bool nl], .agg #[.int .i64 k, .int .i64 i, .int .u64 u, .string s]] w (IsMis m w) := by
  have hC := Lib.hid (Check_any k i u s ((w.alloc (.cells #[.string n, .int .i64 t, .int .i64 z, .bool nl] 64)).alloc (.cells #[.int .i64 k, .int .i64 i, .int .u64 u, .string s] 68)) ((hg.below ((Below.refl _ _).alloc (Nat.le_refl _) _) hg.lt).below ((Below.refl _ _).alloc (Nat.le_refl _) _) (by have := hg.lt; first | (simp; done) | (simp; omega))))
  have hM : Hid (((w.alloc (.cells #[.string n, .int .i64 t, .int .i64 z, .bool nl] 64)).alloc (.cells #[.int .i64 k, .int .i64 i, .int .u64 u, .string s] 68)).heap[r]? = some (.map mapTypes 4)) := Lib.hid (heap_old (heap_old hm _) _)
  clear hm hg
  go_enter Tryz.func89, Tryz.ntmps89
  go_wp2_with (go_at_call 88; refine (Of_any _ _ _).mono ?_; rintro e w' ⟨rfl, rfl⟩)
  refine hC.out.mono ?_
  rintro e w1 ⟨rfl, hb1⟩
  rw [h]
  have hm0 : (m != 0) = true := by simpa using h0
  have hb0 : Below w.heap.size w w1 := (((Below.refl _ _).alloc (Nat.le_refl _) _).alloc (by simp) _).trans (hb1.mono (by simp; omega))
  clear hM h h0 hC
  go_wp2_with (go_at_call 88; refine (Of_any _ _ _).mono ?_; rintro e w' ⟨rfl, rfl⟩)
  go_ret
  exact ⟨_, rfl, hb0.size, by simp [go_sem], hb0.trans ((show Below w1.heap.size w1 _ from by go_grown).mono hb0.size)⟩
set_option maxRecDepth 100000 in
set_option maxHeartbeats 2000000 in
theorem fit_null (n : ByteArray) (t z : Int) (nl : Bool) (k i u : Int) (s : ByteArray) (r : Nat) (w : World) (hm : w.heap[r]? = some (.map mapTypes 4)) (hg : HasET w) (f b j : Nat) (hfd : Instr.findNow (.int .i64) (.int .i64 t) mapTypes.toList 0 = some (some (j, tv t f b))) (h : chk k i u s = 0) (hk : k = 0) (hu : nl = true) :
    Calls Tryz.prog 89 #[.map (some r), .agg #[.string n, .int .i64 t, .int .i64 z, .bool nl], .agg #[.int .i64 k, .int .i64 i, .int .u64 u, .string s]] w fun e w' => e = .returned .nilIface ∧ Below w.heap.size w w' := by
  subst hk hu
  have hC := Lib.hid (Check_any 0 i u s ((w.alloc (.cells #[.string n, .int .i64 t, .int .i64 z, .bool true] 64)).alloc (.cells #[.int .i64 0, .int .i64 i, .int .u64 u, .string s] 68)) ((hg.below ((Below.refl _ _).alloc (Nat.le_refl _) _) hg.lt).below ((Below.refl _ _).alloc (Nat.le_refl _) _) (by have := hg.lt; first | (simp; done) | (simp; omega))))
  have hM : Hid (((w.alloc (.cells #[.string n, .int .i64 t, .int .i64 z, .bool true] 64)).alloc (.cells #[.int .i64 0, .int .i64 i, .int .u64 u, .string s] 68)).heap[r]? = some (.map mapTypes 4)) := Lib.hid (heap_old (heap_old hm _) _)
  clear hm hg
  go_enter Tryz.func89, Tryz.ntmps89
  go_wp2_with (go_at_call 88; refine (Of_any _ _ _).mono ?_; rintro e w' ⟨rfl, rfl⟩)
  refine hC.out.mono ?_
  rintro e w1 ⟨rfl, hb1⟩
  rw [h]
  have hb0 : Below w.heap.size w w1 := (((Below.refl _ _).alloc (Nat.le_refl _) _).alloc (by simp) _).trans (hb1.mono (by simp; omega))
  have hz1 : w.heap.size + 1 < w1.heap.size := by have := hb1.size; simp at this; omega
  have hz0 : w.heap.size < w1.heap.size := by omega
  have hn0 : w1.cell? ⟨w.heap.size, 0, none⟩ = some (.string n) := cell_old (by simp [go_sem]) hb1
  have hn1 : w1.cell? ⟨w.heap.size, 1, none⟩ = some (.int .i64 t) := cell_old (by simp [go_sem]) hb1
  have hn2 : w1.cell? ⟨w.heap.size, 2, none⟩ = some (.int .i64 z) := cell_old (by simp [go_sem]) hb1
  have hn3 : w1.cell? ⟨w.heap.size, 3, none⟩ = some (.bool true) := cell_old (by simp [go_sem]) hb1
  have hv0 : w1.cell? ⟨w.heap.size + 1, 0, none⟩ = some (.int .i64 0) := cell_old (by simp [go_sem]) hb1
  have hv1 : w1.cell? ⟨w.heap.size + 1, 1, none⟩ = some (.int .i64 i) := cell_old (by simp [go_sem]) hb1
  have hv2 : w1.cell? ⟨w.heap.size + 1, 2, none⟩ = some (.int .u64 u) := cell_old (by simp [go_sem]) hb1
  have hv3 : w1.cell? ⟨w.heap.size + 1, 3, none⟩ = some (.string s) := cell_old (by simp [go_sem]) hb1
  have hL : (Instr.lookup 114 (.map (some r)) (.int .i64 t) false).run Tryz.prog w1 = .ok (tv t f b) w1 := types_got (heap_keep hM.out hb1) hfd
  simp only [tv] at hL
  clear hM
  clear h hC
  go_wp2_with (go_at_call 88; refine (Of_any _ _ _).mono ?_; rintro e w' ⟨rfl, rfl⟩)
  go_ret
  exact ⟨rfl, hb0.trans ((show Below w1.heap.size w1 _ from by go_grown).mono hb0.size)⟩
set_option maxRecDepth 100000 in
set_option maxHeartbeats 2000000 in
theorem fit_nonull (n : ByteArray) (t z : Int) (nl : Bool) (k i u : Int) (s : ByteArray) (r : Nat) (w : World) (hm : w.heap[r]? = some (.map mapTypes 4)) (hg : HasET w) (f b j : Nat) (hfd : Instr.findNow (.int .i64) (.int .i64 t) mapTypes.toList 0 = some (some (j, tv t f b))) (h : chk k i u s = 0) (hk : k = 0) (hu : nl = false) :
    Calls Tryz.prog 89 #[.map (some r), .agg #[.string n, .int .i64 t, .int .i64 z, .bool nl], .agg #[.int .i64 k, .int .i64 i, .int .u64 u, .string s]] w (IsMis 131 w) := by
  subst hk hu
  have hC := Lib.hid (Check_any 0 i u s ((w.alloc (.cells #[.string n, .int .i64 t, .int .i64 z, .bool false] 64)).alloc (.cells #[.int .i64 0, .int .i64 i, .int .u64 u, .string s] 68)) ((hg.below ((Below.refl _ _).alloc (Nat.le_refl _) _) hg.lt).below ((Below.refl _ _).alloc (Nat.le_refl _) _) (by have := hg.lt; first | (simp; done) | (simp; omega))))
  have hM : Hid (((w.alloc (.cells #[.string n, .int .i64 t, .int .i64 z, .bool false] 64)).alloc (.cells #[.int .i64 0, .int .i64 i, .int .u64 u, .string s] 68)).heap[r]? = some (.map mapTypes 4)) := Lib.hid (heap_old (heap_old hm _) _)
  clear hm hg
  go_enter Tryz.func89, Tryz.ntmps89
  go_wp2_with (go_at_call 88; refine (Of_any _ _ _).mono ?_; rintro e w' ⟨rfl, rfl⟩)
  refine hC.out.mono ?_
  rintro e w1 ⟨rfl, hb1⟩
  rw [h]
  have hb0 : Below w.heap.size w w1 := (((Below.refl _ _).alloc (Nat.le_refl _) _).alloc (by simp) _).trans (hb1.mono (by simp; omega))
  have hz1 : w.heap.size + 1 < w1.heap.size := by have := hb1.size; simp at this; omega
  have hz0 : w.heap.size < w1.heap.size := by omega
  have hn0 : w1.cell? ⟨w.heap.size, 0, none⟩ = some (.string n) := cell_old (by simp [go_sem]) hb1
  have hn1 : w1.cell? ⟨w.heap.size, 1, none⟩ = some (.int .i64 t) := cell_old (by simp [go_sem]) hb1
  have hn2 : w1.cell? ⟨w.heap.size, 2, none⟩ = some (.int .i64 z) := cell_old (by simp [go_sem]) hb1
  have hn3 : w1.cell? ⟨w.heap.size, 3, none⟩ = some (.bool false) := cell_old (by simp [go_sem]) hb1
  have hv0 : w1.cell? ⟨w.heap.size + 1, 0, none⟩ = some (.int .i64 0) := cell_old (by simp [go_sem]) hb1
  have hv1 : w1.cell? ⟨w.heap.size + 1, 1, none⟩ = some (.int .i64 i) := cell_old (by simp [go_sem]) hb1
  have hv2 : w1.cell? ⟨w.heap.size + 1, 2, none⟩ = some (.int .u64 u) := cell_old (by simp [go_sem]) hb1
  have hv3 : w1.cell? ⟨w.heap.size + 1, 3, none⟩ = some (.string s) := cell_old (by simp [go_sem]) hb1
  have hL : (Instr.lookup 114 (.map (some r)) (.int .i64 t) false).run Tryz.prog w1 = .ok (tv t f b) w1 := types_got (heap_keep hM.out hb1) hfd
  simp only [tv] at hL
  clear hM
  clear h hC
  go_wp2_with (go_at_call 88; refine (Of_any _ _ _).mono ?_; rintro e w' ⟨rfl, rfl⟩)
  go_ret
  exact ⟨_, rfl, by have := hb0.size; simp; omega, by simp [go_sem], hb0.trans ((show Below w1.heap.size w1 _ from by go_grown).mono hb0.size)⟩
set_option maxRecDepth 100000 in
set_option maxHeartbeats 2000000 in
theorem fit_type (n : ByteArray) (t z : Int) (nl : Bool) (k i u : Int) (s : ByteArray) (r : Nat) (w : World) (hm : w.heap[r]? = some (.map mapTypes 4)) (hg : HasET w) (f b j : Nat) (hfd : Instr.findNow (.int .i64) (.int .i64 t) mapTypes.toList 0 = some (some (j, tv t f b))) (h : chk k i u s = 0) (hk : (k == 0) = false) (hkt : (k != t) = true) :
    Calls Tryz.prog 89 #[.map (some r), .agg #[.string n, .int .i64 t, .int .i64 z, .bool nl], .agg #[.int .i64 k, .int .i64 i, .int .u64 u, .string s]] w (IsMis 132 w) := by
  have hC := Lib.hid (Check_any k i u s ((w.alloc (.cells #[.string n, .int .i64 t, .int .i64 z, .bool nl] 64)).alloc (.cells #[.int .i64 k, .int .i64 i, .int .u64 u, .string s] 68)) ((hg.below ((Below.refl _ _).alloc (Nat.le_refl _) _) hg.lt).below ((Below.refl _ _).alloc (Nat.le_refl _) _) (by have := hg.lt; first | (simp; done) | (simp; omega))))
  have hM : Hid (((w.alloc (.cells #[.string n, .int .i64 t, .int .i64 z, .bool nl] 64)).alloc (.cells #[.int .i64 k, .int .i64 i, .int .u64 u, .string s] 68)).heap[r]? = some (.map mapTypes 4)) := Lib.hid (heap_old (heap_old hm _) _)
  clear hm hg
  go_enter Tryz.func89, Tryz.ntmps89
  go_wp2_with (go_at_call 88; refine (Of_any _ _ _).mono ?_; rintro e w' ⟨rfl, rfl⟩)
  refine hC.out.mono ?_
  rintro e w1 ⟨rfl, hb1⟩
  rw [h]
  have hb0 : Below w.heap.size w w1 := (((Below.refl _ _).alloc (Nat.le_refl _) _).alloc (by simp) _).trans (hb1.mono (by simp; omega))
  have hz1 : w.heap.size + 1 < w1.heap.size := by have := hb1.size; simp at this; omega
  have hz0 : w.heap.size < w1.heap.size := by omega
  have hn0 : w1.cell? ⟨w.heap.size, 0, none⟩ = some (.string n) := cell_old (by simp [go_sem]) hb1
  have hn1 : w1.cell? ⟨w.heap.size, 1, none⟩ = some (.int .i64 t) := cell_old (by simp [go_sem]) hb1
  have hn2 : w1.cell? ⟨w.heap.size, 2, none⟩ = some (.int .i64 z) := cell_old (by simp [go_sem]) hb1
  have hn3 : w1.cell? ⟨w.heap.size, 3, none⟩ = some (.bool nl) := cell_old (by simp [go_sem]) hb1
  have hv0 : w1.cell? ⟨w.heap.size + 1, 0, none⟩ = some (.int .i64 k) := cell_old (by simp [go_sem]) hb1
  have hv1 : w1.cell? ⟨w.heap.size + 1, 1, none⟩ = some (.int .i64 i) := cell_old (by simp [go_sem]) hb1
  have hv2 : w1.cell? ⟨w.heap.size + 1, 2, none⟩ = some (.int .u64 u) := cell_old (by simp [go_sem]) hb1
  have hv3 : w1.cell? ⟨w.heap.size + 1, 3, none⟩ = some (.string s) := cell_old (by simp [go_sem]) hb1
  have hL : (Instr.lookup 114 (.map (some r)) (.int .i64 t) false).run Tryz.prog w1 = .ok (tv t f b) w1 := types_got (heap_keep hM.out hb1) hfd
  simp only [tv] at hL
  clear hM
  clear h hC
  go_wp2_with (go_at_call 88; refine (Of_any _ _ _).mono ?_; rintro e w' ⟨rfl, rfl⟩)
  go_ret
  exact ⟨_, rfl, by have := hb0.size; simp; omega, by simp [go_sem], hb0.trans ((show Below w1.heap.size w1 _ from by go_grown).mono hb0.size)⟩
set_option maxRecDepth 100000 in
set_option maxHeartbeats 2000000 in
theorem fit1_in (n : ByteArray) (z : Int) (nl : Bool) (i u : Int) (s : ByteArray) (r : Nat) (w : World) (hm : w.heap[r]? = some (.map mapTypes 4)) (hg : HasET w) (h : chk 1 i u s = 0) (hz : numSz z = true) (hB : (decide (leastI z ≤ i) && decide (i ≤ mostI z)) = true) :
    Calls Tryz.prog 89 #[.map (some r), .agg #[.string n, .int .i64 1, .int .i64 z, .bool nl], .agg #[.int .i64 1, .int .i64 i, .int .u64 u, .string s]] w fun e w' => e = .returned .nilIface ∧ Below w.heap.size w w' := by
  have HB := Lib.hid hB
  clear hB
  have hC := Lib.hid (Check_any 1 i u s ((w.alloc (.cells #[.string n, .int .i64 1, .int .i64 z, .bool nl] 64)).alloc (.cells #[.int .i64 1, .int .i64 i, .int .u64 u, .string s] 68)) ((hg.below ((Below.refl _ _).alloc (Nat.le_refl _) _) hg.lt).below ((Below.refl _ _).alloc (Nat.le_refl _) _) (by have := hg.lt; first | (simp; done) | (simp; omega))))
  have hM : Hid (((w.alloc (.cells #[.string n, .int .i64 1, .int .i64 z, .bool nl] 64)).alloc (.cells #[.int .i64 1, .int .i64 i, .int .u64 u, .string s] 68)).heap[r]? = some (.map mapTypes 4)) := Lib.hid (heap_old (heap_old hm _) _)
  clear hm hg
  go_enter Tryz.func89, Tryz.ntmps89
  go_wp2_with (go_at_call 88; refine (Of_any _ _ _).mono ?_; rintro e w' ⟨rfl, rfl⟩)
  refine hC.out.mono ?_
  rintro e w1 ⟨rfl, hb1⟩
  rw [h]
  have hb0 : Below w.heap.size w w1 := (((Below.refl _ _).alloc (Nat.le_refl _) _).alloc (by simp) _).trans (hb1.mono (by simp; omega))
  have hz1 : w.heap.size + 1 < w1.heap.size := by have := hb1.size; simp at this; omega
  have hz0 : w.heap.size < w1.heap.size := by omega
  have hn0 : w1.cell? ⟨w.heap.size, 0, none⟩ = some (.string n) := cell_old (by simp [go_sem]) hb1
  have hn1 : w1.cell? ⟨w.heap.size, 1, none⟩ = some (.int .i64 1) := cell_old (by simp [go_sem]) hb1
  have hn2 : w1.cell? ⟨w.heap.size, 2, none⟩ = some (.int .i64 z) := cell_old (by simp [go_sem]) hb1
  have hn3 : w1.cell? ⟨w.heap.size, 3, none⟩ = some (.bool nl) := cell_old (by simp [go_sem]) hb1
  have hv0 : w1.cell? ⟨w.heap.size + 1, 0, none⟩ = some (.int .i64 1) := cell_old (by simp [go_sem]) hb1
  have hv1 : w1.cell? ⟨w.heap.size + 1, 1, none⟩ = some (.int .i64 i) := cell_old (by simp [go_sem]) hb1
  have hv2 : w1.cell? ⟨w.heap.size + 1, 2, none⟩ = some (.int .u64 u) := cell_old (by simp [go_sem]) hb1
  have hv3 : w1.cell? ⟨w.heap.size + 1, 3, none⟩ = some (.string s) := cell_old (by simp [go_sem]) hb1
  have hL : (Instr.lookup 114 (.map (some r)) (.int .i64 1) false).run Tryz.prog w1 = .ok (tv 1 125 126) w1 := types_got (heap_keep hM.out hb1) rfl
  simp only [tv] at hL
  clear hM
  clear h hC
  go_wp2_with (go_at_call 88; refine (Of_any _ _ _).mono ?_; rintro e w' ⟨rfl, rfl⟩)
  go_region_held3 (fun w' => w'.cell? ⟨w.heap.size, 2, none⟩ = some (.int .i64 z) ∧ w'.cell? ⟨w.heap.size + 1, 0, none⟩ = some (.int .i64 1) ∧ w'.cell? ⟨w.heap.size + 1, 1, none⟩ = some (.int .i64 i) ∧ w'.cell? ⟨w.heap.size + 1, 2, none⟩ = some (.int .u64 u) ∧ w'.cell? ⟨w.heap.size + 1, 3, none⟩ = some (.string s) ∧ w'.cell? ⟨w1.heap.size, 2, none⟩ = some (.func (.func 126) #[] #[])) (refine ⟨?_, ?_, ?_, ?_, ?_, ?_⟩ <;> (first | assumption | (simp [go_sem]; done) | (refine cell_old ?_ hb4; first | assumption | (simp [go_sem]; done) | (refine cell_old (by assumption) ?_; go_grown)) | (refine cell_old (by assumption) ?_; go_grown)))
    (first | (go_at_call 88; refine (Of_any _ _ _).mono ?_; rintro e w' ⟨rfl, rfl⟩) | (go_at_call 126; refine (signed_any _ _ hz).mono ?_; rintro e w3 ⟨rfl, rfl⟩) | (go_at_call 153; refine (signed1_any _ _ _ _ _ _ (leastI z) (mostI z) _ ?_ ?_).mono ?_; exact cellN1 _ _ _ _ _ 0; exact cellN2 _ _ _ _ _ 0; rintro e w4 ⟨he, hb4⟩; rw [HB.out] at he; subst he))
  all_goals (have hb5 : Below w.heap.size w w4 := hb0.trans (((show Below w1.heap.size w1 _ from by go_grown).trans (hb4.mono (by simp [Nat.add_assoc]))).mono hb0.size))
  all_goals go_wp2_with (go_at_call 88; refine (Of_any _ _ _).mono ?_; rintro e w' ⟨rfl, rfl⟩)
  all_goals go_ret
  all_goals exact ⟨rfl, hb5⟩
set_option maxRecDepth 100000 in
set_option maxHeartbeats 2000000 in
theorem fit1_out (n : ByteArray) (z : Int) (nl : Bool) (i u : Int) (s : ByteArray) (r : Nat) (w : World) (hm : w.heap[r]? = some (.map mapTypes 4)) (hg : HasET w) (h : chk 1 i u s = 0) (hz : numSz z = true) (hB : (decide (leastI z ≤ i) && decide (i ≤ mostI z)) = false) :
    Calls Tryz.prog 89 #[.map (some r), .agg #[.string n, .int .i64 1, .int .i64 z, .bool nl], .agg #[.int .i64 1, .int .i64 i, .int .u64 u, .string s]] w (IsMis 133 w) := by
  have HB := Lib.hid hB
  clear hB
  have hC := Lib.hid (Check_any 1 i u s ((w.alloc (.cells #[.string n, .int .i64 1, .int .i64 z, .bool nl] 64)).alloc (.cells #[.int .i64 1, .int .i64 i, .int .u64 u, .string s] 68)) ((hg.below ((Below.refl _ _).alloc (Nat.le_refl _) _) hg.lt).below ((Below.refl _ _).alloc (Nat.le_refl _) _) (by have := hg.lt; first | (simp; done) | (simp; omega))))
  have hM : Hid (((w.alloc (.cells #[.string n, .int .i64 1, .int .i64 z, .bool nl] 64)).alloc (.cells #[.int .i64 1, .int .i64 i, .int .u64 u, .string s] 68)).heap[r]? = some (.map mapTypes 4)) := Lib.hid (heap_old (heap_old hm _) _)
  clear hm hg
  go_enter Tryz.func89, Tryz.ntmps89
  go_wp2_with (go_at_call 88; refine (Of_any _ _ _).mono ?_; rintro e w' ⟨rfl, rfl⟩)
  refine hC.out.mono ?_
  rintro e w1 ⟨rfl, hb1⟩
  rw [h]
  have hb0 : Below w.heap.size w w1 := (((Below.refl _ _).alloc (Nat.le_refl _) _).alloc (by simp) _).trans (hb1.mono (by simp; omega))
  have hz1 : w.heap.size + 1 < w1.heap.size := by have := hb1.size; simp at this; omega
  have hz0 : w.heap.size < w1.heap.size := by omega
  have hn0 : w1.cell? ⟨w.heap.size, 0, none⟩ = some (.string n) := cell_old (by simp [go_sem]) hb1
  have hn1 : w1.cell? ⟨w.heap.size, 1, none⟩ = some (.int .i64 1) := cell_old (by simp [go_sem]) hb1
  have hn2 : w1.cell? ⟨w.heap.size, 2, none⟩ = some (.int .i64 z) := cell_old (by simp [go_sem]) hb1
  have hn3 : w1.cell? ⟨w.heap.size, 3, none⟩ = some (.bool nl) := cell_old (by simp [go_sem]) hb1
  have hv0 : w1.cell? ⟨w.heap.size + 1, 0, none⟩ = some (.int .i64 1) := cell_old (by simp [go_sem]) hb1
  have hv1 : w1.cell? ⟨w.heap.size + 1, 1, none⟩ = some (.int .i64 i) := cell_old (by simp [go_sem]) hb1
  have hv2 : w1.cell? ⟨w.heap.size + 1, 2, none⟩ = some (.int .u64 u) := cell_old (by simp [go_sem]) hb1
  have hv3 : w1.cell? ⟨w.heap.size + 1, 3, none⟩ = some (.string s) := cell_old (by simp [go_sem]) hb1
  have hL : (Instr.lookup 114 (.map (some r)) (.int .i64 1) false).run Tryz.prog w1 = .ok (tv 1 125 126) w1 := types_got (heap_keep hM.out hb1) rfl
  simp only [tv] at hL
  clear hM
  clear h hC
  go_wp2_with (go_at_call 88; refine (Of_any _ _ _).mono ?_; rintro e w' ⟨rfl, rfl⟩)
  go_region_held3 (fun w' => w'.cell? ⟨w.heap.size, 2, none⟩ = some (.int .i64 z) ∧ w'.cell? ⟨w.heap.size + 1, 0, none⟩ = some (.int .i64 1) ∧ w'.cell? ⟨w.heap.size + 1, 1, none⟩ = some (.int .i64 i) ∧ w'.cell? ⟨w.heap.size + 1, 2, none⟩ = some (.int .u64 u) ∧ w'.cell? ⟨w.heap.size + 1, 3, none⟩ = some (.string s) ∧ w'.cell? ⟨w1.heap.size, 2, none⟩ = some (.func (.func 126) #[] #[])) (refine ⟨?_, ?_, ?_, ?_, ?_, ?_⟩ <;> (first | assumption | (simp [go_sem]; done) | (refine cell_old ?_ hb4; first | assumption | (simp [go_sem]; done) | (refine cell_old (by assumption) ?_; go_grown)) | (refine cell_old (by assumption) ?_; go_grown)))
    (first | (go_at_call 88; refine (Of_any _ _ _).mono ?_; rintro e w' ⟨rfl, rfl⟩) | (go_at_call 126; refine (signed_any _ _ hz).mono ?_; rintro e w3 ⟨rfl, rfl⟩) | (go_at_call 153; refine (signed1_any _ _ _ _ _ _ (leastI z) (mostI z) _ ?_ ?_).mono ?_; exact cellN1 _ _ _ _ _ 0; exact cellN2 _ _ _ _ _ 0; rintro e w4 ⟨he, hb4⟩; rw [HB.out] at he; subst he))
  all_goals (have hb5 : Below w.heap.size w w4 := hb0.trans (((show Below w1.heap.size w1 _ from by go_grown).trans (hb4.mono (by simp [Nat.add_assoc]))).mono hb0.size))
  all_goals go_wp2_with (go_at_call 88; refine (Of_any _ _ _).mono ?_; rintro e w' ⟨rfl, rfl⟩)
  all_goals go_ret
  all_goals exact ⟨_, rfl, by have := hb5.size; simp; omega, by simp [go_sem], hb5.trans ((show Below w4.heap.size w4 _ from by go_grown).mono hb5.size)⟩
set_option maxRecDepth 100000 in
set_option maxHeartbeats 2000000 in
theorem fit2_in (n : ByteArray) (z : Int) (nl : Bool) (i u : Int) (s : ByteArray) (r : Nat) (w : World) (hm : w.heap[r]? = some (.map mapTypes 4)) (hg : HasET w) (h : chk 2 i u s = 0) (hz : numSz z = true) (hB : decide (u ≤ mostU z) = true) :
    Calls Tryz.prog 89 #[.map (some r), .agg #[.string n, .int .i64 2, .int .i64 z, .bool nl], .agg #[.int .i64 2, .int .i64 i, .int .u64 u, .string s]] w fun e w' => e = .returned .nilIface ∧ Below w.heap.size w w' := by
  have HB := Lib.hid hB
  clear hB
  have hC := Lib.hid (Check_any 2 i u s ((w.alloc (.cells #[.string n, .int .i64 2, .int .i64 z, .bool nl] 64)).alloc (.cells #[.int .i64 2, .int .i64 i, .int .u64 u, .string s] 68)) ((hg.below ((Below.refl _ _).alloc (Nat.le_refl _) _) hg.lt).below ((Below.refl _ _).alloc (Nat.le_refl _) _) (by have := hg.lt; first | (simp; done) | (simp; omega))))
  have hM : Hid (((w.alloc (.cells #[.string n, .int .i64 2, .int .i64 z, .bool nl] 64)).alloc (.cells #[.int .i64 2, .int .i64 i, .int .u64 u, .string s] 68)).heap[r]? = some (.map mapTypes 4)) := Lib.hid (heap_old (heap_old hm _) _)
  clear hm hg
  go_enter Tryz.func89, Tryz.ntmps89
  go_wp2_with (go_at_call 88; refine (Of_any _ _ _).mono ?_; rintro e w' ⟨rfl, rfl⟩)
  refine hC.out.mono ?_
  rintro e w1 ⟨rfl, hb1⟩
  rw [h]
  have hb0 : Below w.heap.size w w1 := (((Below.refl _ _).alloc (Nat.le_refl _) _).alloc (by simp) _).trans (hb1.mono (by simp; omega))
  have hz1 : w.heap.size + 1 < w1.heap.size := by have := hb1.size; simp at this; omega
  have hz0 : w.heap.size < w1.heap.size := by omega
  have hn0 : w1.cell? ⟨w.heap.size, 0, none⟩ = some (.string n) := cell_old (by simp [go_sem]) hb1
  have hn1 : w1.cell? ⟨w.heap.size, 1, none⟩ = some (.int .i64 2) := cell_old (by simp [go_sem]) hb1
  have hn2 : w1.cell? ⟨w.heap.size, 2, none⟩ = some (.int .i64 z) := cell_old (by simp [go_sem]) hb1
  have hn3 : w1.cell? ⟨w.heap.size, 3, none⟩ = some (.bool nl) := cell_old (by simp [go_sem]) hb1
  have hv0 : w1.cell? ⟨w.heap.size + 1, 0, none⟩ = some (.int .i64 2) := cell_old (by simp [go_sem]) hb1
  have hv1 : w1.cell? ⟨w.heap.size + 1, 1, none⟩ = some (.int .i64 i) := cell_old (by simp [go_sem]) hb1
  have hv2 : w1.cell? ⟨w.heap.size + 1, 2, none⟩ = some (.int .u64 u) := cell_old (by simp [go_sem]) hb1
  have hv3 : w1.cell? ⟨w.heap.size + 1, 3, none⟩ = some (.string s) := cell_old (by simp [go_sem]) hb1
  have hL : (Instr.lookup 114 (.map (some r)) (.int .i64 2) false).run Tryz.prog w1 = .ok (tv 2 125 127) w1 := types_got (heap_keep hM.out hb1) rfl
  simp only [tv] at hL
  clear hM
  clear h hC
  go_wp2_with (go_at_call 88; refine (Of_any _ _ _).mono ?_; rintro e w' ⟨rfl, rfl⟩)
  go_region_held3 (fun w' => w'.cell? ⟨w.heap.size, 2, none⟩ = some (.int .i64 z) ∧ w'.cell? ⟨w.heap.size + 1, 0, none⟩ = some (.int .i64 2) ∧ w'.cell? ⟨w.heap.size + 1, 1, none⟩ = some (.int .i64 i) ∧ w'.cell? ⟨w.heap.size + 1, 2, none⟩ = some (.int .u64 u) ∧ w'.cell? ⟨w.heap.size + 1, 3, none⟩ = some (.string s) ∧ w'.cell? ⟨w1.heap.size, 2, none⟩ = some (.func (.func 127) #[] #[])) (refine ⟨?_, ?_, ?_, ?_, ?_, ?_⟩ <;> (first | assumption | (simp [go_sem]; done) | (refine cell_old ?_ hb4; first | assumption | (simp [go_sem]; done) | (refine cell_old (by assumption) ?_; go_grown)) | (refine cell_old (by assumption) ?_; go_grown)))
    (first | (go_at_call 88; refine (Of_any _ _ _).mono ?_; rintro e w' ⟨rfl, rfl⟩) | (go_at_call 127; refine (unsigned_any _ _ hz).mono ?_; rintro e w3 ⟨rfl, rfl⟩) | (go_at_call 154; refine (unsigned1_any _ _ _ _ _ (mostU z) _ ?_).mono ?_; exact cellN3 _ _ _ _ 0; rintro e w4 ⟨he, hb4⟩; rw [HB.out] at he; subst he))
  all_goals (have hb5 : Below w.heap.size w w4 := hb0.trans (((show Below w1.heap.size w1 _ from by go_grown).trans (hb4.mono (by simp [Nat.add_assoc]))).mono hb0.size))
  all_goals go_wp2_with (go_at_call 88; refine (Of_any _ _ _).mono ?_; rintro e w' ⟨rfl, rfl⟩)
  all_goals go_ret
  all_goals exact ⟨rfl, hb5⟩
set_option maxRecDepth 100000 in
set_option maxHeartbeats 2000000 in
theorem fit2_out (n : ByteArray) (z : Int) (nl : Bool) (i u : Int) (s : ByteArray) (r : Nat) (w : World) (hm : w.heap[r]? = some (.map mapTypes 4)) (hg : HasET w) (h : chk 2 i u s = 0) (hz : numSz z = true) (hB : decide (u ≤ mostU z) = false) :
    Calls Tryz.prog 89 #[.map (some r), .agg #[.string n, .int .i64 2, .int .i64 z, .bool nl], .agg #[.int .i64 2, .int .i64 i, .int .u64 u, .string s]] w (IsMis 133 w) := by
  have HB := Lib.hid hB
  clear hB
  have hC := Lib.hid (Check_any 2 i u s ((w.alloc (.cells #[.string n, .int .i64 2, .int .i64 z, .bool nl] 64)).alloc (.cells #[.int .i64 2, .int .i64 i, .int .u64 u, .string s] 68)) ((hg.below ((Below.refl _ _).alloc (Nat.le_refl _) _) hg.lt).below ((Below.refl _ _).alloc (Nat.le_refl _) _) (by have := hg.lt; first | (simp; done) | (simp; omega))))
  have hM : Hid (((w.alloc (.cells #[.string n, .int .i64 2, .int .i64 z, .bool nl] 64)).alloc (.cells #[.int .i64 2, .int .i64 i, .int .u64 u, .string s] 68)).heap[r]? = some (.map mapTypes 4)) := Lib.hid (heap_old (heap_old hm _) _)
  clear hm hg
  go_enter Tryz.func89, Tryz.ntmps89
  go_wp2_with (go_at_call 88; refine (Of_any _ _ _).mono ?_; rintro e w' ⟨rfl, rfl⟩)
  refine hC.out.mono ?_
  rintro e w1 ⟨rfl, hb1⟩
  rw [h]
  have hb0 : Below w.heap.size w w1 := (((Below.refl _ _).alloc (Nat.le_refl _) _).alloc (by simp) _).trans (hb1.mono (by simp; omega))
  have hz1 : w.heap.size + 1 < w1.heap.size := by have := hb1.size; simp at this; omega
  have hz0 : w.heap.size < w1.heap.size := by omega
  have hn0 : w1.cell? ⟨w.heap.size, 0, none⟩ = some (.string n) := cell_old (by simp [go_sem]) hb1
  have hn1 : w1.cell? ⟨w.heap.size, 1, none⟩ = some (.int .i64 2) := cell_old (by simp [go_sem]) hb1
  have hn2 : w1.cell? ⟨w.heap.size, 2, none⟩ = some (.int .i64 z) := cell_old (by simp [go_sem]) hb1
  have hn3 : w1.cell? ⟨w.heap.size, 3, none⟩ = some (.bool nl) := cell_old (by simp [go_sem]) hb1
  have hv0 : w1.cell? ⟨w.heap.size + 1, 0, none⟩ = some (.int .i64 2) := cell_old (by simp [go_sem]) hb1
  have hv1 : w1.cell? ⟨w.heap.size + 1, 1, none⟩ = some (.int .i64 i) := cell_old (by simp [go_sem]) hb1
  have hv2 : w1.cell? ⟨w.heap.size + 1, 2, none⟩ = some (.int .u64 u) := cell_old (by simp [go_sem]) hb1
  have hv3 : w1.cell? ⟨w.heap.size + 1, 3, none⟩ = some (.string s) := cell_old (by simp [go_sem]) hb1
  have hL : (Instr.lookup 114 (.map (some r)) (.int .i64 2) false).run Tryz.prog w1 = .ok (tv 2 125 127) w1 := types_got (heap_keep hM.out hb1) rfl
  simp only [tv] at hL
  clear hM
  clear h hC
  go_wp2_with (go_at_call 88; refine (Of_any _ _ _).mono ?_; rintro e w' ⟨rfl, rfl⟩)
  go_region_held3 (fun w' => w'.cell? ⟨w.heap.size, 2, none⟩ = some (.int .i64 z) ∧ w'.cell? ⟨w.heap.size + 1, 0, none⟩ = some (.int .i64 2) ∧ w'.cell? ⟨w.heap.size + 1, 1, none⟩ = some (.int .i64 i) ∧ w'.cell? ⟨w.heap.size + 1, 2, none⟩ = some (.int .u64 u) ∧ w'.cell? ⟨w.heap.size + 1, 3, none⟩ = some (.string s) ∧ w'.cell? ⟨w1.heap.size, 2, none⟩ = some (.func (.func 127) #[] #[])) (refine ⟨?_, ?_, ?_, ?_, ?_, ?_⟩ <;> (first | assumption | (simp [go_sem]; done) | (refine cell_old ?_ hb4; first | assumption | (simp [go_sem]; done) | (refine cell_old (by assumption) ?_; go_grown)) | (refine cell_old (by assumption) ?_; go_grown)))
    (first | (go_at_call 88; refine (Of_any _ _ _).mono ?_; rintro e w' ⟨rfl, rfl⟩) | (go_at_call 127; refine (unsigned_any _ _ hz).mono ?_; rintro e w3 ⟨rfl, rfl⟩) | (go_at_call 154; refine (unsigned1_any _ _ _ _ _ (mostU z) _ ?_).mono ?_; exact cellN3 _ _ _ _ 0; rintro e w4 ⟨he, hb4⟩; rw [HB.out] at he; subst he))
  all_goals (have hb5 : Below w.heap.size w w4 := hb0.trans (((show Below w1.heap.size w1 _ from by go_grown).trans (hb4.mono (by simp [Nat.add_assoc]))).mono hb0.size))
  all_goals go_wp2_with (go_at_call 88; refine (Of_any _ _ _).mono ?_; rintro e w' ⟨rfl, rfl⟩)
  all_goals go_ret
  all_goals exact ⟨_, rfl, by have := hb5.size; simp; omega, by simp [go_sem], hb5.trans ((show Below w4.heap.size w4 _ from by go_grown).mono hb5.size)⟩
set_option maxRecDepth 100000 in
set_option maxHeartbeats 2000000 in
theorem fit3_in (n : ByteArray) (z : Int) (nl : Bool) (i u : Int) (s : ByteArray) (r : Nat) (w : World) (hm : w.heap[r]? = some (.map mapTypes 4)) (hg : HasET w) (h : chk 3 i u s = 0)  :
    Calls Tryz.prog 89 #[.map (some r), .agg #[.string n, .int .i64 3, .int .i64 z, .bool nl], .agg #[.int .i64 3, .int .i64 i, .int .u64 u, .string s]] w fun e w' => e = .returned .nilIface ∧ Below w.heap.size w w' := by
  have hC := Lib.hid (Check_any 3 i u s ((w.alloc (.cells #[.string n, .int .i64 3, .int .i64 z, .bool nl] 64)).alloc (.cells #[.int .i64 3, .int .i64 i, .int .u64 u, .string s] 68)) ((hg.below ((Below.refl _ _).alloc (Nat.le_refl _) _) hg.lt).below ((Below.refl _ _).alloc (Nat.le_refl _) _) (by have := hg.lt; first | (simp; done) | (simp; omega))))
  have hM : Hid (((w.alloc (.cells #[.string n, .int .i64 3, .int .i64 z, .bool nl] 64)).alloc (.cells #[.int .i64 3, .int .i64 i, .int .u64 u, .string s] 68)).heap[r]? = some (.map mapTypes 4)) := Lib.hid (heap_old (heap_old hm _) _)
  clear hm hg
  go_enter Tryz.func89, Tryz.ntmps89
  go_wp2_with (go_at_call 88; refine (Of_any _ _ _).mono ?_; rintro e w' ⟨rfl, rfl⟩)
  refine hC.out.mono ?_
  rintro e w1 ⟨rfl, hb1⟩
  rw [h]
  have hb0 : Below w.heap.size w w1 := (((Below.refl _ _).alloc (Nat.le_refl _) _).alloc (by simp) _).trans (hb1.mono (by simp; omega))
  have hz1 : w.heap.size + 1 < w1.heap.size := by have := hb1.size; simp at this; omega
  have hz0 : w.heap.size < w1.heap.size := by omega
  have hn0 : w1.cell? ⟨w.heap.size, 0, none⟩ = some (.string n) := cell_old (by simp [go_sem]) hb1
  have hn1 : w1.cell? ⟨w.heap.size, 1, none⟩ = some (.int .i64 3) := cell_old (by simp [go_sem]) hb1
  have hn2 : w1.cell? ⟨w.heap.size, 2, none⟩ = some (.int .i64 z) := cell_old (by simp [go_sem]) hb1
  have hn3 : w1.cell? ⟨w.heap.size, 3, none⟩ = some (.bool nl) := cell_old (by simp [go_sem]) hb1
  have hv0 : w1.cell? ⟨w.heap.size + 1, 0, none⟩ = some (.int .i64 3) := cell_old (by simp [go_sem]) hb1
  have hv1 : w1.cell? ⟨w.heap.size + 1, 1, none⟩ = some (.int .i64 i) := cell_old (by simp [go_sem]) hb1
  have hv2 : w1.cell? ⟨w.heap.size + 1, 2, none⟩ = some (.int .u64 u) := cell_old (by simp [go_sem]) hb1
  have hv3 : w1.cell? ⟨w.heap.size + 1, 3, none⟩ = some (.string s) := cell_old (by simp [go_sem]) hb1
  have hL : (Instr.lookup 114 (.map (some r)) (.int .i64 3) false).run Tryz.prog w1 = .ok (tv 3 128 129) w1 := types_got (heap_keep hM.out hb1) rfl
  simp only [tv] at hL
  clear hM
  clear h hC
  go_wp2_with (go_at_call 88; refine (Of_any _ _ _).mono ?_; rintro e w' ⟨rfl, rfl⟩)
  go_region_held3 (fun w' => w'.cell? ⟨w.heap.size, 2, none⟩ = some (.int .i64 z) ∧ w'.cell? ⟨w.heap.size + 1, 0, none⟩ = some (.int .i64 3) ∧ w'.cell? ⟨w.heap.size + 1, 1, none⟩ = some (.int .i64 i) ∧ w'.cell? ⟨w.heap.size + 1, 2, none⟩ = some (.int .u64 u) ∧ w'.cell? ⟨w.heap.size + 1, 3, none⟩ = some (.string s) ∧ w'.cell? ⟨w1.heap.size, 2, none⟩ = some (.func (.func 129) #[] #[])) (refine ⟨?_, ?_, ?_, ?_, ?_, ?_⟩ <;> (first | assumption | (simp [go_sem]; done) | (refine cell_old ?_ hb4; first | assumption | (simp [go_sem]; done) | (refine cell_old (by assumption) ?_; go_grown)) | (refine cell_old (by assumption) ?_; go_grown)))
    (first | (go_at_call 88; refine (Of_any _ _ _).mono ?_; rintro e w' ⟨rfl, rfl⟩) | (go_at_call 129; refine (anything_any _ _).mono ?_; rintro e w3 ⟨rfl, rfl⟩) | (go_at_call 155; refine (anything1_any _ _ _ _ _).mono ?_; rintro e w4 ⟨rfl, hb4⟩))
  all_goals (have hb5 : Below w.heap.size w w4 := hb0.trans (((show Below w1.heap.size w1 _ from by go_grown).trans (hb4.mono (by simp))).mono hb0.size))
  all_goals go_wp2_with (go_at_call 88; refine (Of_any _ _ _).mono ?_; rintro e w' ⟨rfl, rfl⟩)
  all_goals go_ret
  all_goals exact ⟨rfl, hb5⟩
set_option maxRecDepth 100000 in
set_option maxHeartbeats 2000000 in
theorem fit4_in (n : ByteArray) (z : Int) (nl : Bool) (i u : Int) (s : ByteArray) (r : Nat) (w : World) (hm : w.heap[r]? = some (.map mapTypes 4)) (hg : HasET w) (h : chk 4 i u s = 0) (hB : decide ((s.size : Int) ≤ z) = true) :
    Calls Tryz.prog 89 #[.map (some r), .agg #[.string n, .int .i64 4, .int .i64 z, .bool nl], .agg #[.int .i64 4, .int .i64 i, .int .u64 u, .string s]] w fun e w' => e = .returned .nilIface ∧ Below w.heap.size w w' := by
  have HB := Lib.hid hB
  clear hB
  have hC := Lib.hid (Check_any 4 i u s ((w.alloc (.cells #[.string n, .int .i64 4, .int .i64 z, .bool nl] 64)).alloc (.cells #[.int .i64 4, .int .i64 i, .int .u64 u, .string s] 68)) ((hg.below ((Below.refl _ _).alloc (Nat.le_refl _) _) hg.lt).below ((Below.refl _ _).alloc (Nat.le_refl _) _) (by have := hg.lt; first | (simp; done) | (simp; omega))))
  have hM : Hid (((w.alloc (.cells #[.string n, .int .i64 4, .int .i64 z, .bool nl] 64)).alloc (.cells #[.int .i64 4, .int .i64 i, .int .u64 u, .string s] 68)).heap[r]? = some (.map mapTypes 4)) := Lib.hid (heap_old (heap_old hm _) _)
  clear hm hg
  go_enter Tryz.func89, Tryz.ntmps89
  go_wp2_with (go_at_call 88; refine (Of_any _ _ _).mono ?_; rintro e w' ⟨rfl, rfl⟩)
  refine hC.out.mono ?_
  rintro e w1 ⟨rfl, hb1⟩
  rw [h]
  have hb0 : Below w.heap.size w w1 := (((Below.refl _ _).alloc (Nat.le_refl _) _).alloc (by simp) _).trans (hb1.mono (by simp; omega))
  have hz1 : w.heap.size + 1 < w1.heap.size := by have := hb1.size; simp at this; omega
  have hz0 : w.heap.size < w1.heap.size := by omega
  have hn0 : w1.cell? ⟨w.heap.size, 0, none⟩ = some (.string n) := cell_old (by simp [go_sem]) hb1
  have hn1 : w1.cell? ⟨w.heap.size, 1, none⟩ = some (.int .i64 4) := cell_old (by simp [go_sem]) hb1
  have hn2 : w1.cell? ⟨w.heap.size, 2, none⟩ = some (.int .i64 z) := cell_old (by simp [go_sem]) hb1
  have hn3 : w1.cell? ⟨w.heap.size, 3, none⟩ = some (.bool nl) := cell_old (by simp [go_sem]) hb1
  have hv0 : w1.cell? ⟨w.heap.size + 1, 0, none⟩ = some (.int .i64 4) := cell_old (by simp [go_sem]) hb1
  have hv1 : w1.cell? ⟨w.heap.size + 1, 1, none⟩ = some (.int .i64 i) := cell_old (by simp [go_sem]) hb1
  have hv2 : w1.cell? ⟨w.heap.size + 1, 2, none⟩ = some (.int .u64 u) := cell_old (by simp [go_sem]) hb1
  have hv3 : w1.cell? ⟨w.heap.size + 1, 3, none⟩ = some (.string s) := cell_old (by simp [go_sem]) hb1
  have hL : (Instr.lookup 114 (.map (some r)) (.int .i64 4) false).run Tryz.prog w1 = .ok (tv 4 130 131) w1 := types_got (heap_keep hM.out hb1) rfl
  simp only [tv] at hL
  clear hM
  clear h hC
  go_wp2_with (go_at_call 88; refine (Of_any _ _ _).mono ?_; rintro e w' ⟨rfl, rfl⟩)
  go_region_held3 (fun w' => w'.cell? ⟨w.heap.size, 2, none⟩ = some (.int .i64 z) ∧ w'.cell? ⟨w.heap.size + 1, 0, none⟩ = some (.int .i64 4) ∧ w'.cell? ⟨w.heap.size + 1, 1, none⟩ = some (.int .i64 i) ∧ w'.cell? ⟨w.heap.size + 1, 2, none⟩ = some (.int .u64 u) ∧ w'.cell? ⟨w.heap.size + 1, 3, none⟩ = some (.string s) ∧ w'.cell? ⟨w1.heap.size, 2, none⟩ = some (.func (.func 131) #[] #[])) (refine ⟨?_, ?_, ?_, ?_, ?_, ?_⟩ <;> (first | assumption | (simp [go_sem]; done) | (refine cell_old ?_ hb4; first | assumption | (simp [go_sem]; done) | (refine cell_old (by assumption) ?_; go_grown)) | (refine cell_old (by assumption) ?_; go_grown)))
    (first | (go_at_call 88; refine (Of_any _ _ _).mono ?_; rintro e w' ⟨rfl, rfl⟩) | (go_at_call 131; refine (short_any _ _).mono ?_; rintro e w3 ⟨rfl, rfl⟩) | (go_at_call 156; refine (short1_any _ _ _ _ _ z _ ?_).mono ?_; exact cellN3 _ _ _ _ 0; rintro e w4 ⟨he, hb4⟩; rw [HB.out] at he; subst he))
  all_goals (have hb5 : Below w.heap.size w w4 := hb0.trans (((show Below w1.heap.size w1 _ from by go_grown).trans (hb4.mono (by simp [Nat.add_assoc]))).mono hb0.size))
  all_goals go_wp2_with (go_at_call 88; refine (Of_any _ _ _).mono ?_; rintro e w' ⟨rfl, rfl⟩)
  all_goals go_ret
  all_goals exact ⟨rfl, hb5⟩
set_option maxRecDepth 100000 in
set_option maxHeartbeats 2000000 in
theorem fit4_out (n : ByteArray) (z : Int) (nl : Bool) (i u : Int) (s : ByteArray) (r : Nat) (w : World) (hm : w.heap[r]? = some (.map mapTypes 4)) (hg : HasET w) (h : chk 4 i u s = 0) (hB : decide ((s.size : Int) ≤ z) = false) :
    Calls Tryz.prog 89 #[.map (some r), .agg #[.string n, .int .i64 4, .int .i64 z, .bool nl], .agg #[.int .i64 4, .int .i64 i, .int .u64 u, .string s]] w (IsMis 133 w) := by
  have HB := Lib.hid hB
  clear hB
  have hC := Lib.hid (Check_any 4 i u s ((w.alloc (.cells #[.string n, .int .i64 4, .int .i64 z, .bool nl] 64)).alloc (.cells #[.int .i64 4, .int .i64 i, .int .u64 u, .string s] 68)) ((hg.below ((Below.refl _ _).alloc (Nat.le_refl _) _) hg.lt).below ((Below.refl _ _).alloc (Nat.le_refl _) _) (by have := hg.lt; first | (simp; done) | (simp; omega))))
  have hM : Hid (((w.alloc (.cells #[.string n, .int .i64 4, .int .i64 z, .bool nl] 64)).alloc (.cells #[.int .i64 4, .int .i64 i, .int .u64 u, .string s] 68)).heap[r]? = some (.map mapTypes 4)) := Lib.hid (heap_old (heap_old hm _) _)
  clear hm hg
  go_enter Tryz.func89, Tryz.ntmps89
  go_wp2_with (go_at_call 88; refine (Of_any _ _ _).mono ?_; rintro e w' ⟨rfl, rfl⟩)
  refine hC.out.mono ?_
  rintro e w1 ⟨rfl, hb1⟩
  rw [h]
  have hb0 : Below w.heap.size w w1 := (((Below.refl _ _).alloc (Nat.le_refl _) _).alloc (by simp) _).trans (hb1.mono (by simp; omega))
  have hz1 : w.heap.size + 1 < w1.heap.size := by have := hb1.size; simp at this; omega
  have hz0 : w.heap.size < w1.heap.size := by omega
  have hn0 : w1.cell? ⟨w.heap.size, 0, none⟩ = some (.string n) := cell_old (by simp [go_sem]) hb1
  have hn1 : w1.cell? ⟨w.heap.size, 1, none⟩ = some (.int .i64 4) := cell_old (by simp [go_sem]) hb1
  have hn2 : w1.cell? ⟨w.heap.size, 2, none⟩ = some (.int .i64 z) := cell_old (by simp [go_sem]) hb1
  have hn3 : w1.cell? ⟨w.heap.size, 3, none⟩ = some (.bool nl) := cell_old (by simp [go_sem]) hb1
  have hv0 : w1.cell? ⟨w.heap.size + 1, 0, none⟩ = some (.int .i64 4) := cell_old (by simp [go_sem]) hb1
  have hv1 : w1.cell? ⟨w.heap.size + 1, 1, none⟩ = some (.int .i64 i) := cell_old (by simp [go_sem]) hb1
  have hv2 : w1.cell? ⟨w.heap.size + 1, 2, none⟩ = some (.int .u64 u) := cell_old (by simp [go_sem]) hb1
  have hv3 : w1.cell? ⟨w.heap.size + 1, 3, none⟩ = some (.string s) := cell_old (by simp [go_sem]) hb1
  have hL : (Instr.lookup 114 (.map (some r)) (.int .i64 4) false).run Tryz.prog w1 = .ok (tv 4 130 131) w1 := types_got (heap_keep hM.out hb1) rfl
  simp only [tv] at hL
  clear hM
  clear h hC
  go_wp2_with (go_at_call 88; refine (Of_any _ _ _).mono ?_; rintro e w' ⟨rfl, rfl⟩)
  go_region_held3 (fun w' => w'.cell? ⟨w.heap.size, 2, none⟩ = some (.int .i64 z) ∧ w'.cell? ⟨w.heap.size + 1, 0, none⟩ = some (.int .i64 4) ∧ w'.cell? ⟨w.heap.size + 1, 1, none⟩ = some (.int .i64 i) ∧ w'.cell? ⟨w.heap.size + 1, 2, none⟩ = some (.int .u64 u) ∧ w'.cell? ⟨w.heap.size + 1, 3, none⟩ = some (.string s) ∧ w'.cell? ⟨w1.heap.size, 2, none⟩ = some (.func (.func 131) #[] #[])) (refine ⟨?_, ?_, ?_, ?_, ?_, ?_⟩ <;> (first | assumption | (simp [go_sem]; done) | (refine cell_old ?_ hb4; first | assumption | (simp [go_sem]; done) | (refine cell_old (by assumption) ?_; go_grown)) | (refine cell_old (by assumption) ?_; go_grown)))
    (first | (go_at_call 88; refine (Of_any _ _ _).mono ?_; rintro e w' ⟨rfl, rfl⟩) | (go_at_call 131; refine (short_any _ _).mono ?_; rintro e w3 ⟨rfl, rfl⟩) | (go_at_call 156; refine (short1_any _ _ _ _ _ z _ ?_).mono ?_; exact cellN3 _ _ _ _ 0; rintro e w4 ⟨he, hb4⟩; rw [HB.out] at he; subst he))
  all_goals (have hb5 : Below w.heap.size w w4 := hb0.trans (((show Below w1.heap.size w1 _ from by go_grown).trans (hb4.mono (by simp [Nat.add_assoc]))).mono hb0.size))
  all_goals go_wp2_with (go_at_call 88; refine (Of_any _ _ _).mono ?_; rintro e w' ⟨rfl, rfl⟩)
  all_goals go_ret
  all_goals exact ⟨_, rfl, by have := hb5.size; simp; omega, by simp [go_sem], hb5.trans ((show Below w4.heap.size w4 _ from by go_grown).mono hb5.size)⟩

theorem tv_get {t z : Int} (h : szOk t z = true) : ∃ f b j, Instr.findNow (.int .i64) (.int .i64 t) mapTypes.toList 0 = some (some (j, tv t f b)) := by
  rcases type_cases t with ht | rfl | rfl | rfl | rfl
  · rw [szOk_none ht] at h
    cases h
  · exact ⟨_, _, _, rfl⟩
  · exact ⟨_, _, _, rfl⟩
  · exact ⟨_, _, _, rfl⟩
  · exact ⟨_, _, _, rfl⟩
theorem fit_ok (c : Col) (v : Vl) (r : Nat) (w : World) (hm : w.heap[r]? = some (.map mapTypes 4)) (hg : HasET w) (hc : szOk c.t c.z = true) (h : fitN c v = 0) :
    Calls Tryz.prog 89 #[.map (some r), .agg #[.string c.n, .int .i64 c.t, .int .i64 c.z, .bool c.u], .agg #[.int .i64 v.k, .int .i64 v.i, .int .u64 v.u, .string v.s]] w fun e w' => e = .returned .nilIface ∧ Below w.heap.size w w' := by
  obtain ⟨n, t, z, nl⟩ := c
  obtain ⟨k, i, u, s⟩ := v
  unfold fitN Vl.chk at h
  simp only at h hc ⊢
  by_cases h0 : chk k i u s = 0
  · rw [if_neg (by simpa using h0)] at h
    by_cases hk : k = 0
    · rw [if_pos hk] at h
      cases nl
      · simp at h
      · obtain ⟨f, b, j, hfd⟩ := tv_get hc
        exact fit_null n t z true k i u s r w hm hg f b j hfd h0 hk rfl
    · rw [if_neg hk] at h
      by_cases ht : k = t
      · subst ht
        rw [if_neg (by simp)] at h
        rcases type_cases k with ht | rfl | rfl | rfl | rfl
        · rw [szOk_none ht] at hc
          cases hc
        · cases hb : bnd 1 z ⟨1, i, u, s⟩
          · rw [hb] at h; simp at h
          · exact fit1_in n z nl i u s r w hm hg h0 hc hb
        · cases hb : bnd 2 z ⟨2, i, u, s⟩
          · rw [hb] at h; simp at h
          · exact fit2_in n z nl i u s r w hm hg h0 hc hb
        · exact fit3_in n z nl i u s r w hm hg h0
        · cases hb : bnd 4 z ⟨4, i, u, s⟩
          · rw [hb] at h; simp at h
          · exact fit4_in n z nl i u s r w hm hg h0 hb
      · rw [if_pos ht] at h
        cases h
  · rw [if_pos h0] at h
    exact absurd h h0
theorem fit_bad (c : Col) (v : Vl) (r : Nat) (w : World) (hm : w.heap[r]? = some (.map mapTypes 4)) (hg : HasET w) (hc : szOk c.t c.z = true) (m : Int) (h : fitN c v = m) (hm0 : m ≠ 0) :
    Calls Tryz.prog 89 #[.map (some r), .agg #[.string c.n, .int .i64 c.t, .int .i64 c.z, .bool c.u], .agg #[.int .i64 v.k, .int .i64 v.i, .int .u64 v.u, .string v.s]] w (IsMis m w) := by
  obtain ⟨n, t, z, nl⟩ := c
  obtain ⟨k, i, u, s⟩ := v
  unfold fitN Vl.chk at h
  simp only at h hc ⊢
  by_cases h0 : chk k i u s = 0
  · rw [if_neg (by simpa using h0)] at h
    by_cases hk : k = 0
    · rw [if_pos hk] at h
      cases nl
      · obtain ⟨f, b, j, hfd⟩ := tv_get hc
        rw [if_neg (by simp)] at h
        subst h
        exact fit_nonull n t z false k i u s r w hm hg f b j hfd h0 hk rfl
      · exact absurd (by simpa using h.symm) hm0
    · rw [if_neg hk] at h
      by_cases ht : k = t
      · subst ht
        rw [if_neg (by simp)] at h
        rcases type_cases k with ht | rfl | rfl | rfl | rfl
        · rw [szOk_none ht] at hc
          cases hc
        · cases hb : bnd 1 z ⟨1, i, u, s⟩
          · rw [hb, if_neg (by simp)] at h
            subst h
            exact fit1_out n z nl i u s r w hm hg h0 hc hb
          · rw [hb, if_pos rfl] at h; exact absurd h.symm hm0
        · cases hb : bnd 2 z ⟨2, i, u, s⟩
          · rw [hb, if_neg (by simp)] at h
            subst h
            exact fit2_out n z nl i u s r w hm hg h0 hc hb
          · rw [hb, if_pos rfl] at h; exact absurd h.symm hm0
        · rw [show bnd 3 z ⟨3, i, u, s⟩ = true from rfl, if_pos rfl] at h
          exact absurd h.symm hm0
        · cases hb : bnd 4 z ⟨4, i, u, s⟩
          · rw [hb, if_neg (by simp)] at h
            subst h
            exact fit4_out n z nl i u s r w hm hg h0 hb
          · rw [hb, if_pos rfl] at h; exact absurd h.symm hm0
      · rw [if_pos ht] at h
        subst h
        obtain ⟨f, b, j, hfd⟩ := tv_get hc
        exact fit_type n t z nl k i u s r w hm hg f b j hfd h0 (by simpa using hk) (by simpa using ht)
  · rw [if_pos h0] at h
    exact fit_chk n t z nl k i u s r w hm hg m h hm0
end Go.Proofs.YtocmjlnhcloccaaGreatDoor
