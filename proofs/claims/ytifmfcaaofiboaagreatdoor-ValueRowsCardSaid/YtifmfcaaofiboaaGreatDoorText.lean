/-
  value.text: a value's text.
-/
import Derived.Test.YtifmfcaaofiboaaGreatDoorCheck
import Derived.Test.YtifmfcaaofiboaaGreatDoorReadBytes
namespace Go.Proofs.YtifmfcaaofiboaaGreatDoor
open Go.RowKit

theorem field_tell (a b c : Nat) (W : World) : (Instr.field 89 (.agg #[.func (.func a) #[] #[], .func (.func b) #[] #[], .func (.func c) #[] #[]]) 1).run Tryz.prog W = .ok (.func (.func b) #[] #[]) W := by kernel_rfl
theorem field_read (a b c : Nat) (W : World) : (Instr.field 89 (.agg #[.func (.func a) #[] #[], .func (.func b) #[] #[], .func (.func c) #[] #[]]) 2).run Tryz.prog W = .ok (.func (.func c) #[] #[]) W := by kernel_rfl
theorem mapE (w : World) (M : Obj) : (w.alloc M).drew.heap[w.heap.size]? = some M := by
  show (w.alloc M).heap[w.heap.size]? = _
  exact heap_alloc_at _ _

set_option maxRecDepth 100000 in
set_option maxHeartbeats 1600000 in
theorem textNull (i u : Int) (s : ByteArray) (w : World) (h : chk 0 i u s = 0) :
    Calls Tryz.prog 37 #[.agg #[.int .i64 0, .int .i64 i, .int .u64 u, .string s]] w fun e w' => e = .returned (.tuple #[.string ⟨#[110, 117, 108, 108]⟩, .nilIface]) ∧ Below w.heap.size w w' := by
  have H := Lib.hid h
  clear h
  go_enter Tryz.func37, Tryz.ntmps37
  go_wp2_with (go_at_call 48; refine (Of_any _ _ _).mono ?_; rintro e w' ⟨rfl, rfl⟩)
  refine (check_zero _ _ _ _ _ H.out).mono ?_
  rintro e w1 ⟨rfl, hbw⟩
  obtain ⟨hc, hf, hsz⟩ := box_after hbw
  have c0 : w1.cell? ⟨w.heap.size, 0, none⟩ = some (.int .i64 0) := hc 0
  have c1 : w1.cell? ⟨w.heap.size, 1, none⟩ = some (.int .i64 i) := hc 1
  have c2 : w1.cell? ⟨w.heap.size, 2, none⟩ = some (.int .u64 u) := hc 2
  have c3 : w1.cell? ⟨w.heap.size, 3, none⟩ = some (.string s) := hc 3
  have hbw0 := below_box hbw
  clear hc hf hbw
  have hl : (Instr.lookup 91 (.map (some w1.heap.size)) (.int .i64 0) false).run Tryz.prog (w1.alloc (.map mapKinds 5)).drew = .ok (kv 67 68 69) _ := kinds_got (mapE w1 _) rfl
  simp only [kv] at hl
  have hfl := fun W => field_tell 67 68 69 W
  go_wp2_with (go_at_call 48; refine (Of_any _ _ _).mono ?_; rintro e w' ⟨rfl, rfl⟩)
  go_region_held3 (fun w' => w'.cell? ⟨w.heap.size, 0, none⟩ = some (.int .i64 0) ∧ w'.cell? ⟨w.heap.size, 1, none⟩ = some (.int .i64 i) ∧ w'.cell? ⟨w.heap.size, 2, none⟩ = some (.int .u64 u) ∧ w'.cell? ⟨w.heap.size, 3, none⟩ = some (.string s)) (first | (go_keep; done) | (simp [*, go_sem]; done) | (refine ⟨?_, ?_, ?_, ?_⟩ <;> (rw [hb3.cell (by simp; omega)]; first | assumption | (simp [*, go_sem]; done))))
    (first | (go_at_call 48; refine (Of_any _ _ _).mono ?_; rintro e w' ⟨rfl, rfl⟩) | (go_at_call 47; refine (kinds_any _).mono ?_; rintro e w' ⟨rfl, rfl⟩) | (go_at_call 68; refine (tellNull_any _ _ _ _ _).mono ?_; rintro e w3 ⟨rfl, hb3⟩))
  all_goals go_wp2_with (go_at_call 48; refine (Of_any _ _ _).mono ?_; rintro e w' ⟨rfl, rfl⟩)
  all_goals go_ret2
  all_goals exact ⟨rfl, hbw0.trans ((show Below w1.heap.size w1 _ from by go_grown).trans (hb3.mono (by simp; try omega)) |>.mono (by omega))⟩

set_option maxRecDepth 100000 in
set_option maxHeartbeats 1600000 in
theorem textInt (i u : Int) (s : ByteArray) (w : World) (h : chk 1 i u s = 0) (h0 : -9223372036854775808 ≤ i) (h1 : i ≤ 9223372036854775807) (ht : HasTab w) :
    Calls Tryz.prog 37 #[.agg #[.int .i64 1, .int .i64 i, .int .u64 u, .string s]] w fun e w' => e = .returned (.tuple #[.string ⟨(Lib.itoa i).toArray⟩, .nilIface]) ∧ Below w.heap.size w w' := by
  have H := Lib.hid h
  clear h
  have HB := Lib.hid (And.intro h0 h1)
  have hTl := ht.lt
  clear h0 h1
  go_enter Tryz.func37, Tryz.ntmps37
  go_wp2_with (go_at_call 48; refine (Of_any _ _ _).mono ?_; rintro e w' ⟨rfl, rfl⟩)
  refine (check_zero _ _ _ _ _ H.out).mono ?_
  rintro e w1 ⟨rfl, hbw⟩
  obtain ⟨hc, hf, hsz⟩ := box_after hbw
  have c0 : w1.cell? ⟨w.heap.size, 0, none⟩ = some (.int .i64 1) := hc 0
  have c1 : w1.cell? ⟨w.heap.size, 1, none⟩ = some (.int .i64 i) := hc 1
  have c2 : w1.cell? ⟨w.heap.size, 2, none⟩ = some (.int .u64 u) := hc 2
  have c3 : w1.cell? ⟨w.heap.size, 3, none⟩ = some (.string s) := hc 3
  have hbw0 := below_box hbw
  clear hc hf hbw
  have hT : ∀ W, Below w1.heap.size w1 W → HasTab W := fun W hW => (ht.below hbw0 hTl).below hW (by have := hbw0.size; omega)
  have HT := Lib.hid hT
  clear hT
  have hl : (Instr.lookup 91 (.map (some w1.heap.size)) (.int .i64 1) false).run Tryz.prog (w1.alloc (.map mapKinds 5)).drew = .ok (kv 70 71 72) _ := kinds_got (mapE w1 _) rfl
  simp only [kv] at hl
  have hfl := fun W => field_tell 70 71 72 W
  go_wp2_with (go_at_call 48; refine (Of_any _ _ _).mono ?_; rintro e w' ⟨rfl, rfl⟩)
  go_region_held3 (fun w' => w'.cell? ⟨w.heap.size, 0, none⟩ = some (.int .i64 1) ∧ w'.cell? ⟨w.heap.size, 1, none⟩ = some (.int .i64 i) ∧ w'.cell? ⟨w.heap.size, 2, none⟩ = some (.int .u64 u) ∧ w'.cell? ⟨w.heap.size, 3, none⟩ = some (.string s)) (first | (go_keep; done) | (simp [*, go_sem]; done) | (refine ⟨?_, ?_, ?_, ?_⟩ <;> (rw [hb3.cell (by simp; omega)]; first | assumption | (simp [*, go_sem]; done))))
    (first | (go_at_call 48; refine (Of_any _ _ _).mono ?_; rintro e w' ⟨rfl, rfl⟩) | (go_at_call 47; refine (kinds_any _).mono ?_; rintro e w' ⟨rfl, rfl⟩) | (go_at_call 71; refine (tellInt_any _ _ _ _ _ HB.out.1 HB.out.2 ?_).mono ?_; exact HT.out _ (by go_grown); rintro e w3 ⟨rfl, hb3⟩))
  all_goals go_wp2_with (go_at_call 48; refine (Of_any _ _ _).mono ?_; rintro e w' ⟨rfl, rfl⟩)
  all_goals go_ret2
  all_goals exact ⟨rfl, hbw0.trans ((show Below w1.heap.size w1 _ from by go_grown).trans (hb3.mono (by simp; try omega)) |>.mono (by omega))⟩

set_option maxRecDepth 100000 in
set_option maxHeartbeats 1600000 in
theorem textUint (i u : Int) (s : ByteArray) (w : World) (h : chk 2 i u s = 0) (h0 : 0 ≤ u) (h1 : u ≤ 18446744073709551615) (ht : HasTab w) :
    Calls Tryz.prog 37 #[.agg #[.int .i64 2, .int .i64 i, .int .u64 u, .string s]] w fun e w' => e = .returned (.tuple #[.string (⟨(Lib.decDigits u.toNat).toArray⟩ ++ ⟨#[117]⟩), .nilIface]) ∧ Below w.heap.size w w' := by
  have H := Lib.hid h
  clear h
  have HB := Lib.hid (And.intro h0 h1)
  have hTl := ht.lt
  clear h0 h1
  go_enter Tryz.func37, Tryz.ntmps37
  go_wp2_with (go_at_call 48; refine (Of_any _ _ _).mono ?_; rintro e w' ⟨rfl, rfl⟩)
  refine (check_zero _ _ _ _ _ H.out).mono ?_
  rintro e w1 ⟨rfl, hbw⟩
  obtain ⟨hc, hf, hsz⟩ := box_after hbw
  have c0 : w1.cell? ⟨w.heap.size, 0, none⟩ = some (.int .i64 2) := hc 0
  have c1 : w1.cell? ⟨w.heap.size, 1, none⟩ = some (.int .i64 i) := hc 1
  have c2 : w1.cell? ⟨w.heap.size, 2, none⟩ = some (.int .u64 u) := hc 2
  have c3 : w1.cell? ⟨w.heap.size, 3, none⟩ = some (.string s) := hc 3
  have hbw0 := below_box hbw
  clear hc hf hbw
  have hT : ∀ W, Below w1.heap.size w1 W → HasTab W := fun W hW => (ht.below hbw0 hTl).below hW (by have := hbw0.size; omega)
  have HT := Lib.hid hT
  clear hT
  have hl : (Instr.lookup 91 (.map (some w1.heap.size)) (.int .i64 2) false).run Tryz.prog (w1.alloc (.map mapKinds 5)).drew = .ok (kv 73 74 75) _ := kinds_got (mapE w1 _) rfl
  simp only [kv] at hl
  have hfl := fun W => field_tell 73 74 75 W
  go_wp2_with (go_at_call 48; refine (Of_any _ _ _).mono ?_; rintro e w' ⟨rfl, rfl⟩)
  go_region_held3 (fun w' => w'.cell? ⟨w.heap.size, 0, none⟩ = some (.int .i64 2) ∧ w'.cell? ⟨w.heap.size, 1, none⟩ = some (.int .i64 i) ∧ w'.cell? ⟨w.heap.size, 2, none⟩ = some (.int .u64 u) ∧ w'.cell? ⟨w.heap.size, 3, none⟩ = some (.string s)) (first | (go_keep; done) | (simp [*, go_sem]; done) | (refine ⟨?_, ?_, ?_, ?_⟩ <;> (rw [hb3.cell (by simp; omega)]; first | assumption | (simp [*, go_sem]; done))))
    (first | (go_at_call 48; refine (Of_any _ _ _).mono ?_; rintro e w' ⟨rfl, rfl⟩) | (go_at_call 47; refine (kinds_any _).mono ?_; rintro e w' ⟨rfl, rfl⟩) | (go_at_call 74; refine (tellUint_any _ _ _ _ _ HB.out.1 HB.out.2 ?_).mono ?_; exact HT.out _ (by go_grown); rintro e w3 ⟨rfl, hb3⟩))
  all_goals go_wp2_with (go_at_call 48; refine (Of_any _ _ _).mono ?_; rintro e w' ⟨rfl, rfl⟩)
  all_goals go_ret2
  all_goals exact ⟨rfl, hbw0.trans ((show Below w1.heap.size w1 _ from by go_grown).trans (hb3.mono (by simp; try omega)) |>.mono (by omega))⟩

set_option maxRecDepth 100000 in
set_option maxHeartbeats 1600000 in
theorem textBool0 (u : Int) (s : ByteArray) (w : World) (h : chk 3 0 u s = 0) :
    Calls Tryz.prog 37 #[.agg #[.int .i64 3, .int .i64 0, .int .u64 u, .string s]] w fun e w' => e = .returned (.tuple #[.string ⟨#[102, 97, 108, 115, 101]⟩, .nilIface]) ∧ Below w.heap.size w w' := by
  have H := Lib.hid h
  clear h
  go_enter Tryz.func37, Tryz.ntmps37
  go_wp2_with (go_at_call 48; refine (Of_any _ _ _).mono ?_; rintro e w' ⟨rfl, rfl⟩)
  refine (check_zero _ _ _ _ _ H.out).mono ?_
  rintro e w1 ⟨rfl, hbw⟩
  obtain ⟨hc, hf, hsz⟩ := box_after hbw
  have c0 : w1.cell? ⟨w.heap.size, 0, none⟩ = some (.int .i64 3) := hc 0
  have c1 : w1.cell? ⟨w.heap.size, 1, none⟩ = some (.int .i64 0) := hc 1
  have c2 : w1.cell? ⟨w.heap.size, 2, none⟩ = some (.int .u64 u) := hc 2
  have c3 : w1.cell? ⟨w.heap.size, 3, none⟩ = some (.string s) := hc 3
  have hbw0 := below_box hbw
  clear hc hf hbw
  have hl : (Instr.lookup 91 (.map (some w1.heap.size)) (.int .i64 3) false).run Tryz.prog (w1.alloc (.map mapKinds 5)).drew = .ok (kv 76 77 78) _ := kinds_got (mapE w1 _) rfl
  simp only [kv] at hl
  have hfl := fun W => field_tell 76 77 78 W
  go_wp2_with (go_at_call 48; refine (Of_any _ _ _).mono ?_; rintro e w' ⟨rfl, rfl⟩)
  go_region_held3 (fun w' => w'.cell? ⟨w.heap.size, 0, none⟩ = some (.int .i64 3) ∧ w'.cell? ⟨w.heap.size, 1, none⟩ = some (.int .i64 0) ∧ w'.cell? ⟨w.heap.size, 2, none⟩ = some (.int .u64 u) ∧ w'.cell? ⟨w.heap.size, 3, none⟩ = some (.string s)) (first | (go_keep; done) | (simp [*, go_sem]; done) | (refine ⟨?_, ?_, ?_, ?_⟩ <;> (rw [hb3.cell (by simp; omega)]; first | assumption | (simp [*, go_sem]; done))))
    (first | (go_at_call 48; refine (Of_any _ _ _).mono ?_; rintro e w' ⟨rfl, rfl⟩) | (go_at_call 47; refine (kinds_any _).mono ?_; rintro e w' ⟨rfl, rfl⟩) | (go_at_call 77; refine (tellBool_0 _ _ _ _).mono ?_; rintro e w3 ⟨rfl, hb3⟩))
  all_goals go_wp2_with (go_at_call 48; refine (Of_any _ _ _).mono ?_; rintro e w' ⟨rfl, rfl⟩)
  all_goals go_ret2
  all_goals exact ⟨rfl, hbw0.trans ((show Below w1.heap.size w1 _ from by go_grown).trans (hb3.mono (by simp; try omega)) |>.mono (by omega))⟩

set_option maxRecDepth 100000 in
set_option maxHeartbeats 1600000 in
theorem textBool1 (u : Int) (s : ByteArray) (w : World) (h : chk 3 1 u s = 0) :
    Calls Tryz.prog 37 #[.agg #[.int .i64 3, .int .i64 1, .int .u64 u, .string s]] w fun e w' => e = .returned (.tuple #[.string ⟨#[116, 114, 117, 101]⟩, .nilIface]) ∧ Below w.heap.size w w' := by
  have H := Lib.hid h
  clear h
  go_enter Tryz.func37, Tryz.ntmps37
  go_wp2_with (go_at_call 48; refine (Of_any _ _ _).mono ?_; rintro e w' ⟨rfl, rfl⟩)
  refine (check_zero _ _ _ _ _ H.out).mono ?_
  rintro e w1 ⟨rfl, hbw⟩
  obtain ⟨hc, hf, hsz⟩ := box_after hbw
  have c0 : w1.cell? ⟨w.heap.size, 0, none⟩ = some (.int .i64 3) := hc 0
  have c1 : w1.cell? ⟨w.heap.size, 1, none⟩ = some (.int .i64 1) := hc 1
  have c2 : w1.cell? ⟨w.heap.size, 2, none⟩ = some (.int .u64 u) := hc 2
  have c3 : w1.cell? ⟨w.heap.size, 3, none⟩ = some (.string s) := hc 3
  have hbw0 := below_box hbw
  clear hc hf hbw
  have hl : (Instr.lookup 91 (.map (some w1.heap.size)) (.int .i64 3) false).run Tryz.prog (w1.alloc (.map mapKinds 5)).drew = .ok (kv 76 77 78) _ := kinds_got (mapE w1 _) rfl
  simp only [kv] at hl
  have hfl := fun W => field_tell 76 77 78 W
  go_wp2_with (go_at_call 48; refine (Of_any _ _ _).mono ?_; rintro e w' ⟨rfl, rfl⟩)
  go_region_held3 (fun w' => w'.cell? ⟨w.heap.size, 0, none⟩ = some (.int .i64 3) ∧ w'.cell? ⟨w.heap.size, 1, none⟩ = some (.int .i64 1) ∧ w'.cell? ⟨w.heap.size, 2, none⟩ = some (.int .u64 u) ∧ w'.cell? ⟨w.heap.size, 3, none⟩ = some (.string s)) (first | (go_keep; done) | (simp [*, go_sem]; done) | (refine ⟨?_, ?_, ?_, ?_⟩ <;> (rw [hb3.cell (by simp; omega)]; first | assumption | (simp [*, go_sem]; done))))
    (first | (go_at_call 48; refine (Of_any _ _ _).mono ?_; rintro e w' ⟨rfl, rfl⟩) | (go_at_call 47; refine (kinds_any _).mono ?_; rintro e w' ⟨rfl, rfl⟩) | (go_at_call 77; refine (tellBool_1 _ _ _ _).mono ?_; rintro e w3 ⟨rfl, hb3⟩))
  all_goals go_wp2_with (go_at_call 48; refine (Of_any _ _ _).mono ?_; rintro e w' ⟨rfl, rfl⟩)
  all_goals go_ret2
  all_goals exact ⟨rfl, hbw0.trans ((show Below w1.heap.size w1 _ from by go_grown).trans (hb3.mono (by simp; try omega)) |>.mono (by omega))⟩

set_option maxRecDepth 100000 in
set_option maxHeartbeats 1600000 in
theorem textBytes (i u : Int) (s : ByteArray) (w : World) (h : chk 4 i u s = 0) (hz : s.size ≤ 300) :
    Calls Tryz.prog 37 #[.agg #[.int .i64 4, .int .i64 i, .int .u64 u, .string s]] w fun e w' => e = .returned (.tuple #[.string ⟨(txtBytes s.data.toList).toArray⟩, .nilIface]) ∧ Below w.heap.size w w' := by
  have H := Lib.hid h
  clear h
  have HB := Lib.hid hz
  clear hz
  go_enter Tryz.func37, Tryz.ntmps37
  go_wp2_with (go_at_call 48; refine (Of_any _ _ _).mono ?_; rintro e w' ⟨rfl, rfl⟩)
  refine (check_zero _ _ _ _ _ H.out).mono ?_
  rintro e w1 ⟨rfl, hbw⟩
  obtain ⟨hc, hf, hsz⟩ := box_after hbw
  have c0 : w1.cell? ⟨w.heap.size, 0, none⟩ = some (.int .i64 4) := hc 0
  have c1 : w1.cell? ⟨w.heap.size, 1, none⟩ = some (.int .i64 i) := hc 1
  have c2 : w1.cell? ⟨w.heap.size, 2, none⟩ = some (.int .u64 u) := hc 2
  have c3 : w1.cell? ⟨w.heap.size, 3, none⟩ = some (.string s) := hc 3
  have hbw0 := below_box hbw
  clear hc hf hbw
  have hl : (Instr.lookup 91 (.map (some w1.heap.size)) (.int .i64 4) false).run Tryz.prog (w1.alloc (.map mapKinds 5)).drew = .ok (kv 79 80 81) _ := kinds_got (mapE w1 _) rfl
  simp only [kv] at hl
  have hfl := fun W => field_tell 79 80 81 W
  go_wp2_with (go_at_call 48; refine (Of_any _ _ _).mono ?_; rintro e w' ⟨rfl, rfl⟩)
  go_region_held3 (fun w' => w'.cell? ⟨w.heap.size, 0, none⟩ = some (.int .i64 4) ∧ w'.cell? ⟨w.heap.size, 1, none⟩ = some (.int .i64 i) ∧ w'.cell? ⟨w.heap.size, 2, none⟩ = some (.int .u64 u) ∧ w'.cell? ⟨w.heap.size, 3, none⟩ = some (.string s)) (first | (go_keep; done) | (simp [*, go_sem]; done) | (refine ⟨?_, ?_, ?_, ?_⟩ <;> (rw [hb3.cell (by simp; omega)]; first | assumption | (simp [*, go_sem]; done))))
    (first | (go_at_call 48; refine (Of_any _ _ _).mono ?_; rintro e w' ⟨rfl, rfl⟩) | (go_at_call 47; refine (kinds_any _).mono ?_; rintro e w' ⟨rfl, rfl⟩) | (go_at_call 80; refine (tellBytes_any _ _ _ _ _ HB.out).mono ?_; rintro e w3 ⟨rfl, hb3⟩))
  all_goals go_wp2_with (go_at_call 48; refine (Of_any _ _ _).mono ?_; rintro e w' ⟨rfl, rfl⟩)
  all_goals go_ret2
  all_goals exact ⟨rfl, hbw0.trans ((show Below w1.heap.size w1 _ from by go_grown).trans (hb3.mono (by simp; try omega)) |>.mono (by omega))⟩
end Go.Proofs.YtifmfcaaofiboaaGreatDoor
