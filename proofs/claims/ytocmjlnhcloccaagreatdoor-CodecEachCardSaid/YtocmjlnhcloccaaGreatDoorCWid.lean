/-
  codec: Width; swingbridgeref04.Width.
-/
import Derived.Test.YtocmjlnhcloccaaGreatDoorCEnc
import Derived.Test.YtocmjlnhcloccaaGreatDoorSSch
namespace Go.Proofs.YtocmjlnhcloccaaGreatDoor
open Go.RowKit

theorem lo_take {cs : List Col} {k : Nat} {c : Col} (h : k < cs.length) (e : cs[k] = c) : rowLo (cs.take (k + 1)) = rowLo (cs.take k) + wLo c := by
  induction cs generalizing k with
  | nil => simp at h
  | cons d cs ih =>
    cases k with
    | zero => simp at e; subst e; simp [rowLo]
    | succ k =>
      have := ih (k := k) (by simpa using h) (by simpa using e)
      show wLo d + rowLo (cs.take (k + 1)) = (wLo d + rowLo (cs.take k)) + wLo c
      omega
theorem hi_take {cs : List Col} {k : Nat} {c : Col} (h : k < cs.length) (e : cs[k] = c) : rowHi (cs.take (k + 1)) = rowHi (cs.take k) + wHi c := by
  induction cs generalizing k with
  | nil => simp at h
  | cons d cs ih =>
    cases k with
    | zero => simp at e; subst e; simp [rowHi]
    | succ k =>
      have := ih (k := k) (by simpa using h) (by simpa using e)
      show wHi d + rowHi (cs.take (k + 1)) = (wHi d + rowHi (cs.take k)) + wHi c
      omega
theorem w_bd {c : Col} (h : szOk c.t c.z = true) : 0 ≤ wLo c ∧ wLo c ≤ 300 ∧ 0 ≤ wHi c ∧ wHi c ≤ 300 := by
  have := sz_bd h
  unfold wLo wHi
  refine ⟨?_, ?_, ?_, ?_⟩ <;> (repeat (first | omega | split))
theorem row_bd : ∀ (cs : List Col), (∀ c ∈ cs, szOk c.t c.z = true) → 0 ≤ rowLo cs ∧ rowLo cs ≤ 300 * cs.length ∧ 0 ≤ rowHi cs ∧ rowHi cs ≤ 300 * cs.length
  | [], _ => by simp [rowLo, rowHi]
  | c :: cs, h => by
    have ih := row_bd cs (fun c hc => h c (List.mem_cons_of_mem _ hc))
    have := w_bd (h c (List.mem_cons_self ..))
    simp only [rowLo, rowHi, List.length_cons]
    omega

/-- how many bytes a value has that is not null -/
def vLo (t z : Int) : Int := if t = 3 then 1 else if t = 4 then 1 else z
def vHi (t z : Int) : Int := if t = 3 then 1 else if t = 4 then 2 + z else z
theorem wLo_v (c : Col) : wLo c = 1 + (if c.u = true then 0 else vLo c.t c.z) := by
  unfold wLo vLo
  split
  · rfl
  · split
    · rfl
    · split <;> rfl
theorem wHi_v (c : Col) : wHi c = 1 + vHi c.t c.z := by
  unfold wHi vHi
  split
  · rfl
  · split <;> omega

theorem widthNumber_any (z : Int) (w : World) : Calls Tryz.prog 92 #[.int .i64 z] w fun e w' => e = .returned (.tuple #[.int .i64 z, .int .i64 z]) ∧ Below w.heap.size w w' := by
  go_enter Tryz.func92, Tryz.ntmps92
  go_wp2
  go_ret2
  exact ⟨rfl, Below.refl _ _⟩
theorem widthBool_any (z : Int) (w : World) : Calls Tryz.prog 97 #[.int .i64 z] w fun e w' => e = .returned (.tuple #[.int .i64 1, .int .i64 1]) ∧ Below w.heap.size w w' := by
  go_enter Tryz.func97, Tryz.ntmps97
  go_wp2
  go_ret2
  exact ⟨rfl, Below.refl _ _⟩
theorem textE (w : World) : Calls Tryz.prog 74 #[.string ⟨#[]⟩] w fun e w' => ∃ a c, e = .returned (.slice a 1 c) ∧ Below w.heap.size w w' :=
  (Text_any ⟨#[]⟩ w (by decide)).mono fun e w' ⟨v, he, h⟩ => by
    have hb := h.at.2
    obtain ⟨g, room, _, rfl, _, _⟩ := h
    exact ⟨_, _, he, hb⟩
theorem numZ (z : Int) (h0 : 1 ≤ z) (h1 : z ≤ 200) (w : World) : Calls Tryz.prog 110 #[.int .u64 z] w fun e w' => ∃ a c, e = .returned (.slice a 2 c) ∧ Below w.heap.size w w' := by
  obtain ⟨n, rfl⟩ := Int.eq_ofNat_of_zero_le (show 0 ≤ z by omega)
  refine (Number_any n w (by omega)).mono fun e w' ⟨v, he, h⟩ => ?_
  have hb := h.at.2
  have hl : (numB n).length = 2 := by
    rw [numB_length]
    have := size_small n (by omega)
    have := (sizeOf8_bd n (by omega) (by omega)).1
    omega
  obtain ⟨g, room, _, rfl, _, _⟩ := h
  rw [hl] at he
  exact ⟨_, _, he, hb⟩
set_option maxRecDepth 100000 in
set_option maxHeartbeats 1000000 in
theorem widthBytes_any (z : Int) (h0 : 1 ≤ z) (h1 : z ≤ 200) (w : World) : Calls Tryz.prog 100 #[.int .i64 z] w fun e w' => e = .returned (.tuple #[.int .i64 1, .int .i64 (2 + z)]) ∧ Below w.heap.size w w' := by
  go_enter Tryz.func100, Tryz.ntmps100
  go_wp2_with fail
  refine (textE _).mono ?_
  rintro e w1 ⟨a, c, rfl, hb1⟩
  have HB1 := Lib.hid hb1
  clear hb1
  go_wp2_with fail
  refine (numZ z h0 h1 _).mono ?_
  rintro e w2 ⟨a2, c2, rfl, hb2⟩
  have HB2 := Lib.hid (HB1.out.trans (hb2.mono HB1.out.size))
  clear hb2
  go_wp2_with fail
  go_ret2
  exact ⟨rfl, HB2.out⟩

set_option maxRecDepth 100000 in
set_option maxHeartbeats 4000000 in
theorem cwidth_any (oc : Option Addr) (cc r : Nat) (cs : List Col) (w : World) (hcl : cs.length ≤ 1000) (hC : ColsIn w oc cs) (hM : w.heap[r]? = some (.map mapCKinds 4)) (hz : ∀ c ∈ cs, szOk c.t c.z = true) :
    Calls Tryz.prog 33 #[.agg #[.slice oc cs.length cc, .map (some r)]] w fun e w' => e = .returned (.tuple #[.int .i64 (rowLo cs), .int .i64 (rowHi cs)]) ∧ Below w.heap.size w w' := by
  have HC := Lib.hid hC
  have HM := Lib.hid hM
  have HZ := Lib.hid hz
  clear hC hM hz
  go_enter Tryz.func33, Tryz.ntmps33
  go_wp2_with fail
  go_loopw [2, 3, 11] (fun a b v wr => ∃ (k : Nat) (x y : Int), k ≤ cs.length ∧ 0 ≤ x ∧ x ≤ 300 * k ∧ 0 ≤ y ∧ y ≤ 300 * k ∧ v = .int .i64 k ∧ a = .int .i64 x ∧ b = .int .i64 y ∧ Hid (x = rowLo (cs.take k)) ∧ Hid (y = rowHi (cs.take k)) ∧ Hid (wr.cell? ⟨w.heap.size, 1, none⟩ = some (.map (some r))) ∧ Hid (Below w.heap.size w wr)) (fun _ _ v _ => cs.length - (intOf v).toNat)
  case atStart => exact ⟨0, 0, 0, by omega, by omega, by omega, by omega, by omega, rfl, rfl, rfl, Lib.hid (by simp [rowLo]), Lib.hid (by simp [rowHi]), Lib.hid (by simp [go_sem]), Lib.hid (by go_grown)⟩
  case round =>
    obtain ⟨k, x, y, hk, x0, x1, y0, y1, rfl, rfl, rfl, HX, HY, HK, HB⟩ := hrel
    have k1 := HK.out
    have hlx : w.heap.size < wr.heap.size := World.block_lt_of_cell? wr _ k1
    by_cases hkl : k < cs.length
    · obtain ⟨c, hcc⟩ : ∃ c, cs[k] = c := ⟨_, rfl⟩
      obtain ⟨ac, rfl, hat⟩ := HC.out.keep HB.out (Nat.le_refl _) k hkl
      rw [hcc] at hat
      have hszc := HZ.out c (hcc ▸ List.getElem_mem hkl)
      have hwb := w_bd hszc
      have hbz := sz_bd hszc
      have HLO := Lib.hid (lo_take hkl hcc)
      have HHI := Lib.hid (hi_take hkl hcc)
      rw [wLo_v c, wHi_v c] at *
      have hal := hat.lt
      obtain ⟨c0, c1, c2, c3⟩ := hat
      have b0 : (0 : Int) ≤ (k : Int) := by omega
      have b1 : (k : Int) < (cs.length : Int) := by omega
      have hmp : (wr.alloc (.cells #[.string c.n, .int .i64 c.t, .int .i64 c.z, .bool c.u] 64)).heap[r]? = some (.map mapCKinds 4) := heap_keepB HM.out (HB.out.alloc HB.out.size _)
      clear hcc
      obtain ⟨cn, ct, cz, cu⟩ := c
      simp only at *
      rcases type_cases ct with ht | rfl | rfl | rfl | rfl
      · rw [szOk_none ht] at hszc; cases hszc
      · have hL : (Instr.lookup 70 (.map (some r)) (.int .i64 1) false).run Tryz.prog (wr.alloc (.cells #[.string cn, .int .i64 1, .int .i64 cz, .bool cu] 64)) = .ok (kv3 90 91 92) _ := ckinds_got hmp rfl
        have hF : ∀ W, (Instr.field 124 (kv3 90 91 92) 2).run Tryz.prog W = .ok (.func (.func 92) #[] #[]) W := fun _ => rfl
        simp only [kv3] at hL hF
        have e1 : vLo 1 cz = cz := by simp [vLo]
        have e2 : vHi 1 cz = cz := by simp [vHi]
        rw [e1] at HLO hwb
        rw [e2] at HHI hwb
        clear hmp e1 e2 hszc
        cases cu
        · simp at hwb
          go_wp2_with fail
          refine (widthNumber_any _ _).mono ?_
          rintro e w2 ⟨rfl, hb2⟩
          have HB2 := Lib.hid ((HB.out.alloc HB.out.size (.cells #[.string cn, .int .i64 1, .int .i64 cz, .bool false] 64)).trans (hb2.mono (by have := HB.out.size; simp; omega)))
          have d3 : w2.cell? ⟨wr.heap.size, 3, none⟩ = some (.bool false) := cell_old (by simp [go_sem]) hb2
          have HK2 := Lib.hid (show w2.cell? ⟨w.heap.size, 1, none⟩ = some (.map (some r)) from cell_old (by simp [go_sem, hlx, k1]) hb2)
          clear hb2 hL hF
          go_wp2_with fail
          go_roundw
          case rel => refine ⟨k + 1, _, _, by omega, ?_, ?_, ?_, ?_, by go_num, rfl, rfl, Lib.hid (by rw [HLO.out, ← HX.out]; simp), Lib.hid (by rw [HHI.out, ← HY.out]; try rfl), HK2, HB2⟩ <;> omega
          case measure => simp [intOf]; omega
        · simp at hwb
          go_wp2_with fail
          refine (widthNumber_any _ _).mono ?_
          rintro e w2 ⟨rfl, hb2⟩
          have HB2 := Lib.hid ((HB.out.alloc HB.out.size (.cells #[.string cn, .int .i64 1, .int .i64 cz, .bool true] 64)).trans (hb2.mono (by have := HB.out.size; simp; omega)))
          have d3 : w2.cell? ⟨wr.heap.size, 3, none⟩ = some (.bool true) := cell_old (by simp [go_sem]) hb2
          have HK2 := Lib.hid (show w2.cell? ⟨w.heap.size, 1, none⟩ = some (.map (some r)) from cell_old (by simp [go_sem, hlx, k1]) hb2)
          clear hb2 hL hF
          go_wp2_with fail
          go_roundw
          case rel => refine ⟨k + 1, _, _, by omega, ?_, ?_, ?_, ?_, by go_num, rfl, rfl, Lib.hid (by rw [HLO.out, ← HX.out]; simp), Lib.hid (by rw [HHI.out, ← HY.out]; try rfl), HK2, HB2⟩ <;> omega
          case measure => simp [intOf]; omega
      · have hL : (Instr.lookup 70 (.map (some r)) (.int .i64 2) false).run Tryz.prog (wr.alloc (.cells #[.string cn, .int .i64 2, .int .i64 cz, .bool cu] 64)) = .ok (kv3 93 94 92) _ := ckinds_got hmp rfl
        have hF : ∀ W, (Instr.field 124 (kv3 93 94 92) 2).run Tryz.prog W = .ok (.func (.func 92) #[] #[]) W := fun _ => rfl
        simp only [kv3] at hL hF
        have e1 : vLo 2 cz = cz := by simp [vLo]
        have e2 : vHi 2 cz = cz := by simp [vHi]
        rw [e1] at HLO hwb
        rw [e2] at HHI hwb
        clear hmp e1 e2 hszc
        cases cu
        · simp at hwb
          go_wp2_with fail
          refine (widthNumber_any _ _).mono ?_
          rintro e w2 ⟨rfl, hb2⟩
          have HB2 := Lib.hid ((HB.out.alloc HB.out.size (.cells #[.string cn, .int .i64 2, .int .i64 cz, .bool false] 64)).trans (hb2.mono (by have := HB.out.size; simp; omega)))
          have d3 : w2.cell? ⟨wr.heap.size, 3, none⟩ = some (.bool false) := cell_old (by simp [go_sem]) hb2
          have HK2 := Lib.hid (show w2.cell? ⟨w.heap.size, 1, none⟩ = some (.map (some r)) from cell_old (by simp [go_sem, hlx, k1]) hb2)
          clear hb2 hL hF
          go_wp2_with fail
          go_roundw
          case rel => refine ⟨k + 1, _, _, by omega, ?_, ?_, ?_, ?_, by go_num, rfl, rfl, Lib.hid (by rw [HLO.out, ← HX.out]; simp), Lib.hid (by rw [HHI.out, ← HY.out]; try rfl), HK2, HB2⟩ <;> omega
          case measure => simp [intOf]; omega
        · simp at hwb
          go_wp2_with fail
          refine (widthNumber_any _ _).mono ?_
          rintro e w2 ⟨rfl, hb2⟩
          have HB2 := Lib.hid ((HB.out.alloc HB.out.size (.cells #[.string cn, .int .i64 2, .int .i64 cz, .bool true] 64)).trans (hb2.mono (by have := HB.out.size; simp; omega)))
          have d3 : w2.cell? ⟨wr.heap.size, 3, none⟩ = some (.bool true) := cell_old (by simp [go_sem]) hb2
          have HK2 := Lib.hid (show w2.cell? ⟨w.heap.size, 1, none⟩ = some (.map (some r)) from cell_old (by simp [go_sem, hlx, k1]) hb2)
          clear hb2 hL hF
          go_wp2_with fail
          go_roundw
          case rel => refine ⟨k + 1, _, _, by omega, ?_, ?_, ?_, ?_, by go_num, rfl, rfl, Lib.hid (by rw [HLO.out, ← HX.out]; simp), Lib.hid (by rw [HHI.out, ← HY.out]; try rfl), HK2, HB2⟩ <;> omega
          case measure => simp [intOf]; omega
      · have hL : (Instr.lookup 70 (.map (some r)) (.int .i64 3) false).run Tryz.prog (wr.alloc (.cells #[.string cn, .int .i64 3, .int .i64 cz, .bool cu] 64)) = .ok (kv3 95 96 97) _ := ckinds_got hmp rfl
        have hF : ∀ W, (Instr.field 124 (kv3 95 96 97) 2).run Tryz.prog W = .ok (.func (.func 97) #[] #[]) W := fun _ => rfl
        simp only [kv3] at hL hF
        have e1 : vLo 3 cz = 1 := by simp [vLo]
        have e2 : vHi 3 cz = 1 := by simp [vHi]
        rw [e1] at HLO hwb
        rw [e2] at HHI hwb
        clear hmp e1 e2 hszc
        cases cu
        · simp at hwb
          go_wp2_with fail
          refine (widthBool_any _ _).mono ?_
          rintro e w2 ⟨rfl, hb2⟩
          have HB2 := Lib.hid ((HB.out.alloc HB.out.size (.cells #[.string cn, .int .i64 3, .int .i64 cz, .bool false] 64)).trans (hb2.mono (by have := HB.out.size; simp; omega)))
          have d3 : w2.cell? ⟨wr.heap.size, 3, none⟩ = some (.bool false) := cell_old (by simp [go_sem]) hb2
          have HK2 := Lib.hid (show w2.cell? ⟨w.heap.size, 1, none⟩ = some (.map (some r)) from cell_old (by simp [go_sem, hlx, k1]) hb2)
          clear hb2 hL hF
          go_wp2_with fail
          go_roundw
          case rel => refine ⟨k + 1, _, _, by omega, ?_, ?_, ?_, ?_, by go_num, rfl, rfl, Lib.hid (by rw [HLO.out, ← HX.out]; simp), Lib.hid (by rw [HHI.out, ← HY.out]; try rfl), HK2, HB2⟩ <;> omega
          case measure => simp [intOf]; omega
        · simp at hwb
          go_wp2_with fail
          refine (widthBool_any _ _).mono ?_
          rintro e w2 ⟨rfl, hb2⟩
          have HB2 := Lib.hid ((HB.out.alloc HB.out.size (.cells #[.string cn, .int .i64 3, .int .i64 cz, .bool true] 64)).trans (hb2.mono (by have := HB.out.size; simp; omega)))
          have d3 : w2.cell? ⟨wr.heap.size, 3, none⟩ = some (.bool true) := cell_old (by simp [go_sem]) hb2
          have HK2 := Lib.hid (show w2.cell? ⟨w.heap.size, 1, none⟩ = some (.map (some r)) from cell_old (by simp [go_sem, hlx, k1]) hb2)
          clear hb2 hL hF
          go_wp2_with fail
          go_roundw
          case rel => refine ⟨k + 1, _, _, by omega, ?_, ?_, ?_, ?_, by go_num, rfl, rfl, Lib.hid (by rw [HLO.out, ← HX.out]; simp), Lib.hid (by rw [HHI.out, ← HY.out]; try rfl), HK2, HB2⟩ <;> omega
          case measure => simp [intOf]; omega
      · have hL : (Instr.lookup 70 (.map (some r)) (.int .i64 4) false).run Tryz.prog (wr.alloc (.cells #[.string cn, .int .i64 4, .int .i64 cz, .bool cu] 64)) = .ok (kv3 98 99 100) _ := ckinds_got hmp rfl
        have hF : ∀ W, (Instr.field 124 (kv3 98 99 100) 2).run Tryz.prog W = .ok (.func (.func 100) #[] #[]) W := fun _ => rfl
        simp only [kv3] at hL hF
        have hb4 : 1 ≤ cz ∧ cz ≤ 200 := by
          have hb : byteSz cz = true := hszc
          unfold byteSz at hb
          rw [Bool.and_eq_true, decide_eq_true_eq, decide_eq_true_eq] at hb
          exact hb
        have e1 : vLo 4 cz = 1 := by simp [vLo]
        have e2 : vHi 4 cz = (2 + cz) := by simp [vHi]
        rw [e1] at HLO hwb
        rw [e2] at HHI hwb
        clear hmp e1 e2 hszc
        cases cu
        · simp at hwb
          go_wp2_with fail
          refine (widthBytes_any cz hb4.1 hb4.2 _).mono ?_
          rintro e w2 ⟨rfl, hb2⟩
          have HB2 := Lib.hid ((HB.out.alloc HB.out.size (.cells #[.string cn, .int .i64 4, .int .i64 cz, .bool false] 64)).trans (hb2.mono (by have := HB.out.size; simp; omega)))
          have d3 : w2.cell? ⟨wr.heap.size, 3, none⟩ = some (.bool false) := cell_old (by simp [go_sem]) hb2
          have HK2 := Lib.hid (show w2.cell? ⟨w.heap.size, 1, none⟩ = some (.map (some r)) from cell_old (by simp [go_sem, hlx, k1]) hb2)
          clear hb2 hL hF
          go_wp2_with fail
          go_roundw
          case rel => refine ⟨k + 1, _, _, by omega, ?_, ?_, ?_, ?_, by go_num, rfl, rfl, Lib.hid (by rw [HLO.out, ← HX.out]; simp), Lib.hid (by rw [HHI.out, ← HY.out]; try rfl), HK2, HB2⟩ <;> omega
          case measure => simp [intOf]; omega
        · simp at hwb
          go_wp2_with fail
          refine (widthBytes_any cz hb4.1 hb4.2 _).mono ?_
          rintro e w2 ⟨rfl, hb2⟩
          have HB2 := Lib.hid ((HB.out.alloc HB.out.size (.cells #[.string cn, .int .i64 4, .int .i64 cz, .bool true] 64)).trans (hb2.mono (by have := HB.out.size; simp; omega)))
          have d3 : w2.cell? ⟨wr.heap.size, 3, none⟩ = some (.bool true) := cell_old (by simp [go_sem]) hb2
          have HK2 := Lib.hid (show w2.cell? ⟨w.heap.size, 1, none⟩ = some (.map (some r)) from cell_old (by simp [go_sem, hlx, k1]) hb2)
          clear hb2 hL hF
          go_wp2_with fail
          go_roundw
          case rel => refine ⟨k + 1, _, _, by omega, ?_, ?_, ?_, ?_, by go_num, rfl, rfl, Lib.hid (by rw [HLO.out, ← HX.out]; simp), Lib.hid (by rw [HHI.out, ← HY.out]; try rfl), HK2, HB2⟩ <;> omega
          case measure => simp [intOf]; omega
    · obtain rfl : k = cs.length := by omega
      have HX2 := Lib.hid (show x = rowLo cs by rw [HX.out, List.take_of_length_le (Nat.le_refl _)])
      have HY2 := Lib.hid (show y = rowHi cs by rw [HY.out, List.take_of_length_le (Nat.le_refl _)])
      go_wp2_with fail
      go_ret2
      exact ⟨by rw [← HX2.out, ← HY2.out]; rfl, HB.out⟩

def widLo (S : Sch) : Int := if schOk S = true then rowLo S.cols else 0
def widHi (S : Sch) : Int := if schOk S = true then rowHi S.cols else 0
set_option maxRecDepth 100000 in
set_option maxHeartbeats 2000000 in
theorem Width_any (p : SchV) (S : Sch) (w : World) (hg : HasET w) (hnm : ∀ c ∈ S.cols, c.n.size ≤ 9223372036854775807) (hcl : S.cols.length ≤ 1000) (hul : S.uqs.length ≤ 6) (hS : SchIn w p S) :
    Calls Tryz.prog 13 #[.agg #[.slice p.oc S.cols.length p.cc, .slice p.ok S.key.length p.ck, .slice p.ou S.uqs.length p.cu]] w fun e w' => e = .returned (.tuple #[.int .i64 (widLo S), .int .i64 (widHi S), .int .i64 (schN S)]) ∧ Below w.heap.size w w' := by
  have HR := Lib.hid (fun W (hb : Below w.heap.size w W) => SCheck_any p S W (hg.below hb hg.lt) hnm hcl hul (hS.keep hb (Nat.le_refl _)))
  have HC := Lib.hid hS.cols
  clear hg hnm hul hS
  cases hok : schOk S
  · have hN : schN S = 2 := by unfold schN; rw [hok]; rfl
    rw [show widLo S = 0 by unfold widLo; rw [hok]; rfl, show widHi S = 0 by unfold widHi; rw [hok]; rfl, hN]
    rw [hN] at HR
    clear hok hN
    go_enter Tryz.func13, Tryz.ntmps13
    go_wp2_with fail
    refine (HR.out _ ((Below.refl _ _).alloc (Nat.le_refl _) _)).mono ?_
    rintro e w1 ⟨rfl, hb1⟩
    go_wp2_with fail
    go_ret3
    exact ⟨rfl, ((Below.refl _ _).alloc (Nat.le_refl _) _).trans (hb1.mono (by simp))⟩
  · have hN : schN S = 0 := by unfold schN; rw [if_pos hok]
    rw [show widLo S = rowLo S.cols by unfold widLo; rw [if_pos hok], show widHi S = rowHi S.cols by unfold widHi; rw [if_pos hok], hN]
    have HZ := Lib.hid (cols_sz hok)
    rw [hN] at HR
    clear hok hN
    obtain ⟨oc, cc, ok, ck, ou, cu⟩ := p
    go_enter Tryz.func13, Tryz.ntmps13
    go_wp2_with fail
    refine (HR.out _ ((Below.refl _ _).alloc (Nat.le_refl _) _)).mono ?_
    rintro e w1 ⟨rfl, hb1⟩
    have HB1 := Lib.hid (((Below.refl w.heap.size w).alloc (Nat.le_refl _) (.cells #[.slice oc S.cols.length cc, .slice ok S.key.length ck, .slice ou S.uqs.length cu] 26)).trans (hb1.mono (by simp)))
    have k0 : w1.cell? ⟨w.heap.size, 0, none⟩ = some (.slice oc S.cols.length cc) := cell_old (by simp [go_sem]) hb1
    clear hb1
    go_wp2_with fail
    refine (layoutOf_any _ _ _ _).mono ?_
    rintro e w2 ⟨r, rfl, hm, hb2⟩
    have HB2 := Lib.hid (HB1.out.trans (hb2.mono HB1.out.size))
    have HY := Lib.hid (cwidth_any oc cc r S.cols w2 hcl (HC.out.keep HB2.out (Nat.le_refl _)) hm HZ.out)
    clear hm hb2
    go_wp2_with fail
    refine HY.out.mono ?_
    rintro e w3 ⟨rfl, hb3⟩
    have HB3 := Lib.hid (HB2.out.trans (hb3.mono HB2.out.size))
    clear hb3
    go_wp2_with fail
    go_ret3
    exact ⟨rfl, HB3.out⟩

set_option maxRecDepth 100000 in
set_option maxHeartbeats 4000000 in
theorem rWidth_any (p : SchV) (S : Sch) (w : World) (hnm : ∀ c ∈ S.cols, c.n.size ≤ 9223372036854775807) (hcl : S.cols.length ≤ 1000) (hul : S.uqs.length ≤ 1000) (hkl : S.key.length ≤ 1000) (hpl : ∀ l ∈ S.uqs, l.length ≤ 1000) (hS : SchIn w p S) :
    Calls Tryz.prog 14 #[.agg #[.slice p.oc S.cols.length p.cc, .slice p.ok S.key.length p.ck, .slice p.ou S.uqs.length p.cu]] w fun e w' => e = .returned (.tuple #[.int .i64 (widLo S), .int .i64 (widHi S), .int .i64 (schN S)]) ∧ Below w.heap.size w w' := by
  have HR := Lib.hid (fun W (hb : Below w.heap.size w W) => rRight_any p S W hnm hcl hul hkl hpl (hS.keep hb (Nat.le_refl _)))
  have HC := Lib.hid hS.cols
  clear hnm hul hkl hpl hS
  cases hok : schOk S
  · have hN : schN S = 2 := by unfold schN; rw [hok]; rfl
    rw [show widLo S = 0 by unfold widLo; rw [hok]; rfl, show widHi S = 0 by unfold widHi; rw [hok]; rfl, hN]
    rw [hok] at HR
    clear hok hN
    go_enter Tryz.func14, Tryz.ntmps14
    go_wp2_with fail
    refine (HR.out _ ((Below.refl _ _).alloc (Nat.le_refl _) _)).mono ?_
    rintro e w1 ⟨rfl, hb1⟩
    go_wp2_with fail
    go_ret3
    exact ⟨rfl, ((Below.refl _ _).alloc (Nat.le_refl _) _).trans (hb1.mono (by simp))⟩
  · have hN : schN S = 0 := by unfold schN; rw [if_pos hok]
    rw [show widLo S = rowLo S.cols by unfold widLo; rw [if_pos hok], show widHi S = rowHi S.cols by unfold widHi; rw [if_pos hok], hN]
    have HZ := Lib.hid (cols_sz hok)
    rw [hok] at HR
    clear hok hN
    obtain ⟨oc, cc, ok, ck, ou, cu⟩ := p
    go_enter Tryz.func14, Tryz.ntmps14
    go_wp2_with fail
    refine (HR.out _ ((Below.refl _ _).alloc (Nat.le_refl _) _)).mono ?_
    rintro e w1 ⟨rfl, hb1⟩
    have HB1 := Lib.hid (((Below.refl w.heap.size w).alloc (Nat.le_refl _) (.cells #[.slice oc S.cols.length cc, .slice ok S.key.length ck, .slice ou S.uqs.length cu] 26)).trans (hb1.mono (by simp)))
    have k0 : w1.cell? ⟨w.heap.size, 0, none⟩ = some (.slice oc S.cols.length cc) := cell_old (by simp [go_sem]) hb1
    have HK0 := Lib.hid k0
    clear hb1 k0
    go_wp2_with fail
    go_loopw [5, 6, 7] (fun a b v wr => ∃ (k : Nat) (x y : Int), k ≤ S.cols.length ∧ 0 ≤ x ∧ x ≤ 300 * k ∧ 0 ≤ y ∧ y ≤ 300 * k ∧ v = .int .i64 k ∧ a = .int .i64 x ∧ b = .int .i64 y ∧ Hid (x = rowLo (S.cols.take k)) ∧ Hid (y = rowHi (S.cols.take k)) ∧ Hid (wr.cell? ⟨w.heap.size, 0, none⟩ = some (.slice oc S.cols.length cc)) ∧ Hid (Below w.heap.size w wr)) (fun _ _ v _ => S.cols.length - (intOf v).toNat)
    case atStart => exact ⟨0, 0, 0, by omega, by omega, by omega, by omega, by omega, rfl, rfl, rfl, Lib.hid (by simp [rowLo]), Lib.hid (by simp [rowHi]), HK0, HB1⟩
    case round =>
      obtain ⟨k, x, y, hk, x0, x1, y0, y1, rfl, rfl, rfl, HX, HY, HK, HB⟩ := hrel
      have k1 := HK.out
      have hlx : w.heap.size < wr.heap.size := World.block_lt_of_cell? wr _ k1
      by_cases hkl : k < S.cols.length
      · obtain ⟨c, hcc⟩ : ∃ c, S.cols[k] = c := ⟨_, rfl⟩
        obtain ⟨ac, rfl, hat⟩ := HC.out.keep HB.out (Nat.le_refl _) k hkl
        rw [hcc] at hat
        have hszc := HZ.out c (hcc ▸ List.getElem_mem hkl)
        have hwb := w_bd hszc
        have hbz := sz_bd hszc
        have HLO := Lib.hid (lo_take hkl hcc)
        have HHI := Lib.hid (hi_take hkl hcc)
        have hal := hat.lt
        obtain ⟨c0, c1, c2, c3⟩ := hat
        have b0 : (0 : Int) ≤ (k : Int) := by omega
        have b1 : (k : Int) < (S.cols.length : Int) := by omega
        clear hcc
        obtain ⟨cn, ct, cz, cu⟩ := c
        simp only at *
        have HK2 := Lib.hid (fun q => show (((wr.alloc (.cells #[.string cn, .int .i64 ct, .int .i64 cz, .bool cu] 64)).drewN q)).cell? ⟨w.heap.size, 0, none⟩ = some (.slice (some ac) S.cols.length cc) by simp [go_sem, hlx, k1])
        have HB2 := Lib.hid (fun q => show Below w.heap.size w ((wr.alloc (.cells #[.string cn, .int .i64 ct, .int .i64 cz, .bool cu] 64)).drewN q) from below_drewN (HB.out.alloc HB.out.size _) q)
        simp only [wLo, wHi] at hwb HLO HHI
        rcases type_cases ct with ht | rfl | rfl | rfl | rfl
        · rw [szOk_none ht] at hszc; cases hszc
        all_goals
          simp at hwb HLO HHI
          cases cu
          all_goals
            simp at hwb HLO HHI
            clear hszc
            go_wp2_with fail
            go_quiet (fail)
            go_wp2_with fail
            first
              | (go_roundw
                 case rel => exact ⟨k + 1, _, _, by omega, by omega, by omega, by omega, by omega, by go_num, rfl, rfl, Lib.hid (by rw [HLO.out, ← HX.out]), Lib.hid (by rw [HHI.out, ← HY.out]), Lib.hid (HK2.out 0), Lib.hid (HB2.out _)⟩
                 case measure => simp [intOf]; omega)
              | (go_quiet (fail)
                 go_wp2_with fail
                 go_roundw
                 case rel => exact ⟨k + 1, _, _, by omega, by omega, by omega, by omega, by omega, by go_num, rfl, rfl, Lib.hid (by rw [HLO.out, ← HX.out]), Lib.hid (by rw [HHI.out, ← HY.out]), Lib.hid (HK2.out 0), Lib.hid (HB2.out _)⟩
                 case measure => simp [intOf]; omega)
      · obtain rfl : k = S.cols.length := by omega
        have HX2 := Lib.hid (show x = rowLo S.cols by rw [HX.out, List.take_of_length_le (Nat.le_refl _)])
        have HY2 := Lib.hid (show y = rowHi S.cols by rw [HY.out, List.take_of_length_le (Nat.le_refl _)])
        go_wp2_with fail
        go_ret3
        exact ⟨by rw [← HX2.out, ← HY2.out]; rfl, HB.out⟩
end Go.Proofs.YtocmjlnhcloccaaGreatDoor
