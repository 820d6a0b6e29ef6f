/-
  swingbridgeref10.Record.
-/
import Derived.Test.YtbhgcioeibhjeaaGreatDoorLRcr
import Derived.Test.YtbhgcioeibhjeaaGreatDoorOctA
import Derived.Test.YtbhgcioeibhjeaaGreatDoorDFOp
import Derived.Lib.ConvBytes
namespace Go.Proofs.YtbhgcioeibhjeaaGreatDoor
open Go.RowKit

theorem str_bytes (W : World) (s : ByteArray) : ∃ v W', (convert 9 43 (.string s)).run Tryz.prog W = .ok v W' ∧ BytesAt W' v s.data.toList ∧ Below W.heap.size W W' := by
  refine ⟨_, _, Lib.run_convert_string_bytes W 9 43 5 s Tryz.underlying9 Tryz.underlying43 Tryz.underlying5, ?_, ?_⟩
  · have hl : s.data.toList.length = s.size := by rw [Array.length_toList]; rfl
    refine ⟨_, _, by rw [hl], by rw [hl]; exact grownCap_ge W _ _ _, fun j hj => ⟨_, rfl, ?_⟩⟩
    have hj' : j < s.size := by rw [hl] at hj; exact hj
    have e : (s.data.toList.getD j 0) = s.data.toList[j] := by rw [List.getD_eq_getElem?_getD, List.getElem?_eq_getElem hj]; rfl
    have h := Lib.bytesWorld_cell W 5 s j hj'
    rw [e] at h
    have ea : ((⟨W.heap.size, 0, none⟩ : Addr).add j) = ⟨W.heap.size, j, none⟩ := by
      unfold Addr.add
      split
      · simp_all
      · simp
    rw [ea]
    exact h
  · exact ⟨rfl, rfl, rfl, by rw [Lib.bytesWorld_size]; omega, fun k hk => Lib.bytesWorld_at_old W _ s k hk⟩
theorem rFixed4 (n : Nat) (hn : n < 4294967296) (W : World) : Calls Tryz.prog 88 #[.int .u64 n, .int .i64 4] W fun e w' => ∃ v, e = .returned (.tuple #[v, .int .i64 0]) ∧ BytesOf w' v (tellL n 4) ∧ Below W.heap.size W w' := by
  have h := rFixed_any n 4 W (by omega)
  have h0 : fixNo n 4 = 0 := by
    have := (sizeOf8_le_iff n 4 (by omega)).2 (by omega)
    unfold fixNo
    rw [if_neg (by omega), if_neg (by omega)]
  unfold fixL at h
  rw [h0] at h
  exact h
theorem str_append (a b : List UInt8) (s : ByteArray) : (⟨(a ++ (b ++ s.data.toList)).toArray⟩ : ByteArray) = ⟨a.toArray⟩ ++ ⟨b.toArray⟩ ++ s := by
  apply ByteArray.ext
  simp [ByteArray.data_append]
set_option maxRecDepth 100000 in
set_option maxHeartbeats 1000000 in
theorem rRecord_ok (s : ByteArray) (w : World) (hs : s.size ≤ 60000) :
    Calls Tryz.prog 65 #[.string s] w fun e w' => e = .returned (.tuple #[.string ⟨(recL s.data.toList).toArray⟩, .int .i64 0]) ∧ Below w.heap.size w w' := by
  have hcr : crc s.data.toList < 4294967296 := by unfold crc; omega
  have hlen : s.data.toList.length = s.size := by rw [Array.length_toList]; rfl
  have HF1 := Lib.hid (rFixed4 s.size (by omega))
  have HF2 := Lib.hid (rFixed4 (crc s.data.toList) hcr)
  have HSB := Lib.hid (fun W => str_bytes W s)
  have HSum := Lib.hid (fun (v : Value) (W : World) (h : BytesAt W v s.data.toList) => rSum_any v s.data.toList W h (by rw [hlen]; omega))
  have hres : recL s.data.toList = tellL s.size 4 ++ (tellL (crc s.data.toList) 4 ++ s.data.toList) := by unfold recL; rw [hlen]
  have HST := Lib.hid (str_append (tellL s.size 4) (tellL (crc s.data.toList) 4) s)
  rw [← hres] at HST
  rw [HST.out]
  clear hres HST hlen
  have ht1 : ¬ 9223372036854775807 < (tellL s.size 4).length + (tellL (crc s.data.toList) 4).length := by rw [tellL_length, tellL_length]; decide
  have ht2 : ¬ 9223372036854775807 < (tellL s.size 4).length + (tellL (crc s.data.toList) 4).length + s.size := by rw [tellL_length, tellL_length]; omega
  generalize hcc : crc s.data.toList = cc at *
  generalize tellL s.size 4 = t1 at *
  generalize tellL cc 4 = t2 at *
  clear hcc
  generalize s.data.toList = sl at *
  generalize hn : s.size = n at *
  go_enter Tryz.func65, Tryz.ntmps65
  go_upto_region 4 with (first | (go_at_call 88; with_reducible refine (HF1.out _).mono ?_; rintro e w1 ⟨v1, rfl, h1, hb1⟩; have H1 := Lib.hid (And.intro h1 hb1); clear h1 hb1))
  obtain ⟨sv, sw, hcv, hsb, hsw⟩ := HSB.out w1
  obtain ⟨so, sc, hsf⟩ := hsb.form
  subst hsf
  have HS := Lib.hid (HSum.out _ sw hsb)
  have HSW := Lib.hid hsw
  clear hsb hsw
  go_upto_region 5 with (first | (go_at_call 76; with_reducible refine HS.out.mono ?_; rintro e w2 ⟨rfl, rfl⟩) | (go_at_call 88; with_reducible refine (HF2.out _).mono ?_; rintro e w3 ⟨v2, rfl, h2, hb2⟩; have H2 := Lib.hid (And.intro h2 hb2); clear h2 hb2))
  have hb13 : Below w1.heap.size w1 w3 := HSW.out.trans (H2.out.2.mono HSW.out.size)
  have hs1 := bytes_string (H1.out.1.keep hb13 (Nat.le_refl _)).at
  have hs2 := bytes_string H2.out.1.at
  go_wp2_with fail
  go_ret2
  exact ⟨rfl, H1.out.2.trans (hb13.mono H1.out.2.size)⟩
end Go.Proofs.YtbhgcioeibhjeaaGreatDoor
