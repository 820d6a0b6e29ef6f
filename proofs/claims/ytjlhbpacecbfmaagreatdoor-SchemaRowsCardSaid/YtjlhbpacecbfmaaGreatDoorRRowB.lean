/-
  swingbridgeref03.Row.
-/
import Derived.Test.YtjlhbpacecbfmaaGreatDoorRRow
namespace Go.Proofs.YtjlhbpacecbfmaaGreatDoor
open Go.RowKit

set_option maxRecDepth 100000 in
set_option maxHeartbeats 4000000 in
theorem rRow_any (p : SchV) (S : Sch) (oa : Option Addr) (ca : Nat) (row : List Vl) (w : World) (hnm : ∀ c ∈ S.cols, c.n.size ≤ 9223372036854775807) (hcl : S.cols.length ≤ 1000) (hul : S.uqs.length ≤ 1000) (hkl : S.key.length ≤ 1000) (hpl : ∀ l ∈ S.uqs, l.length ≤ 1000) (hS : SchIn w p S) (_hrl : row.length ≤ 1000) (hr : ValsIn w oa row) :
    Calls Tryz.prog 23 #[.agg #[.slice p.oc S.cols.length p.cc, .slice p.ok S.key.length p.ck, .slice p.ou S.uqs.length p.cu], .slice oa row.length ca] w fun e w' => e = .returned (.int .i64 (rowN S row)) ∧ Below w.heap.size w w' := by
  have HRT := Lib.hid (fun A => rRight_any p S (w.alloc A) hnm hcl hul hkl hpl (hS.keep ((Below.refl _ _).alloc (Nat.le_refl _) _) (Nat.le_refl _)))
  have HNM := Lib.hid hnm
  have HR := Lib.hid hr
  have hcols := hS.cols
  clear hnm hS hr hpl
  obtain ⟨oc, cc, ok, ck, ou, cu⟩ := p
  simp only at hcols HRT ⊢
  have HCO := Lib.hid hcols
  clear hcols
  cases hsk : schOk S
  · have HSK := Lib.hid hsk
    have HNO := Lib.hid (show rowN S row = 2 by unfold rowN; rw [hsk]; rfl)
    clear hsk
    go_enter Tryz.func23, Tryz.ntmps23
    go_wp2_with (first | (go_at_call 16; refine (HRT.out _).mono ?_; rintro e w1 ⟨he, hb1⟩; rw [HSK.out] at he; subst he))
    go_ret
    exact ⟨by rw [HNO.out]; rfl, ((Below.refl _ _).alloc (Nat.le_refl _) _).trans (hb1.mono (by simp))⟩
  · have HOK := Lib.hid hsk
    clear hsk
    go_enter Tryz.func23, Tryz.ntmps23
    go_wp2_with fail
    refine (HRT.out _).mono ?_
    rintro e w1 ⟨he, hb1⟩
    rw [HOK.out] at he
    subst he
    have HB1 := Lib.hid (((Below.refl w.heap.size w).alloc (Nat.le_refl _) (.cells #[.slice oc S.cols.length cc, .slice ok S.key.length ck, .slice ou S.uqs.length cu] 26)).trans (hb1.mono (by simp)))
    have k0 : w1.cell? ⟨w.heap.size, 0, none⟩ = some (.slice oc S.cols.length cc) := cell_old (by simp [go_sem]) hb1
    have hs1 : w.heap.size < w1.heap.size := by have := hb1.size; simp at this; omega
    clear hb1 HRT
    by_cases hlen : row.length = S.cols.length
    · have hne : ((row.length : Int) != (S.cols.length : Int)) = false := by rw [hlen]; simp
      have HRN := Lib.hid (show rowN S row = firstFit S.cols row by unfold rowN; rw [if_pos HOK.out, if_pos hlen])
      have HLEN := Lib.hid hlen
      clear hlen
      go_wp2_with fail
      go_loopw [5] (fun i wr => ∃ k : Nat, k ≤ row.length ∧ i = .int .i64 k ∧ Hid (FFRel S.cols row k) ∧ Hid (Below w1.heap.size w1 wr)) (fun i _ => row.length - (intOf i).toNat)
      case atStart => exact ⟨0, Nat.zero_le _, rfl, Lib.hid rfl, Lib.hid (Below.refl _ _)⟩
      case round =>
        obtain ⟨k, hk, rfl, HK, HB⟩ := hrel
        have HBW := Lib.hid (HB1.out.trans (HB.out.mono HB1.out.size))
        have m0 : wr.cell? ⟨w.heap.size, 0, none⟩ = some (.slice oc S.cols.length cc) := cell_old k0 HB.out
        have hsw : w.heap.size < wr.heap.size := by have := HB.out.size; omega
        clear k0
        by_cases hlt : k < row.length
        · have hlc : k < S.cols.length := by have := HLEN.out; omega
          obtain ⟨c, hc⟩ : ∃ c, S.cols[k] = c := ⟨_, rfl⟩
          obtain ⟨v, hv⟩ : ∃ v, row[k] = v := ⟨_, rfl⟩
          obtain ⟨ac, rfl, hat⟩ := HCO.out.keep HBW.out (Nat.le_refl _) k hlc
          obtain ⟨av, rfl, hvt⟩ := HR.out.keep HBW.out (Nat.le_refl _) k hlt
          rw [hc] at hat
          rw [hv] at hvt
          have l0 : ∀ p : Later wr, p.W.cell? ⟨w.heap.size, 0, none⟩ = some (.slice (some ac) S.cols.length cc) := later_cell m0
          have l1 : ∀ p : Later wr, p.W.cell? (ac.add (k * 4)) = some (.string c.n) := later_cell hat.1
          have l2 : ∀ p : Later wr, p.W.cell? ⟨(ac.add (k * 4)).block, (ac.add (k * 4)).off + 1, none⟩ = some (.int .i64 c.t) := later_cell hat.2.1
          have l3 : ∀ p : Later wr, p.W.cell? ⟨(ac.add (k * 4)).block, (ac.add (k * 4)).off + 2, none⟩ = some (.int .i64 c.z) := later_cell hat.2.2.1
          have l4 : ∀ p : Later wr, p.W.cell? ⟨(ac.add (k * 4)).block, (ac.add (k * 4)).off + 3, none⟩ = some (.bool c.u) := later_cell hat.2.2.2
          have l5 : ∀ p : Later wr, p.W.cell? (av.add (k * 4)) = some (.int .i64 v.k) := later_cell hvt.1
          have l6 : ∀ p : Later wr, p.W.cell? ⟨(av.add (k * 4)).block, (av.add (k * 4)).off + 1, none⟩ = some (.int .i64 v.i) := later_cell hvt.2.1
          have l7 : ∀ p : Later wr, p.W.cell? ⟨(av.add (k * 4)).block, (av.add (k * 4)).off + 2, none⟩ = some (.int .u64 v.u) := later_cell hvt.2.2.1
          have l8 : ∀ p : Later wr, p.W.cell? ⟨(av.add (k * 4)).block, (av.add (k * 4)).off + 3, none⟩ = some (.string v.s) := later_cell hvt.2.2.2
          have b0 : (0 : Int) ≤ (k : Int) := by omega
          have b1 : (k : Int) < (row.length : Int) := by omega
          have b2 : (k : Int) < (S.cols.length : Int) := by omega
          clear hat hvt
          have HF : Hid (∀ W', Calls Tryz.prog 20 #[.agg #[.string c.n, .int .i64 c.t, .int .i64 c.z, .bool c.u], .agg #[.int .i64 v.k, .int .i64 v.i, .int .u64 v.u, .string v.s]] W' fun e w' => e = .returned (.int .i64 (fitN c v)) ∧ Below W'.heap.size W' w') := Lib.hid (fun W' => by
            have h := rFits_any c v W' (HNM.out c (hc ▸ List.getElem_mem hlc))
            unfold fitsN at h
            rw [if_pos (schOk_col HOK.out hlc hc)] at h
            exact h)
          by_cases h0 : fitN c v = 0
          · have HNX := Lib.hid (HK.out.next hlc hlt hc hv h0)
            rw [h0] at HF
            clear h0 hc hv
            go_wp2_with fail
            refine wp_region_later (by kernel_rfl) (by kernel_rfl) ?_
            repeat (go_big_quiet_step ((go_at_call 20; exact Calls.later (HF.out _))))
            refine wpQuiet_nil ?_
            rintro w3 ⟨⟨W3, hb3⟩, rfl⟩
            have HB3 := Lib.hid (HB.out.trans (hb3.mono HB.out.size))
            clear hb3
            go_wp2_with fail
            go_roundw
            case rel => exact ⟨k + 1, by omega, by go_num, HNX, HB3⟩
            case measure => simp [intOf]; omega
          · have HNO := Lib.hid (HRN.out.trans (HK.out.hit hlc hlt hc hv h0))
            have hne2 : (fitN c v != 0) = true := by simpa using h0
            generalize fitN c v = m at *
            clear h0 hc hv
            go_wp2_with fail
            refine wp_region_later (by kernel_rfl) (by kernel_rfl) ?_
            repeat (go_big_quiet_step ((go_at_call 20; exact Calls.later (HF.out _))))
            refine wpQuiet_nil ?_
            rintro w3 ⟨⟨W3, hb3⟩, rfl⟩
            go_wp2_with fail
            go_ret
            exact ⟨by rw [HNO.out]; rfl, HBW.out.trans (hb3.mono HBW.out.size)⟩
        · have HNO := Lib.hid (HRN.out.trans (HK.out.done (by omega)))
          go_wp2_with fail
          go_ret
          exact ⟨by rw [HNO.out]; rfl, HBW.out⟩
    · have hne : ((row.length : Int) != (S.cols.length : Int)) = true := by
        rw [bne_iff_ne]
        omega
      have HNO := Lib.hid (show rowN S row = 130 by unfold rowN; rw [if_pos HOK.out, if_neg hlen])
      clear hlen
      go_wp2_with fail
      go_ret
      exact ⟨by rw [HNO.out]; rfl, HB1.out⟩
end Go.Proofs.YtjlhbpacecbfmaaGreatDoor
