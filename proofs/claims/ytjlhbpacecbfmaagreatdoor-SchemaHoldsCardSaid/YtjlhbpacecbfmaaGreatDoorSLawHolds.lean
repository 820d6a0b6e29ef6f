/-
  swingbridgelaw03.SchemaHolds: true.
-/
import Derived.Test.YtjlhbpacecbfmaaGreatDoorSHoldsP
namespace Go.Proofs.YtjlhbpacecbfmaaGreatDoor
open Go.RowKit

set_option maxRecDepth 100000 in
set_option maxHeartbeats 8000000 in
theorem lawHolds_true (p : SchV) (S : Sch) (oa : Option Addr) (ca : Nat) (row : List Vl) (w : World) (hg : HasET w) (hS : SchIn w p S) (m0 : S.cols.length ≤ 9223372036854775807) (m1 : S.key.length ≤ 9223372036854775807) (m2 : S.uqs.length ≤ 9223372036854775807) (m3 : ∀ c ∈ S.cols, c.n.size ≤ 9223372036854775807) (m4 : ∀ l ∈ S.uqs, l.length ≤ 9223372036854775807)
    (hr : ValsIn w oa row) (n0 : row.length ≤ 9223372036854775807) (n2 : ∀ v ∈ row, v.s.size ≤ 9223372036854775807) :
    Calls Tryz.prog 8 #[.agg #[.slice p.oc S.cols.length p.cc, .slice p.ok S.key.length p.ck, .slice p.ou S.uqs.length p.cu], .slice oa row.length ca] w fun e w' => e = .returned (.bool true) ∧ Below w.heap.size w w' := by
  have HW : Hid (∀ W, Below w.heap.size w W → Calls Tryz.prog 10 #[] W fun e w' => e = .returned (.bool true) ∧ Below W.heap.size W w') := Lib.hid (fun W hb => sworks_true W (hg.below hb hg.lt))
  have HFW : Hid (∀ W, Below w.heap.size w W → Calls Tryz.prog 9 #[.agg #[.slice p.oc S.cols.length p.cc, .slice p.ok S.key.length p.ck, .slice p.ou S.uqs.length p.cu]] W fun e w' => e = .returned (.bool (fewOk S)) ∧ Below W.heap.size W w') := Lib.hid (fun W hb => few_any p S W (hS.keep hb (Nat.le_refl _)) m0 m1 m2 m3 m4)
  have HSH : Hid (∀ W, Below w.heap.size w W → Calls Tryz.prog 21 #[.slice oa row.length ca, .int .i64 12] W fun e w' => e = .returned (.bool (shortOk row 12)) ∧ W = w') := Lib.hid (fun W hb => short_rows oa ca row W n0 (hr.keep hb (Nat.le_refl _)) n2)
  cases hf : fewOk S
  · have HQ := Lib.hid hf
    clear hf hg hS m0 m1 m2 m3 m4 hr n0 n2
    go_enter Tryz.func8, Tryz.ntmps8
    go_wp2_with (first | (go_at_call 9; refine (HFW.out _ ((Below.refl _ _).alloc (Nat.le_refl _) _)).mono ?_; rintro e w1 ⟨he, hb1⟩; rw [HQ.out] at he; subst he; have hb := ((Below.refl w.heap.size w).alloc (Nat.le_refl _) (.cells #[.slice p.oc S.cols.length p.cc, .slice p.ok S.key.length p.ck, .slice p.ou S.uqs.length p.cu] 26)).trans (hb1.mono (by simp))) | (go_at_call 10; refine (HW.out _ hb).mono ?_; rintro e w2 ⟨rfl, hb2⟩))
    go_ret
    exact ⟨rfl, hb.trans (hb2.mono hb.size)⟩
  cases hsh : shortOk row 12
  · have HQ := Lib.hid hf
    have HQ2 := Lib.hid hsh
    clear hf hsh hg hS m0 m1 m2 m3 m4 hr n0 n2
    go_enter Tryz.func8, Tryz.ntmps8
    go_wp2_with (first | (go_at_call 9; refine (HFW.out _ ((Below.refl _ _).alloc (Nat.le_refl _) _)).mono ?_; rintro e w1 ⟨he, hb1⟩; rw [HQ.out] at he; subst he; have hb := ((Below.refl w.heap.size w).alloc (Nat.le_refl _) (.cells #[.slice p.oc S.cols.length p.cc, .slice p.ok S.key.length p.ck, .slice p.ou S.uqs.length p.cu] 26)).trans (hb1.mono (by simp))) | (go_at_call 21; refine (HSH.out _ hb).mono ?_; rintro e w' ⟨he, rfl⟩; rw [HQ2.out] at he; subst he) | (go_at_call 10; refine (HW.out _ hb).mono ?_; rintro e w2 ⟨rfl, hb2⟩))
    go_ret
    exact ⟨rfl, hb.trans (hb2.mono hb.size)⟩
  have hfs := fewOk_spec hf
  have hss := shortOk_spec hsh
  have HSC : Hid (∀ W, Below w.heap.size w W → Calls Tryz.prog 15 #[.agg #[.slice p.oc S.cols.length p.cc, .slice p.ok S.key.length p.ck, .slice p.ou S.uqs.length p.cu]] W fun e w' => e = .returned (.int .i64 (schN S)) ∧ Below W.heap.size W w') := Lib.hid (fun W hb => SCheck_any p S W (hg.below hb hg.lt) m3 (by have := hfs.cols; omega) hfs.uqs (hS.keep hb (Nat.le_refl _)))
  have HRO : Hid (∀ W, Below w.heap.size w W → Calls Tryz.prog 22 #[.agg #[.slice p.oc S.cols.length p.cc, .slice p.ok S.key.length p.ck, .slice p.ou S.uqs.length p.cu], .slice oa row.length ca] W fun e w' => e = .returned (.int .i64 (rowN S row)) ∧ Below W.heap.size W w') := Lib.hid (fun W hb => SRow_any p S oa ca row W (hg.below hb hg.lt) m3 (by have := hfs.cols; omega) hfs.uqs (hS.keep hb (Nat.le_refl _)) (by omega) (hr.keep hb (Nat.le_refl _)))
  have HPK : Hid (∀ W, Below w.heap.size w W → Calls Tryz.prog 24 #[.slice oa row.length ca, .slice p.ok S.key.length p.ck] W (PickPost row S.key W)) := Lib.hid (fun W hb => SPick_any oa ca row p.ok p.ck S.key W (hg.below hb hg.lt) (by omega) (by have := hfs.key; omega) (hr.keep hb (Nat.le_refl _)) (hS.key.keep hb (Nat.le_refl _)))
  have HFT : Hid (∀ (c : Col) (v : Vl) W, c.n.size ≤ 9223372036854775807 → Below w.heap.size w W → Calls Tryz.prog 19 #[.agg #[.string c.n, .int .i64 c.t, .int .i64 c.z, .bool c.u], .agg #[.int .i64 v.k, .int .i64 v.i, .int .u64 v.u, .string v.s]] W fun e w' => e = .returned (.int .i64 (fitsN c v)) ∧ Below W.heap.size W w') := Lib.hid (fun c v W hn hb => Fits_any c v W (hg.below hb hg.lt) hn)
  have HNM := Lib.hid m3
  have HCO := Lib.hid hS.cols
  have HR := Lib.hid hr
  have hrl : row.length ≤ 12 := hss.1
  have hcl : S.cols.length ≤ 12 := hfs.cols
  have hkl : S.key.length ≤ 8 := hfs.key
  have HQ := Lib.hid hf
  have HQ2 := Lib.hid hsh
  clear hf hsh hg hS m0 m1 m2 m3 m4 hr n0 n2 hfs hss
  cases hsk : schOk S
  · have HSK := Lib.hid (show schN S = 2 by unfold schN; rw [hsk]; rfl)
    clear hsk
    go_enter Tryz.func8, Tryz.ntmps8
    go_wp2_with (first | (go_at_call 9; refine (HFW.out _ ((Below.refl _ _).alloc (Nat.le_refl _) _)).mono ?_; rintro e w1 ⟨he, hb1⟩; rw [HQ.out] at he; subst he; have hb := ((Below.refl w.heap.size w).alloc (Nat.le_refl _) (.cells #[.slice p.oc S.cols.length p.cc, .slice p.ok S.key.length p.ck, .slice p.ou S.uqs.length p.cu] 26)).trans (hb1.mono (by simp)); have k0 : w1.cell? ⟨w.heap.size, 0, none⟩ = some (.slice p.oc S.cols.length p.cc) := cell_old (by simp [go_sem]) hb1; have k1 : w1.cell? ⟨w.heap.size, 1, none⟩ = some (.slice p.ok S.key.length p.ck) := cell_old (by simp [go_sem]) hb1; have k2 : w1.cell? ⟨w.heap.size, 2, none⟩ = some (.slice p.ou S.uqs.length p.cu) := cell_old (by simp [go_sem]) hb1) | (go_at_call 21; refine (HSH.out _ hb).mono ?_; rintro e w' ⟨he, rfl⟩; rw [HQ2.out] at he; subst he) | (go_at_call 15; refine (HSC.out _ hb).mono ?_; rintro e w2 ⟨he, hb2⟩; rw [HSK.out] at he; subst he; have hb' := hb.trans (hb2.mono hb.size)) | (go_at_call 14; refine (l3num_any _ _).mono ?_; rintro e w' ⟨rfl, rfl⟩) | (go_at_call 10; refine (HW.out _ hb').mono ?_; rintro e w3 ⟨rfl, hb3⟩))
    go_ret
    exact ⟨rfl, hb'.trans (hb3.mono hb'.size)⟩
  have HSK := Lib.hid (show schN S = 0 by unfold schN; rw [hsk]; rfl)
  have HOK := Lib.hid hsk
  clear hsk
  go_enter Tryz.func8, Tryz.ntmps8
  go_wp2_with fail
  refine (HFW.out _ ((Below.refl _ _).alloc (Nat.le_refl _) _)).mono ?_
  rintro e w1 ⟨he, hb1⟩
  rw [HQ.out] at he
  subst he
  have HB := Lib.hid (((Below.refl w.heap.size w).alloc (Nat.le_refl _) (.cells #[.slice p.oc S.cols.length p.cc, .slice p.ok S.key.length p.ck, .slice p.ou S.uqs.length p.cu] 26)).trans (hb1.mono (by simp)))
  have k0 : w1.cell? ⟨w.heap.size, 0, none⟩ = some (.slice p.oc S.cols.length p.cc) := cell_old (by simp [go_sem]) hb1
  have k1 : w1.cell? ⟨w.heap.size, 1, none⟩ = some (.slice p.ok S.key.length p.ck) := cell_old (by simp [go_sem]) hb1
  have k2 : w1.cell? ⟨w.heap.size, 2, none⟩ = some (.slice p.ou S.uqs.length p.cu) := cell_old (by simp [go_sem]) hb1
  have hs1 : w.heap.size < w1.heap.size := by have := hb1.size; simp at this; omega
  clear hb1 HFW
  go_wp2_with fail
  refine (HSH.out _ HB.out).mono ?_
  rintro e w' ⟨he, rfl⟩
  rw [HQ2.out] at he
  subst he
  go_wp2_with fail
  refine (HSC.out _ HB.out).mono ?_
  rintro e w2 ⟨he, hb2⟩
  rw [HSK.out] at he
  subst he
  have HB2 := Lib.hid (HB.out.trans (hb2.mono HB.out.size))
  have q0 : w2.cell? ⟨w.heap.size, 0, none⟩ = some (.slice p.oc S.cols.length p.cc) := cell_old k0 hb2
  have q1 : w2.cell? ⟨w.heap.size, 1, none⟩ = some (.slice p.ok S.key.length p.ck) := cell_old k1 hb2
  have q2 : w2.cell? ⟨w.heap.size, 2, none⟩ = some (.slice p.ou S.uqs.length p.cu) := cell_old k2 hb2
  have hs2 : w.heap.size < w2.heap.size := by have := hb2.size; omega
  clear hb2 k0 k1 k2 hs1 HB HSH HSC
  obtain ⟨oc, cc, ok, ck, ou, cu⟩ := p
  obtain ⟨hd, he⟩ : ∃ hd, ((row.length : Int) == (S.cols.length : Int)) = hd := ⟨_, rfl⟩
  have HHD := Lib.hid he
  simp only at *
  go_wp2_with (first | (go_at_call 14; refine (l3num_any _ _).mono ?_; rintro e w' ⟨rfl, rfl⟩))
  clear he
  go_loopw [5, 6] (fun v i wr => ∃ (k : Nat) (a : Bool), k ≤ row.length ∧ k ≤ S.cols.length ∧ i = .int .i64 k ∧ v = .bool a ∧ Hid (a = (hd && fitTo S.cols row k)) ∧ Hid (Below w2.heap.size w2 wr)) (fun _ i _ => row.length - (intOf i).toNat)
  case atStart => exact ⟨0, hd, by omega, by omega, rfl, rfl, Lib.hid (by simp [fitTo]), Lib.hid (Below.refl _ _)⟩
  case round =>
    obtain ⟨k, a, hkr, hkc, rfl, rfl, HA, HB3⟩ := hrel
    have HBW := Lib.hid (HB2.out.trans (HB3.out.mono HB2.out.size))
    have k0 : wr.cell? ⟨w.heap.size, 0, none⟩ = some (.slice oc S.cols.length cc) := cell_old q0 HB3.out
    have k1 : wr.cell? ⟨w.heap.size, 1, none⟩ = some (.slice ok S.key.length ck) := cell_old q1 HB3.out
    have k2 : wr.cell? ⟨w.heap.size, 2, none⟩ = some (.slice ou S.uqs.length cu) := cell_old q2 HB3.out
    have hsw : w.heap.size < wr.heap.size := by have := HB3.out.size; omega
    clear q0 q1 q2
    by_cases hlt : k < row.length ∧ k < S.cols.length
    · obtain ⟨hlr, hlc⟩ := hlt
      obtain ⟨c, hc⟩ : ∃ c, S.cols[k] = c := ⟨_, rfl⟩
      obtain ⟨v, hv⟩ : ∃ v, row[k] = v := ⟨_, rfl⟩
      obtain ⟨ac, rfl, hat⟩ := HCO.out.keep HBW.out (Nat.le_refl _) k hlc
      obtain ⟨av, rfl, hvt⟩ := HR.out.keep HBW.out (Nat.le_refl _) k hlr
      rw [hc] at hat
      rw [hv] at hvt
      have hal := hat.lt
      have hvl := hvt.1
      have hnm := HNM.out c (hc ▸ List.getElem_mem hlc)
      have hok := schOk_col HOK.out hlc hc
      have HSU := Lib.hid (fitTo_succ hlc hlr hc hv)
      obtain ⟨n, t, z, u⟩ := c
      obtain ⟨c0, c1, c2, c3⟩ := hat
      obtain ⟨v0, v1, v2, v3⟩ := hvt
      simp only at c0 c1 c2 c3 v0 v1 v2 v3 hnm
      have b0 : (0 : Int) ≤ (k : Int) := by omega
      have b1 : (k : Int) < (row.length : Int) := by omega
      have b2 : (k : Int) < (S.cols.length : Int) := by omega
      have HF1 : Hid (∀ W, Below wr.heap.size wr W → Calls Tryz.prog 19 #[.agg #[.string n, .int .i64 t, .int .i64 z, .bool u], .agg #[.int .i64 v.k, .int .i64 v.i, .int .u64 v.u, .string v.s]] W fun e w' => e = .returned (.int .i64 (fitN ⟨n, t, z, u⟩ v)) ∧ Below W.heap.size W w') := Lib.hid (fun W hb => by
        have h := HFT.out ⟨n, t, z, u⟩ v W hnm (HBW.out.trans (hb.mono HBW.out.size))
        unfold fitsN at h
        rw [if_pos hok] at h
        exact h)
      have HF2 : Hid (∀ W, fitN ⟨n, t, z, u⟩ v = 0 → Below wr.heap.size wr W → Calls Tryz.prog 19 #[.agg #[.string n, .int .i64 t, .int .i64 (upZ t z), .bool true], .agg #[.int .i64 v.k, .int .i64 v.i, .int .u64 v.u, .string v.s]] W fun e w' => e = .returned (.int .i64 0) ∧ Below W.heap.size W w') := Lib.hid (fun W h0 hb => by
        have h := HFT.out ⟨n, t, upZ t z, true⟩ v W hnm (HBW.out.trans (hb.mono HBW.out.size))
        rw [fits_up hok h0] at h
        exact h)
      clear HFT hc hv
      have hs : szOk t z = true := by unfold colOk at hok; rw [Bool.and_eq_true] at hok; exact hok.1
      clear hok
      go_wp2_with fail
      refine wp_region_laterN (by kernel_rfl) (by kernel_rfl) ?_
      intro W hW
      have hbW : Below wr.heap.size wr W := by rw [← hW]; exact (Below.refl _ _).alloc (Nat.le_refl _) _
      have e0 : W.cell? ⟨wr.heap.size, 0, none⟩ = some (.string n) := by rw [← hW]; simp [go_sem]
      have e1 : W.cell? ⟨wr.heap.size, 1, none⟩ = some (.int .i64 t) := by rw [← hW]; simp [go_sem]
      have e2 : W.cell? ⟨wr.heap.size, 2, none⟩ = some (.int .i64 z) := by rw [← hW]; simp [go_sem]
      have e3 : W.cell? ⟨wr.heap.size, 3, none⟩ = some (.bool u) := by rw [← hW]; simp [go_sem]
      have f1 : W.frozen? ⟨wr.heap.size, 2, none⟩ = false := by rw [← hW]; simp [go_sem]
      have f2 : W.frozen? ⟨wr.heap.size, 3, none⟩ = false := by rw [← hW]; simp [go_sem]
      have hsW : wr.heap.size < W.heap.size := by rw [← hW]; simp
      clear hW
      have y0 := cell_old v0 hbW
      have y1 := cell_old v1 hbW
      have y2 := cell_old v2 hbW
      have y3 := cell_old v3 hbW
      have j0 := cell_old k0 hbW
      have j1 := cell_old k1 hbW
      have j2 := cell_old k2 hbW
      have hvlt : (av.add (k * 4)).block < wr.heap.size := World.block_lt_of_cell? wr _ v0
      clear k0 k1 k2 c0 c1 c2 c3 hvl
      have l0 : ∀ p : Later W, p.W.cell? ⟨wr.heap.size, 0, none⟩ = some (.string n) := later_cell e0
      have l1 : ∀ p : Later W, p.W.cell? ⟨wr.heap.size, 1, none⟩ = some (.int .i64 t) := later_cell e1
      have l2 : ∀ p : Later W, p.W.cell? ⟨wr.heap.size, 2, none⟩ = some (.int .i64 z) := later_cell e2
      have l3 : ∀ p : Later W, p.W.cell? ⟨wr.heap.size, 3, none⟩ = some (.bool u) := later_cell e3
      have l4 : ∀ p : Later W, p.W.cell? (av.add (k * 4)) = some (.int .i64 v.k) := later_cell y0
      have l5 : ∀ p : Later W, p.W.cell? ⟨(av.add (k * 4)).block, (av.add (k * 4)).off + 1, none⟩ = some (.int .i64 v.i) := later_cell y1
      have l6 : ∀ p : Later W, p.W.cell? ⟨(av.add (k * 4)).block, (av.add (k * 4)).off + 2, none⟩ = some (.int .u64 v.u) := later_cell y2
      have l7 : ∀ p : Later W, p.W.cell? ⟨(av.add (k * 4)).block, (av.add (k * 4)).off + 3, none⟩ = some (.string v.s) := later_cell y3
      by_cases h0 : fitN ⟨n, t, z, u⟩ v = 0
      · rw [h0] at HF1
        have HF3 : Hid (∀ W, Below wr.heap.size wr W → Calls Tryz.prog 19 #[.agg #[.string n, .int .i64 t, .int .i64 (upZ t z), .bool true], .agg #[.int .i64 v.k, .int .i64 v.i, .int .u64 v.u, .string v.s]] W fun e w' => e = .returned (.int .i64 0) ∧ Below W.heap.size W w') := Lib.hid (fun W hb => HF2.out W h0 hb)
        have HSV := Lib.hid (show fitTo S.cols row (k + 1) = fitTo S.cols row k by rw [HSU.out, h0]; simp)
        clear h0 HF2 HSU
        repeat (go_big_quiet_step ((first | (go_at_call 19; exact Calls.later (HF1.out _ (hbW.trans ((Later.h _).mono hbW.size)))) | (go_at_call 14; exact Calls.later_same (l3num_any _ _)))))
        refine wpQuiet_nil ?_
        rintro w3 ⟨⟨W3, hb3⟩, rfl⟩
        have hbw3 := hbW.trans (hb3.mono hbW.size)
        have e0 := cell_old e0 hb3
        have e1 := cell_old e1 hb3
        have e2 := cell_old e2 hb3
        have e3 := cell_old e3 hb3
        have y0 := cell_old y0 hb3
        have y1 := cell_old y1 hb3
        have y2 := cell_old y2 hb3
        have y3 := cell_old y3 hb3
        have f1 : w3.frozen? ⟨wr.heap.size, 2, none⟩ = false := by rw [hb3.frozen hsW]; exact f1
        have f2 : w3.frozen? ⟨wr.heap.size, 3, none⟩ = false := by rw [hb3.frozen hsW]; exact f2
        have hs3 : wr.heap.size < w3.heap.size := by have := hb3.size; omega
        have hne : (av.add (k * 4)).block ≠ wr.heap.size := by omega
        clear hb3 hbW l0 l1 l2 l3 l4 l5 l6 l7 j0 j1 j2 hsW
        cases a
        · rcases type_cases t with ht | rfl | rfl | rfl | rfl
          · rw [szOk_none ht] at hs; cases hs
          · rcases numSz_cases (show numSz z = true from hs) with rfl | rfl | rfl | rfl
            · clear hs
              go_wp2_with fail
              refine wp_region_laterN (by kernel_rfl) (by kernel_rfl) ?_
              intro W4 hW4
              have hbW4 : Below wr.heap.size wr W4 := by rw [← hW4]; exact (((hbw3.setCell (p := ⟨wr.heap.size, 3, none⟩) (Nat.le_refl _) _).setCell (p := ⟨wr.heap.size, 2, none⟩) (Nat.le_refl _) _).alloc ((hbw3.setCell (p := ⟨wr.heap.size, 3, none⟩) (Nat.le_refl _) _).setCell (p := ⟨wr.heap.size, 2, none⟩) (Nat.le_refl _) _).size _)
              have g0 : W4.cell? ⟨wr.heap.size, 0, none⟩ = some (.string n) := by rw [← hW4]; simp [go_sem, e0, hs3]
              have g1 : W4.cell? ⟨wr.heap.size, 1, none⟩ = some (.int .i64 1) := by rw [← hW4]; simp [go_sem, e1, hs3]
              have g2 : W4.cell? ⟨wr.heap.size, 2, none⟩ = some (.int .i64 (upZ 1 1)) := by rw [← hW4]; simp [go_sem, e2, hs3, upZ]
              have g3 : W4.cell? ⟨wr.heap.size, 3, none⟩ = some (.bool true) := by rw [← hW4]; simp [go_sem, e3, hs3]
              have r0 : W4.cell? (av.add (k * 4)) = some (.int .i64 v.k) := (hbW4.cell (p := (av.add (k * 4))) hvlt).trans v0
              have r1 : W4.cell? ⟨(av.add (k * 4)).block, (av.add (k * 4)).off + 1, none⟩ = some (.int .i64 v.i) := (hbW4.cell (p := ⟨(av.add (k * 4)).block, (av.add (k * 4)).off + 1, none⟩) hvlt).trans v1
              have r2 : W4.cell? ⟨(av.add (k * 4)).block, (av.add (k * 4)).off + 2, none⟩ = some (.int .u64 v.u) := (hbW4.cell (p := ⟨(av.add (k * 4)).block, (av.add (k * 4)).off + 2, none⟩) hvlt).trans v2
              have r3 : W4.cell? ⟨(av.add (k * 4)).block, (av.add (k * 4)).off + 3, none⟩ = some (.string v.s) := (hbW4.cell (p := ⟨(av.add (k * 4)).block, (av.add (k * 4)).off + 3, none⟩) hvlt).trans v3
              have l0 := later_cell g0
              have l1 := later_cell g1
              have l2 := later_cell g2
              have l3 := later_cell g3
              have l4 := later_cell r0
              have l5 := later_cell r1
              have l6 := later_cell r2
              have l7 := later_cell r3
              clear hW4
              repeat (go_big_quiet_step ((first | (go_at_call 19; exact Calls.later (HF3.out _ (hbW4.trans ((Later.h _).mono hbW4.size)))) | (go_at_call 14; exact Calls.later_same (l3num_any _ _)))))
              refine wpQuiet_nil ?_
              rintro w5 ⟨⟨W5, hb5⟩, rfl⟩
              have HB6 := Lib.hid (HB3.out.trans ((hbW4.trans (hb5.mono hbW4.size)).mono HB3.out.size))
              clear hb5
              go_wp2_with fail
              go_roundw
              case rel => exact ⟨k + 1, _, by omega, by omega, by go_num, rfl, Lib.hid (by rw [HSV.out, ← HA.out]), HB6⟩
              case measure => simp [intOf]; omega
            · clear hs
              go_wp2_with fail
              refine wp_region_laterN (by kernel_rfl) (by kernel_rfl) ?_
              intro W4 hW4
              have hbW4 : Below wr.heap.size wr W4 := by rw [← hW4]; exact (((hbw3.setCell (p := ⟨wr.heap.size, 3, none⟩) (Nat.le_refl _) _).setCell (p := ⟨wr.heap.size, 2, none⟩) (Nat.le_refl _) _).alloc ((hbw3.setCell (p := ⟨wr.heap.size, 3, none⟩) (Nat.le_refl _) _).setCell (p := ⟨wr.heap.size, 2, none⟩) (Nat.le_refl _) _).size _)
              have g0 : W4.cell? ⟨wr.heap.size, 0, none⟩ = some (.string n) := by rw [← hW4]; simp [go_sem, e0, hs3]
              have g1 : W4.cell? ⟨wr.heap.size, 1, none⟩ = some (.int .i64 1) := by rw [← hW4]; simp [go_sem, e1, hs3]
              have g2 : W4.cell? ⟨wr.heap.size, 2, none⟩ = some (.int .i64 (upZ 1 2)) := by rw [← hW4]; simp [go_sem, e2, hs3, upZ]
              have g3 : W4.cell? ⟨wr.heap.size, 3, none⟩ = some (.bool true) := by rw [← hW4]; simp [go_sem, e3, hs3]
              have r0 : W4.cell? (av.add (k * 4)) = some (.int .i64 v.k) := (hbW4.cell (p := (av.add (k * 4))) hvlt).trans v0
              have r1 : W4.cell? ⟨(av.add (k * 4)).block, (av.add (k * 4)).off + 1, none⟩ = some (.int .i64 v.i) := (hbW4.cell (p := ⟨(av.add (k * 4)).block, (av.add (k * 4)).off + 1, none⟩) hvlt).trans v1
              have r2 : W4.cell? ⟨(av.add (k * 4)).block, (av.add (k * 4)).off + 2, none⟩ = some (.int .u64 v.u) := (hbW4.cell (p := ⟨(av.add (k * 4)).block, (av.add (k * 4)).off + 2, none⟩) hvlt).trans v2
              have r3 : W4.cell? ⟨(av.add (k * 4)).block, (av.add (k * 4)).off + 3, none⟩ = some (.string v.s) := (hbW4.cell (p := ⟨(av.add (k * 4)).block, (av.add (k * 4)).off + 3, none⟩) hvlt).trans v3
              have l0 := later_cell g0
              have l1 := later_cell g1
              have l2 := later_cell g2
              have l3 := later_cell g3
              have l4 := later_cell r0
              have l5 := later_cell r1
              have l6 := later_cell r2
              have l7 := later_cell r3
              clear hW4
              repeat (go_big_quiet_step ((first | (go_at_call 19; exact Calls.later (HF3.out _ (hbW4.trans ((Later.h _).mono hbW4.size)))) | (go_at_call 14; exact Calls.later_same (l3num_any _ _)))))
              refine wpQuiet_nil ?_
              rintro w5 ⟨⟨W5, hb5⟩, rfl⟩
              have HB6 := Lib.hid (HB3.out.trans ((hbW4.trans (hb5.mono hbW4.size)).mono HB3.out.size))
              clear hb5
              go_wp2_with fail
              go_roundw
              case rel => exact ⟨k + 1, _, by omega, by omega, by go_num, rfl, Lib.hid (by rw [HSV.out, ← HA.out]), HB6⟩
              case measure => simp [intOf]; omega
            · clear hs
              go_wp2_with fail
              refine wp_region_laterN (by kernel_rfl) (by kernel_rfl) ?_
              intro W4 hW4
              have hbW4 : Below wr.heap.size wr W4 := by rw [← hW4]; exact (((hbw3.setCell (p := ⟨wr.heap.size, 3, none⟩) (Nat.le_refl _) _).setCell (p := ⟨wr.heap.size, 2, none⟩) (Nat.le_refl _) _).alloc ((hbw3.setCell (p := ⟨wr.heap.size, 3, none⟩) (Nat.le_refl _) _).setCell (p := ⟨wr.heap.size, 2, none⟩) (Nat.le_refl _) _).size _)
              have g0 : W4.cell? ⟨wr.heap.size, 0, none⟩ = some (.string n) := by rw [← hW4]; simp [go_sem, e0, hs3]
              have g1 : W4.cell? ⟨wr.heap.size, 1, none⟩ = some (.int .i64 1) := by rw [← hW4]; simp [go_sem, e1, hs3]
              have g2 : W4.cell? ⟨wr.heap.size, 2, none⟩ = some (.int .i64 (upZ 1 4)) := by rw [← hW4]; simp [go_sem, e2, hs3, upZ]
              have g3 : W4.cell? ⟨wr.heap.size, 3, none⟩ = some (.bool true) := by rw [← hW4]; simp [go_sem, e3, hs3]
              have r0 : W4.cell? (av.add (k * 4)) = some (.int .i64 v.k) := (hbW4.cell (p := (av.add (k * 4))) hvlt).trans v0
              have r1 : W4.cell? ⟨(av.add (k * 4)).block, (av.add (k * 4)).off + 1, none⟩ = some (.int .i64 v.i) := (hbW4.cell (p := ⟨(av.add (k * 4)).block, (av.add (k * 4)).off + 1, none⟩) hvlt).trans v1
              have r2 : W4.cell? ⟨(av.add (k * 4)).block, (av.add (k * 4)).off + 2, none⟩ = some (.int .u64 v.u) := (hbW4.cell (p := ⟨(av.add (k * 4)).block, (av.add (k * 4)).off + 2, none⟩) hvlt).trans v2
              have r3 : W4.cell? ⟨(av.add (k * 4)).block, (av.add (k * 4)).off + 3, none⟩ = some (.string v.s) := (hbW4.cell (p := ⟨(av.add (k * 4)).block, (av.add (k * 4)).off + 3, none⟩) hvlt).trans v3
              have l0 := later_cell g0
              have l1 := later_cell g1
              have l2 := later_cell g2
              have l3 := later_cell g3
              have l4 := later_cell r0
              have l5 := later_cell r1
              have l6 := later_cell r2
              have l7 := later_cell r3
              clear hW4
              repeat (go_big_quiet_step ((first | (go_at_call 19; exact Calls.later (HF3.out _ (hbW4.trans ((Later.h _).mono hbW4.size)))) | (go_at_call 14; exact Calls.later_same (l3num_any _ _)))))
              refine wpQuiet_nil ?_
              rintro w5 ⟨⟨W5, hb5⟩, rfl⟩
              have HB6 := Lib.hid (HB3.out.trans ((hbW4.trans (hb5.mono hbW4.size)).mono HB3.out.size))
              clear hb5
              go_wp2_with fail
              go_roundw
              case rel => exact ⟨k + 1, _, by omega, by omega, by go_num, rfl, Lib.hid (by rw [HSV.out, ← HA.out]), HB6⟩
              case measure => simp [intOf]; omega
            · clear hs
              go_wp2_with fail
              refine wp_region_laterN (by kernel_rfl) (by kernel_rfl) ?_
              intro W4 hW4
              have hbW4 : Below wr.heap.size wr W4 := by rw [← hW4]; exact (((hbw3.setCell (p := ⟨wr.heap.size, 3, none⟩) (Nat.le_refl _) _).setCell (p := ⟨wr.heap.size, 2, none⟩) (Nat.le_refl _) _).alloc ((hbw3.setCell (p := ⟨wr.heap.size, 3, none⟩) (Nat.le_refl _) _).setCell (p := ⟨wr.heap.size, 2, none⟩) (Nat.le_refl _) _).size _)
              have g0 : W4.cell? ⟨wr.heap.size, 0, none⟩ = some (.string n) := by rw [← hW4]; simp [go_sem, e0, hs3]
              have g1 : W4.cell? ⟨wr.heap.size, 1, none⟩ = some (.int .i64 1) := by rw [← hW4]; simp [go_sem, e1, hs3]
              have g2 : W4.cell? ⟨wr.heap.size, 2, none⟩ = some (.int .i64 (upZ 1 8)) := by rw [← hW4]; simp [go_sem, e2, hs3, upZ]
              have g3 : W4.cell? ⟨wr.heap.size, 3, none⟩ = some (.bool true) := by rw [← hW4]; simp [go_sem, e3, hs3]
              have r0 : W4.cell? (av.add (k * 4)) = some (.int .i64 v.k) := (hbW4.cell (p := (av.add (k * 4))) hvlt).trans v0
              have r1 : W4.cell? ⟨(av.add (k * 4)).block, (av.add (k * 4)).off + 1, none⟩ = some (.int .i64 v.i) := (hbW4.cell (p := ⟨(av.add (k * 4)).block, (av.add (k * 4)).off + 1, none⟩) hvlt).trans v1
              have r2 : W4.cell? ⟨(av.add (k * 4)).block, (av.add (k * 4)).off + 2, none⟩ = some (.int .u64 v.u) := (hbW4.cell (p := ⟨(av.add (k * 4)).block, (av.add (k * 4)).off + 2, none⟩) hvlt).trans v2
              have r3 : W4.cell? ⟨(av.add (k * 4)).block, (av.add (k * 4)).off + 3, none⟩ = some (.string v.s) := (hbW4.cell (p := ⟨(av.add (k * 4)).block, (av.add (k * 4)).off + 3, none⟩) hvlt).trans v3
              have l0 := later_cell g0
              have l1 := later_cell g1
              have l2 := later_cell g2
              have l3 := later_cell g3
              have l4 := later_cell r0
              have l5 := later_cell r1
              have l6 := later_cell r2
              have l7 := later_cell r3
              clear hW4
              repeat (go_big_quiet_step ((first | (go_at_call 19; exact Calls.later (HF3.out _ (hbW4.trans ((Later.h _).mono hbW4.size)))) | (go_at_call 14; exact Calls.later_same (l3num_any _ _)))))
              refine wpQuiet_nil ?_
              rintro w5 ⟨⟨W5, hb5⟩, rfl⟩
              have HB6 := Lib.hid (HB3.out.trans ((hbW4.trans (hb5.mono hbW4.size)).mono HB3.out.size))
              clear hb5
              go_wp2_with fail
              go_roundw
              case rel => exact ⟨k + 1, _, by omega, by omega, by go_num, rfl, Lib.hid (by rw [HSV.out, ← HA.out]), HB6⟩
              case measure => simp [intOf]; omega
          · rcases numSz_cases (show numSz z = true from hs) with rfl | rfl | rfl | rfl
            · clear hs
              go_wp2_with fail
              refine wp_region_laterN (by kernel_rfl) (by kernel_rfl) ?_
              intro W4 hW4
              have hbW4 : Below wr.heap.size wr W4 := by rw [← hW4]; exact (((hbw3.setCell (p := ⟨wr.heap.size, 3, none⟩) (Nat.le_refl _) _).setCell (p := ⟨wr.heap.size, 2, none⟩) (Nat.le_refl _) _).alloc ((hbw3.setCell (p := ⟨wr.heap.size, 3, none⟩) (Nat.le_refl _) _).setCell (p := ⟨wr.heap.size, 2, none⟩) (Nat.le_refl _) _).size _)
              have g0 : W4.cell? ⟨wr.heap.size, 0, none⟩ = some (.string n) := by rw [← hW4]; simp [go_sem, e0, hs3]
              have g1 : W4.cell? ⟨wr.heap.size, 1, none⟩ = some (.int .i64 2) := by rw [← hW4]; simp [go_sem, e1, hs3]
              have g2 : W4.cell? ⟨wr.heap.size, 2, none⟩ = some (.int .i64 (upZ 2 1)) := by rw [← hW4]; simp [go_sem, e2, hs3, upZ]
              have g3 : W4.cell? ⟨wr.heap.size, 3, none⟩ = some (.bool true) := by rw [← hW4]; simp [go_sem, e3, hs3]
              have r0 : W4.cell? (av.add (k * 4)) = some (.int .i64 v.k) := (hbW4.cell (p := (av.add (k * 4))) hvlt).trans v0
              have r1 : W4.cell? ⟨(av.add (k * 4)).block, (av.add (k * 4)).off + 1, none⟩ = some (.int .i64 v.i) := (hbW4.cell (p := ⟨(av.add (k * 4)).block, (av.add (k * 4)).off + 1, none⟩) hvlt).trans v1
              have r2 : W4.cell? ⟨(av.add (k * 4)).block, (av.add (k * 4)).off + 2, none⟩ = some (.int .u64 v.u) := (hbW4.cell (p := ⟨(av.add (k * 4)).block, (av.add (k * 4)).off + 2, none⟩) hvlt).trans v2
              have r3 : W4.cell? ⟨(av.add (k * 4)).block, (av.add (k * 4)).off + 3, none⟩ = some (.string v.s) := (hbW4.cell (p := ⟨(av.add (k * 4)).block, (av.add (k * 4)).off + 3, none⟩) hvlt).trans v3
              have l0 := later_cell g0
              have l1 := later_cell g1
              have l2 := later_cell g2
              have l3 := later_cell g3
              have l4 := later_cell r0
              have l5 := later_cell r1
              have l6 := later_cell r2
              have l7 := later_cell r3
              clear hW4
              repeat (go_big_quiet_step ((first | (go_at_call 19; exact Calls.later (HF3.out _ (hbW4.trans ((Later.h _).mono hbW4.size)))) | (go_at_call 14; exact Calls.later_same (l3num_any _ _)))))
              refine wpQuiet_nil ?_
              rintro w5 ⟨⟨W5, hb5⟩, rfl⟩
              have HB6 := Lib.hid (HB3.out.trans ((hbW4.trans (hb5.mono hbW4.size)).mono HB3.out.size))
              clear hb5
              go_wp2_with fail
              go_roundw
              case rel => exact ⟨k + 1, _, by omega, by omega, by go_num, rfl, Lib.hid (by rw [HSV.out, ← HA.out]), HB6⟩
              case measure => simp [intOf]; omega
            · clear hs
              go_wp2_with fail
              refine wp_region_laterN (by kernel_rfl) (by kernel_rfl) ?_
              intro W4 hW4
              have hbW4 : Below wr.heap.size wr W4 := by rw [← hW4]; exact (((hbw3.setCell (p := ⟨wr.heap.size, 3, none⟩) (Nat.le_refl _) _).setCell (p := ⟨wr.heap.size, 2, none⟩) (Nat.le_refl _) _).alloc ((hbw3.setCell (p := ⟨wr.heap.size, 3, none⟩) (Nat.le_refl _) _).setCell (p := ⟨wr.heap.size, 2, none⟩) (Nat.le_refl _) _).size _)
              have g0 : W4.cell? ⟨wr.heap.size, 0, none⟩ = some (.string n) := by rw [← hW4]; simp [go_sem, e0, hs3]
              have g1 : W4.cell? ⟨wr.heap.size, 1, none⟩ = some (.int .i64 2) := by rw [← hW4]; simp [go_sem, e1, hs3]
              have g2 : W4.cell? ⟨wr.heap.size, 2, none⟩ = some (.int .i64 (upZ 2 2)) := by rw [← hW4]; simp [go_sem, e2, hs3, upZ]
              have g3 : W4.cell? ⟨wr.heap.size, 3, none⟩ = some (.bool true) := by rw [← hW4]; simp [go_sem, e3, hs3]
              have r0 : W4.cell? (av.add (k * 4)) = some (.int .i64 v.k) := (hbW4.cell (p := (av.add (k * 4))) hvlt).trans v0
              have r1 : W4.cell? ⟨(av.add (k * 4)).block, (av.add (k * 4)).off + 1, none⟩ = some (.int .i64 v.i) := (hbW4.cell (p := ⟨(av.add (k * 4)).block, (av.add (k * 4)).off + 1, none⟩) hvlt).trans v1
              have r2 : W4.cell? ⟨(av.add (k * 4)).block, (av.add (k * 4)).off + 2, none⟩ = some (.int .u64 v.u) := (hbW4.cell (p := ⟨(av.add (k * 4)).block, (av.add (k * 4)).off + 2, none⟩) hvlt).trans v2
              have r3 : W4.cell? ⟨(av.add (k * 4)).block, (av.add (k * 4)).off + 3, none⟩ = some (.string v.s) := (hbW4.cell (p := ⟨(av.add (k * 4)).block, (av.add (k * 4)).off + 3, none⟩) hvlt).trans v3
              have l0 := later_cell g0
              have l1 := later_cell g1
              have l2 := later_cell g2
              have l3 := later_cell g3
              have l4 := later_cell r0
              have l5 := later_cell r1
              have l6 := later_cell r2
              have l7 := later_cell r3
              clear hW4
              repeat (go_big_quiet_step ((first | (go_at_call 19; exact Calls.later (HF3.out _ (hbW4.trans ((Later.h _).mono hbW4.size)))) | (go_at_call 14; exact Calls.later_same (l3num_any _ _)))))
              refine wpQuiet_nil ?_
              rintro w5 ⟨⟨W5, hb5⟩, rfl⟩
              have HB6 := Lib.hid (HB3.out.trans ((hbW4.trans (hb5.mono hbW4.size)).mono HB3.out.size))
              clear hb5
              go_wp2_with fail
              go_roundw
              case rel => exact ⟨k + 1, _, by omega, by omega, by go_num, rfl, Lib.hid (by rw [HSV.out, ← HA.out]), HB6⟩
              case measure => simp [intOf]; omega
            · clear hs
              go_wp2_with fail
              refine wp_region_laterN (by kernel_rfl) (by kernel_rfl) ?_
              intro W4 hW4
              have hbW4 : Below wr.heap.size wr W4 := by rw [← hW4]; exact (((hbw3.setCell (p := ⟨wr.heap.size, 3, none⟩) (Nat.le_refl _) _).setCell (p := ⟨wr.heap.size, 2, none⟩) (Nat.le_refl _) _).alloc ((hbw3.setCell (p := ⟨wr.heap.size, 3, none⟩) (Nat.le_refl _) _).setCell (p := ⟨wr.heap.size, 2, none⟩) (Nat.le_refl _) _).size _)
              have g0 : W4.cell? ⟨wr.heap.size, 0, none⟩ = some (.string n) := by rw [← hW4]; simp [go_sem, e0, hs3]
              have g1 : W4.cell? ⟨wr.heap.size, 1, none⟩ = some (.int .i64 2) := by rw [← hW4]; simp [go_sem, e1, hs3]
              have g2 : W4.cell? ⟨wr.heap.size, 2, none⟩ = some (.int .i64 (upZ 2 4)) := by rw [← hW4]; simp [go_sem, e2, hs3, upZ]
              have g3 : W4.cell? ⟨wr.heap.size, 3, none⟩ = some (.bool true) := by rw [← hW4]; simp [go_sem, e3, hs3]
              have r0 : W4.cell? (av.add (k * 4)) = some (.int .i64 v.k) := (hbW4.cell (p := (av.add (k * 4))) hvlt).trans v0
              have r1 : W4.cell? ⟨(av.add (k * 4)).block, (av.add (k * 4)).off + 1, none⟩ = some (.int .i64 v.i) := (hbW4.cell (p := ⟨(av.add (k * 4)).block, (av.add (k * 4)).off + 1, none⟩) hvlt).trans v1
              have r2 : W4.cell? ⟨(av.add (k * 4)).block, (av.add (k * 4)).off + 2, none⟩ = some (.int .u64 v.u) := (hbW4.cell (p := ⟨(av.add (k * 4)).block, (av.add (k * 4)).off + 2, none⟩) hvlt).trans v2
              have r3 : W4.cell? ⟨(av.add (k * 4)).block, (av.add (k * 4)).off + 3, none⟩ = some (.string v.s) := (hbW4.cell (p := ⟨(av.add (k * 4)).block, (av.add (k * 4)).off + 3, none⟩) hvlt).trans v3
              have l0 := later_cell g0
              have l1 := later_cell g1
              have l2 := later_cell g2
              have l3 := later_cell g3
              have l4 := later_cell r0
              have l5 := later_cell r1
              have l6 := later_cell r2
              have l7 := later_cell r3
              clear hW4
              repeat (go_big_quiet_step ((first | (go_at_call 19; exact Calls.later (HF3.out _ (hbW4.trans ((Later.h _).mono hbW4.size)))) | (go_at_call 14; exact Calls.later_same (l3num_any _ _)))))
              refine wpQuiet_nil ?_
              rintro w5 ⟨⟨W5, hb5⟩, rfl⟩
              have HB6 := Lib.hid (HB3.out.trans ((hbW4.trans (hb5.mono hbW4.size)).mono HB3.out.size))
              clear hb5
              go_wp2_with fail
              go_roundw
              case rel => exact ⟨k + 1, _, by omega, by omega, by go_num, rfl, Lib.hid (by rw [HSV.out, ← HA.out]), HB6⟩
              case measure => simp [intOf]; omega
            · clear hs
              go_wp2_with fail
              refine wp_region_laterN (by kernel_rfl) (by kernel_rfl) ?_
              intro W4 hW4
              have hbW4 : Below wr.heap.size wr W4 := by rw [← hW4]; exact (((hbw3.setCell (p := ⟨wr.heap.size, 3, none⟩) (Nat.le_refl _) _).setCell (p := ⟨wr.heap.size, 2, none⟩) (Nat.le_refl _) _).alloc ((hbw3.setCell (p := ⟨wr.heap.size, 3, none⟩) (Nat.le_refl _) _).setCell (p := ⟨wr.heap.size, 2, none⟩) (Nat.le_refl _) _).size _)
              have g0 : W4.cell? ⟨wr.heap.size, 0, none⟩ = some (.string n) := by rw [← hW4]; simp [go_sem, e0, hs3]
              have g1 : W4.cell? ⟨wr.heap.size, 1, none⟩ = some (.int .i64 2) := by rw [← hW4]; simp [go_sem, e1, hs3]
              have g2 : W4.cell? ⟨wr.heap.size, 2, none⟩ = some (.int .i64 (upZ 2 8)) := by rw [← hW4]; simp [go_sem, e2, hs3, upZ]
              have g3 : W4.cell? ⟨wr.heap.size, 3, none⟩ = some (.bool true) := by rw [← hW4]; simp [go_sem, e3, hs3]
              have r0 : W4.cell? (av.add (k * 4)) = some (.int .i64 v.k) := (hbW4.cell (p := (av.add (k * 4))) hvlt).trans v0
              have r1 : W4.cell? ⟨(av.add (k * 4)).block, (av.add (k * 4)).off + 1, none⟩ = some (.int .i64 v.i) := (hbW4.cell (p := ⟨(av.add (k * 4)).block, (av.add (k * 4)).off + 1, none⟩) hvlt).trans v1
              have r2 : W4.cell? ⟨(av.add (k * 4)).block, (av.add (k * 4)).off + 2, none⟩ = some (.int .u64 v.u) := (hbW4.cell (p := ⟨(av.add (k * 4)).block, (av.add (k * 4)).off + 2, none⟩) hvlt).trans v2
              have r3 : W4.cell? ⟨(av.add (k * 4)).block, (av.add (k * 4)).off + 3, none⟩ = some (.string v.s) := (hbW4.cell (p := ⟨(av.add (k * 4)).block, (av.add (k * 4)).off + 3, none⟩) hvlt).trans v3
              have l0 := later_cell g0
              have l1 := later_cell g1
              have l2 := later_cell g2
              have l3 := later_cell g3
              have l4 := later_cell r0
              have l5 := later_cell r1
              have l6 := later_cell r2
              have l7 := later_cell r3
              clear hW4
              repeat (go_big_quiet_step ((first | (go_at_call 19; exact Calls.later (HF3.out _ (hbW4.trans ((Later.h _).mono hbW4.size)))) | (go_at_call 14; exact Calls.later_same (l3num_any _ _)))))
              refine wpQuiet_nil ?_
              rintro w5 ⟨⟨W5, hb5⟩, rfl⟩
              have HB6 := Lib.hid (HB3.out.trans ((hbW4.trans (hb5.mono hbW4.size)).mono HB3.out.size))
              clear hb5
              go_wp2_with fail
              go_roundw
              case rel => exact ⟨k + 1, _, by omega, by omega, by go_num, rfl, Lib.hid (by rw [HSV.out, ← HA.out]), HB6⟩
              case measure => simp [intOf]; omega
          · clear hs
            go_wp2_with fail
            refine wp_region_laterN (by kernel_rfl) (by kernel_rfl) ?_
            intro W4 hW4
            have hbW4 : Below wr.heap.size wr W4 := by rw [← hW4]; exact (hbw3.setCell (p := ⟨wr.heap.size, 3, none⟩) (Nat.le_refl _) _)
            have g0 : W4.cell? ⟨wr.heap.size, 0, none⟩ = some (.string n) := by rw [← hW4]; simp [go_sem, e0]
            have g1 : W4.cell? ⟨wr.heap.size, 1, none⟩ = some (.int .i64 3) := by rw [← hW4]; simp [go_sem, e1]
            have g2 : W4.cell? ⟨wr.heap.size, 2, none⟩ = some (.int .i64 (upZ 3 z)) := by rw [← hW4]; simp [go_sem, e2, upZ]
            have g3 : W4.cell? ⟨wr.heap.size, 3, none⟩ = some (.bool true) := by rw [← hW4]; simp [go_sem, e3]
            have r0 : W4.cell? (av.add (k * 4)) = some (.int .i64 v.k) := (hbW4.cell (p := (av.add (k * 4))) hvlt).trans v0
            have r1 : W4.cell? ⟨(av.add (k * 4)).block, (av.add (k * 4)).off + 1, none⟩ = some (.int .i64 v.i) := (hbW4.cell (p := ⟨(av.add (k * 4)).block, (av.add (k * 4)).off + 1, none⟩) hvlt).trans v1
            have r2 : W4.cell? ⟨(av.add (k * 4)).block, (av.add (k * 4)).off + 2, none⟩ = some (.int .u64 v.u) := (hbW4.cell (p := ⟨(av.add (k * 4)).block, (av.add (k * 4)).off + 2, none⟩) hvlt).trans v2
            have r3 : W4.cell? ⟨(av.add (k * 4)).block, (av.add (k * 4)).off + 3, none⟩ = some (.string v.s) := (hbW4.cell (p := ⟨(av.add (k * 4)).block, (av.add (k * 4)).off + 3, none⟩) hvlt).trans v3
            have l0 := later_cell g0
            have l1 := later_cell g1
            have l2 := later_cell g2
            have l3 := later_cell g3
            have l4 := later_cell r0
            have l5 := later_cell r1
            have l6 := later_cell r2
            have l7 := later_cell r3
            clear hW4
            repeat (go_big_quiet_step ((first | (go_at_call 19; exact Calls.later (HF3.out _ (hbW4.trans ((Later.h _).mono hbW4.size)))) | (go_at_call 14; exact Calls.later_same (l3num_any _ _)))))
            refine wpQuiet_nil ?_
            rintro w5 ⟨⟨W5, hb5⟩, rfl⟩
            have HB6 := Lib.hid (HB3.out.trans ((hbW4.trans (hb5.mono hbW4.size)).mono HB3.out.size))
            clear hb5
            go_wp2_with fail
            go_roundw
            case rel => exact ⟨k + 1, _, by omega, by omega, by go_num, rfl, Lib.hid (by rw [HSV.out, ← HA.out]), HB6⟩
            case measure => simp [intOf]; omega
          · have hz : byteSz z = true := hs
            unfold byteSz at hz
            rw [Bool.and_eq_true, decide_eq_true_eq, decide_eq_true_eq] at hz
            obtain ⟨z1, z2⟩ := hz
            clear hs
            by_cases z8 : z < 8
            · obtain ⟨m, rfl⟩ := Int.eq_ofNat_of_zero_le (show 0 ≤ z by omega)
              rcases (show m = 1 ∨ m = 2 ∨ m = 3 ∨ m = 4 ∨ m = 5 ∨ m = 6 ∨ m = 7 by omega) with rfl | rfl | rfl | rfl | rfl | rfl | rfl
              · go_wp2_with fail
                refine wp_region_laterN (by kernel_rfl) (by kernel_rfl) ?_
                intro W4 hW4
                have hbW4 : Below wr.heap.size wr W4 := by rw [← hW4]; exact ((((hbw3.setCell (p := ⟨wr.heap.size, 3, none⟩) (Nat.le_refl _) _).setCell (p := ⟨wr.heap.size, 2, none⟩) (Nat.le_refl _) _).setCell (p := ⟨wr.heap.size, 2, none⟩) (Nat.le_refl _) _).alloc (((hbw3.setCell (p := ⟨wr.heap.size, 3, none⟩) (Nat.le_refl _) _).setCell (p := ⟨wr.heap.size, 2, none⟩) (Nat.le_refl _) _).setCell (p := ⟨wr.heap.size, 2, none⟩) (Nat.le_refl _) _).size _)
                have g0 : W4.cell? ⟨wr.heap.size, 0, none⟩ = some (.string n) := by rw [← hW4]; simp [go_sem, e0, hs3]
                have g1 : W4.cell? ⟨wr.heap.size, 1, none⟩ = some (.int .i64 4) := by rw [← hW4]; simp [go_sem, e1, hs3]
                have g2 : W4.cell? ⟨wr.heap.size, 2, none⟩ = some (.int .i64 (upZ 4 ((1 : Nat) : Int))) := by rw [← hW4]; simp only [upZ4]; exact cell_twice hs3 e2
                have g3 : W4.cell? ⟨wr.heap.size, 3, none⟩ = some (.bool true) := by rw [← hW4]; simp [go_sem, e3, hs3]
                have r0 : W4.cell? (av.add (k * 4)) = some (.int .i64 v.k) := (hbW4.cell (p := (av.add (k * 4))) hvlt).trans v0
                have r1 : W4.cell? ⟨(av.add (k * 4)).block, (av.add (k * 4)).off + 1, none⟩ = some (.int .i64 v.i) := (hbW4.cell (p := ⟨(av.add (k * 4)).block, (av.add (k * 4)).off + 1, none⟩) hvlt).trans v1
                have r2 : W4.cell? ⟨(av.add (k * 4)).block, (av.add (k * 4)).off + 2, none⟩ = some (.int .u64 v.u) := (hbW4.cell (p := ⟨(av.add (k * 4)).block, (av.add (k * 4)).off + 2, none⟩) hvlt).trans v2
                have r3 : W4.cell? ⟨(av.add (k * 4)).block, (av.add (k * 4)).off + 3, none⟩ = some (.string v.s) := (hbW4.cell (p := ⟨(av.add (k * 4)).block, (av.add (k * 4)).off + 3, none⟩) hvlt).trans v3
                have l0 := later_cell g0
                have l1 := later_cell g1
                have l2 := later_cell g2
                have l3 := later_cell g3
                have l4 := later_cell r0
                have l5 := later_cell r1
                have l6 := later_cell r2
                have l7 := later_cell r3
                clear hW4
                repeat (go_big_quiet_step ((first | (go_at_call 19; exact Calls.later (HF3.out _ (hbW4.trans ((Later.h _).mono hbW4.size)))) | (go_at_call 14; exact Calls.later_same (l3num_any _ _)))))
                refine wpQuiet_nil ?_
                rintro w5 ⟨⟨W5, hb5⟩, rfl⟩
                have HB6 := Lib.hid (HB3.out.trans ((hbW4.trans (hb5.mono hbW4.size)).mono HB3.out.size))
                clear hb5
                go_wp2_with fail
                go_roundw
                case rel => exact ⟨k + 1, _, by omega, by omega, by go_num, rfl, Lib.hid (by rw [HSV.out, ← HA.out]), HB6⟩
                case measure => simp [intOf]; omega
              · go_wp2_with fail
                refine wp_region_laterN (by kernel_rfl) (by kernel_rfl) ?_
                intro W4 hW4
                have hbW4 : Below wr.heap.size wr W4 := by rw [← hW4]; exact ((((hbw3.setCell (p := ⟨wr.heap.size, 3, none⟩) (Nat.le_refl _) _).setCell (p := ⟨wr.heap.size, 2, none⟩) (Nat.le_refl _) _).setCell (p := ⟨wr.heap.size, 2, none⟩) (Nat.le_refl _) _).alloc (((hbw3.setCell (p := ⟨wr.heap.size, 3, none⟩) (Nat.le_refl _) _).setCell (p := ⟨wr.heap.size, 2, none⟩) (Nat.le_refl _) _).setCell (p := ⟨wr.heap.size, 2, none⟩) (Nat.le_refl _) _).size _)
                have g0 : W4.cell? ⟨wr.heap.size, 0, none⟩ = some (.string n) := by rw [← hW4]; simp [go_sem, e0, hs3]
                have g1 : W4.cell? ⟨wr.heap.size, 1, none⟩ = some (.int .i64 4) := by rw [← hW4]; simp [go_sem, e1, hs3]
                have g2 : W4.cell? ⟨wr.heap.size, 2, none⟩ = some (.int .i64 (upZ 4 ((2 : Nat) : Int))) := by rw [← hW4]; simp only [upZ4]; exact cell_twice hs3 e2
                have g3 : W4.cell? ⟨wr.heap.size, 3, none⟩ = some (.bool true) := by rw [← hW4]; simp [go_sem, e3, hs3]
                have r0 : W4.cell? (av.add (k * 4)) = some (.int .i64 v.k) := (hbW4.cell (p := (av.add (k * 4))) hvlt).trans v0
                have r1 : W4.cell? ⟨(av.add (k * 4)).block, (av.add (k * 4)).off + 1, none⟩ = some (.int .i64 v.i) := (hbW4.cell (p := ⟨(av.add (k * 4)).block, (av.add (k * 4)).off + 1, none⟩) hvlt).trans v1
                have r2 : W4.cell? ⟨(av.add (k * 4)).block, (av.add (k * 4)).off + 2, none⟩ = some (.int .u64 v.u) := (hbW4.cell (p := ⟨(av.add (k * 4)).block, (av.add (k * 4)).off + 2, none⟩) hvlt).trans v2
                have r3 : W4.cell? ⟨(av.add (k * 4)).block, (av.add (k * 4)).off + 3, none⟩ = some (.string v.s) := (hbW4.cell (p := ⟨(av.add (k * 4)).block, (av.add (k * 4)).off + 3, none⟩) hvlt).trans v3
                have l0 := later_cell g0
                have l1 := later_cell g1
                have l2 := later_cell g2
                have l3 := later_cell g3
                have l4 := later_cell r0
                have l5 := later_cell r1
                have l6 := later_cell r2
                have l7 := later_cell r3
                clear hW4
                repeat (go_big_quiet_step ((first | (go_at_call 19; exact Calls.later (HF3.out _ (hbW4.trans ((Later.h _).mono hbW4.size)))) | (go_at_call 14; exact Calls.later_same (l3num_any _ _)))))
                refine wpQuiet_nil ?_
                rintro w5 ⟨⟨W5, hb5⟩, rfl⟩
                have HB6 := Lib.hid (HB3.out.trans ((hbW4.trans (hb5.mono hbW4.size)).mono HB3.out.size))
                clear hb5
                go_wp2_with fail
                go_roundw
                case rel => exact ⟨k + 1, _, by omega, by omega, by go_num, rfl, Lib.hid (by rw [HSV.out, ← HA.out]), HB6⟩
                case measure => simp [intOf]; omega
              · go_wp2_with fail
                refine wp_region_laterN (by kernel_rfl) (by kernel_rfl) ?_
                intro W4 hW4
                have hbW4 : Below wr.heap.size wr W4 := by rw [← hW4]; exact ((((hbw3.setCell (p := ⟨wr.heap.size, 3, none⟩) (Nat.le_refl _) _).setCell (p := ⟨wr.heap.size, 2, none⟩) (Nat.le_refl _) _).setCell (p := ⟨wr.heap.size, 2, none⟩) (Nat.le_refl _) _).alloc (((hbw3.setCell (p := ⟨wr.heap.size, 3, none⟩) (Nat.le_refl _) _).setCell (p := ⟨wr.heap.size, 2, none⟩) (Nat.le_refl _) _).setCell (p := ⟨wr.heap.size, 2, none⟩) (Nat.le_refl _) _).size _)
                have g0 : W4.cell? ⟨wr.heap.size, 0, none⟩ = some (.string n) := by rw [← hW4]; simp [go_sem, e0, hs3]
                have g1 : W4.cell? ⟨wr.heap.size, 1, none⟩ = some (.int .i64 4) := by rw [← hW4]; simp [go_sem, e1, hs3]
                have g2 : W4.cell? ⟨wr.heap.size, 2, none⟩ = some (.int .i64 (upZ 4 ((3 : Nat) : Int))) := by rw [← hW4]; simp only [upZ4]; exact cell_twice hs3 e2
                have g3 : W4.cell? ⟨wr.heap.size, 3, none⟩ = some (.bool true) := by rw [← hW4]; simp [go_sem, e3, hs3]
                have r0 : W4.cell? (av.add (k * 4)) = some (.int .i64 v.k) := (hbW4.cell (p := (av.add (k * 4))) hvlt).trans v0
                have r1 : W4.cell? ⟨(av.add (k * 4)).block, (av.add (k * 4)).off + 1, none⟩ = some (.int .i64 v.i) := (hbW4.cell (p := ⟨(av.add (k * 4)).block, (av.add (k * 4)).off + 1, none⟩) hvlt).trans v1
                have r2 : W4.cell? ⟨(av.add (k * 4)).block, (av.add (k * 4)).off + 2, none⟩ = some (.int .u64 v.u) := (hbW4.cell (p := ⟨(av.add (k * 4)).block, (av.add (k * 4)).off + 2, none⟩) hvlt).trans v2
                have r3 : W4.cell? ⟨(av.add (k * 4)).block, (av.add (k * 4)).off + 3, none⟩ = some (.string v.s) := (hbW4.cell (p := ⟨(av.add (k * 4)).block, (av.add (k * 4)).off + 3, none⟩) hvlt).trans v3
                have l0 := later_cell g0
                have l1 := later_cell g1
                have l2 := later_cell g2
                have l3 := later_cell g3
                have l4 := later_cell r0
                have l5 := later_cell r1
                have l6 := later_cell r2
                have l7 := later_cell r3
                clear hW4
                repeat (go_big_quiet_step ((first | (go_at_call 19; exact Calls.later (HF3.out _ (hbW4.trans ((Later.h _).mono hbW4.size)))) | (go_at_call 14; exact Calls.later_same (l3num_any _ _)))))
                refine wpQuiet_nil ?_
                rintro w5 ⟨⟨W5, hb5⟩, rfl⟩
                have HB6 := Lib.hid (HB3.out.trans ((hbW4.trans (hb5.mono hbW4.size)).mono HB3.out.size))
                clear hb5
                go_wp2_with fail
                go_roundw
                case rel => exact ⟨k + 1, _, by omega, by omega, by go_num, rfl, Lib.hid (by rw [HSV.out, ← HA.out]), HB6⟩
                case measure => simp [intOf]; omega
              · go_wp2_with fail
                refine wp_region_laterN (by kernel_rfl) (by kernel_rfl) ?_
                intro W4 hW4
                have hbW4 : Below wr.heap.size wr W4 := by rw [← hW4]; exact ((((hbw3.setCell (p := ⟨wr.heap.size, 3, none⟩) (Nat.le_refl _) _).setCell (p := ⟨wr.heap.size, 2, none⟩) (Nat.le_refl _) _).setCell (p := ⟨wr.heap.size, 2, none⟩) (Nat.le_refl _) _).alloc (((hbw3.setCell (p := ⟨wr.heap.size, 3, none⟩) (Nat.le_refl _) _).setCell (p := ⟨wr.heap.size, 2, none⟩) (Nat.le_refl _) _).setCell (p := ⟨wr.heap.size, 2, none⟩) (Nat.le_refl _) _).size _)
                have g0 : W4.cell? ⟨wr.heap.size, 0, none⟩ = some (.string n) := by rw [← hW4]; simp [go_sem, e0, hs3]
                have g1 : W4.cell? ⟨wr.heap.size, 1, none⟩ = some (.int .i64 4) := by rw [← hW4]; simp [go_sem, e1, hs3]
                have g2 : W4.cell? ⟨wr.heap.size, 2, none⟩ = some (.int .i64 (upZ 4 ((4 : Nat) : Int))) := by rw [← hW4]; simp only [upZ4]; exact cell_twice hs3 e2
                have g3 : W4.cell? ⟨wr.heap.size, 3, none⟩ = some (.bool true) := by rw [← hW4]; simp [go_sem, e3, hs3]
                have r0 : W4.cell? (av.add (k * 4)) = some (.int .i64 v.k) := (hbW4.cell (p := (av.add (k * 4))) hvlt).trans v0
                have r1 : W4.cell? ⟨(av.add (k * 4)).block, (av.add (k * 4)).off + 1, none⟩ = some (.int .i64 v.i) := (hbW4.cell (p := ⟨(av.add (k * 4)).block, (av.add (k * 4)).off + 1, none⟩) hvlt).trans v1
                have r2 : W4.cell? ⟨(av.add (k * 4)).block, (av.add (k * 4)).off + 2, none⟩ = some (.int .u64 v.u) := (hbW4.cell (p := ⟨(av.add (k * 4)).block, (av.add (k * 4)).off + 2, none⟩) hvlt).trans v2
                have r3 : W4.cell? ⟨(av.add (k * 4)).block, (av.add (k * 4)).off + 3, none⟩ = some (.string v.s) := (hbW4.cell (p := ⟨(av.add (k * 4)).block, (av.add (k * 4)).off + 3, none⟩) hvlt).trans v3
                have l0 := later_cell g0
                have l1 := later_cell g1
                have l2 := later_cell g2
                have l3 := later_cell g3
                have l4 := later_cell r0
                have l5 := later_cell r1
                have l6 := later_cell r2
                have l7 := later_cell r3
                clear hW4
                repeat (go_big_quiet_step ((first | (go_at_call 19; exact Calls.later (HF3.out _ (hbW4.trans ((Later.h _).mono hbW4.size)))) | (go_at_call 14; exact Calls.later_same (l3num_any _ _)))))
                refine wpQuiet_nil ?_
                rintro w5 ⟨⟨W5, hb5⟩, rfl⟩
                have HB6 := Lib.hid (HB3.out.trans ((hbW4.trans (hb5.mono hbW4.size)).mono HB3.out.size))
                clear hb5
                go_wp2_with fail
                go_roundw
                case rel => exact ⟨k + 1, _, by omega, by omega, by go_num, rfl, Lib.hid (by rw [HSV.out, ← HA.out]), HB6⟩
                case measure => simp [intOf]; omega
              · go_wp2_with fail
                refine wp_region_laterN (by kernel_rfl) (by kernel_rfl) ?_
                intro W4 hW4
                have hbW4 : Below wr.heap.size wr W4 := by rw [← hW4]; exact ((((hbw3.setCell (p := ⟨wr.heap.size, 3, none⟩) (Nat.le_refl _) _).setCell (p := ⟨wr.heap.size, 2, none⟩) (Nat.le_refl _) _).setCell (p := ⟨wr.heap.size, 2, none⟩) (Nat.le_refl _) _).alloc (((hbw3.setCell (p := ⟨wr.heap.size, 3, none⟩) (Nat.le_refl _) _).setCell (p := ⟨wr.heap.size, 2, none⟩) (Nat.le_refl _) _).setCell (p := ⟨wr.heap.size, 2, none⟩) (Nat.le_refl _) _).size _)
                have g0 : W4.cell? ⟨wr.heap.size, 0, none⟩ = some (.string n) := by rw [← hW4]; simp [go_sem, e0, hs3]
                have g1 : W4.cell? ⟨wr.heap.size, 1, none⟩ = some (.int .i64 4) := by rw [← hW4]; simp [go_sem, e1, hs3]
                have g2 : W4.cell? ⟨wr.heap.size, 2, none⟩ = some (.int .i64 (upZ 4 ((5 : Nat) : Int))) := by rw [← hW4]; simp only [upZ4]; exact cell_twice hs3 e2
                have g3 : W4.cell? ⟨wr.heap.size, 3, none⟩ = some (.bool true) := by rw [← hW4]; simp [go_sem, e3, hs3]
                have r0 : W4.cell? (av.add (k * 4)) = some (.int .i64 v.k) := (hbW4.cell (p := (av.add (k * 4))) hvlt).trans v0
                have r1 : W4.cell? ⟨(av.add (k * 4)).block, (av.add (k * 4)).off + 1, none⟩ = some (.int .i64 v.i) := (hbW4.cell (p := ⟨(av.add (k * 4)).block, (av.add (k * 4)).off + 1, none⟩) hvlt).trans v1
                have r2 : W4.cell? ⟨(av.add (k * 4)).block, (av.add (k * 4)).off + 2, none⟩ = some (.int .u64 v.u) := (hbW4.cell (p := ⟨(av.add (k * 4)).block, (av.add (k * 4)).off + 2, none⟩) hvlt).trans v2
                have r3 : W4.cell? ⟨(av.add (k * 4)).block, (av.add (k * 4)).off + 3, none⟩ = some (.string v.s) := (hbW4.cell (p := ⟨(av.add (k * 4)).block, (av.add (k * 4)).off + 3, none⟩) hvlt).trans v3
                have l0 := later_cell g0
                have l1 := later_cell g1
                have l2 := later_cell g2
                have l3 := later_cell g3
                have l4 := later_cell r0
                have l5 := later_cell r1
                have l6 := later_cell r2
                have l7 := later_cell r3
                clear hW4
                repeat (go_big_quiet_step ((first | (go_at_call 19; exact Calls.later (HF3.out _ (hbW4.trans ((Later.h _).mono hbW4.size)))) | (go_at_call 14; exact Calls.later_same (l3num_any _ _)))))
                refine wpQuiet_nil ?_
                rintro w5 ⟨⟨W5, hb5⟩, rfl⟩
                have HB6 := Lib.hid (HB3.out.trans ((hbW4.trans (hb5.mono hbW4.size)).mono HB3.out.size))
                clear hb5
                go_wp2_with fail
                go_roundw
                case rel => exact ⟨k + 1, _, by omega, by omega, by go_num, rfl, Lib.hid (by rw [HSV.out, ← HA.out]), HB6⟩
                case measure => simp [intOf]; omega
              · go_wp2_with fail
                refine wp_region_laterN (by kernel_rfl) (by kernel_rfl) ?_
                intro W4 hW4
                have hbW4 : Below wr.heap.size wr W4 := by rw [← hW4]; exact ((((hbw3.setCell (p := ⟨wr.heap.size, 3, none⟩) (Nat.le_refl _) _).setCell (p := ⟨wr.heap.size, 2, none⟩) (Nat.le_refl _) _).setCell (p := ⟨wr.heap.size, 2, none⟩) (Nat.le_refl _) _).alloc (((hbw3.setCell (p := ⟨wr.heap.size, 3, none⟩) (Nat.le_refl _) _).setCell (p := ⟨wr.heap.size, 2, none⟩) (Nat.le_refl _) _).setCell (p := ⟨wr.heap.size, 2, none⟩) (Nat.le_refl _) _).size _)
                have g0 : W4.cell? ⟨wr.heap.size, 0, none⟩ = some (.string n) := by rw [← hW4]; simp [go_sem, e0, hs3]
                have g1 : W4.cell? ⟨wr.heap.size, 1, none⟩ = some (.int .i64 4) := by rw [← hW4]; simp [go_sem, e1, hs3]
                have g2 : W4.cell? ⟨wr.heap.size, 2, none⟩ = some (.int .i64 (upZ 4 ((6 : Nat) : Int))) := by rw [← hW4]; simp only [upZ4]; exact cell_twice hs3 e2
                have g3 : W4.cell? ⟨wr.heap.size, 3, none⟩ = some (.bool true) := by rw [← hW4]; simp [go_sem, e3, hs3]
                have r0 : W4.cell? (av.add (k * 4)) = some (.int .i64 v.k) := (hbW4.cell (p := (av.add (k * 4))) hvlt).trans v0
                have r1 : W4.cell? ⟨(av.add (k * 4)).block, (av.add (k * 4)).off + 1, none⟩ = some (.int .i64 v.i) := (hbW4.cell (p := ⟨(av.add (k * 4)).block, (av.add (k * 4)).off + 1, none⟩) hvlt).trans v1
                have r2 : W4.cell? ⟨(av.add (k * 4)).block, (av.add (k * 4)).off + 2, none⟩ = some (.int .u64 v.u) := (hbW4.cell (p := ⟨(av.add (k * 4)).block, (av.add (k * 4)).off + 2, none⟩) hvlt).trans v2
                have r3 : W4.cell? ⟨(av.add (k * 4)).block, (av.add (k * 4)).off + 3, none⟩ = some (.string v.s) := (hbW4.cell (p := ⟨(av.add (k * 4)).block, (av.add (k * 4)).off + 3, none⟩) hvlt).trans v3
                have l0 := later_cell g0
                have l1 := later_cell g1
                have l2 := later_cell g2
                have l3 := later_cell g3
                have l4 := later_cell r0
                have l5 := later_cell r1
                have l6 := later_cell r2
                have l7 := later_cell r3
                clear hW4
                repeat (go_big_quiet_step ((first | (go_at_call 19; exact Calls.later (HF3.out _ (hbW4.trans ((Later.h _).mono hbW4.size)))) | (go_at_call 14; exact Calls.later_same (l3num_any _ _)))))
                refine wpQuiet_nil ?_
                rintro w5 ⟨⟨W5, hb5⟩, rfl⟩
                have HB6 := Lib.hid (HB3.out.trans ((hbW4.trans (hb5.mono hbW4.size)).mono HB3.out.size))
                clear hb5
                go_wp2_with fail
                go_roundw
                case rel => exact ⟨k + 1, _, by omega, by omega, by go_num, rfl, Lib.hid (by rw [HSV.out, ← HA.out]), HB6⟩
                case measure => simp [intOf]; omega
              · go_wp2_with fail
                refine wp_region_laterN (by kernel_rfl) (by kernel_rfl) ?_
                intro W4 hW4
                have hbW4 : Below wr.heap.size wr W4 := by rw [← hW4]; exact ((((hbw3.setCell (p := ⟨wr.heap.size, 3, none⟩) (Nat.le_refl _) _).setCell (p := ⟨wr.heap.size, 2, none⟩) (Nat.le_refl _) _).setCell (p := ⟨wr.heap.size, 2, none⟩) (Nat.le_refl _) _).alloc (((hbw3.setCell (p := ⟨wr.heap.size, 3, none⟩) (Nat.le_refl _) _).setCell (p := ⟨wr.heap.size, 2, none⟩) (Nat.le_refl _) _).setCell (p := ⟨wr.heap.size, 2, none⟩) (Nat.le_refl _) _).size _)
                have g0 : W4.cell? ⟨wr.heap.size, 0, none⟩ = some (.string n) := by rw [← hW4]; simp [go_sem, e0, hs3]
                have g1 : W4.cell? ⟨wr.heap.size, 1, none⟩ = some (.int .i64 4) := by rw [← hW4]; simp [go_sem, e1, hs3]
                have g2 : W4.cell? ⟨wr.heap.size, 2, none⟩ = some (.int .i64 (upZ 4 ((7 : Nat) : Int))) := by rw [← hW4]; simp only [upZ4]; exact cell_twice hs3 e2
                have g3 : W4.cell? ⟨wr.heap.size, 3, none⟩ = some (.bool true) := by rw [← hW4]; simp [go_sem, e3, hs3]
                have r0 : W4.cell? (av.add (k * 4)) = some (.int .i64 v.k) := (hbW4.cell (p := (av.add (k * 4))) hvlt).trans v0
                have r1 : W4.cell? ⟨(av.add (k * 4)).block, (av.add (k * 4)).off + 1, none⟩ = some (.int .i64 v.i) := (hbW4.cell (p := ⟨(av.add (k * 4)).block, (av.add (k * 4)).off + 1, none⟩) hvlt).trans v1
                have r2 : W4.cell? ⟨(av.add (k * 4)).block, (av.add (k * 4)).off + 2, none⟩ = some (.int .u64 v.u) := (hbW4.cell (p := ⟨(av.add (k * 4)).block, (av.add (k * 4)).off + 2, none⟩) hvlt).trans v2
                have r3 : W4.cell? ⟨(av.add (k * 4)).block, (av.add (k * 4)).off + 3, none⟩ = some (.string v.s) := (hbW4.cell (p := ⟨(av.add (k * 4)).block, (av.add (k * 4)).off + 3, none⟩) hvlt).trans v3
                have l0 := later_cell g0
                have l1 := later_cell g1
                have l2 := later_cell g2
                have l3 := later_cell g3
                have l4 := later_cell r0
                have l5 := later_cell r1
                have l6 := later_cell r2
                have l7 := later_cell r3
                clear hW4
                repeat (go_big_quiet_step ((first | (go_at_call 19; exact Calls.later (HF3.out _ (hbW4.trans ((Later.h _).mono hbW4.size)))) | (go_at_call 14; exact Calls.later_same (l3num_any _ _)))))
                refine wpQuiet_nil ?_
                rintro w5 ⟨⟨W5, hb5⟩, rfl⟩
                have HB6 := Lib.hid (HB3.out.trans ((hbW4.trans (hb5.mono hbW4.size)).mono HB3.out.size))
                clear hb5
                go_wp2_with fail
                go_roundw
                case rel => exact ⟨k + 1, _, by omega, by omega, by go_num, rfl, Lib.hid (by rw [HSV.out, ← HA.out]), HB6⟩
                case measure => simp [intOf]; omega
            · have x1 : max 0 z = z := by omega
              have x2 : min 8 z = 8 := by omega
              go_wp2_with fail
              refine wp_region_laterN (by kernel_rfl) (by kernel_rfl) ?_
              intro W4 hW4
              have hbW4 : Below wr.heap.size wr W4 := by rw [← hW4]; exact ((((hbw3.setCell (p := ⟨wr.heap.size, 3, none⟩) (Nat.le_refl _) _).setCell (p := ⟨wr.heap.size, 2, none⟩) (Nat.le_refl _) _).setCell (p := ⟨wr.heap.size, 2, none⟩) (Nat.le_refl _) _).alloc (((hbw3.setCell (p := ⟨wr.heap.size, 3, none⟩) (Nat.le_refl _) _).setCell (p := ⟨wr.heap.size, 2, none⟩) (Nat.le_refl _) _).setCell (p := ⟨wr.heap.size, 2, none⟩) (Nat.le_refl _) _).size _)
              have g0 : W4.cell? ⟨wr.heap.size, 0, none⟩ = some (.string n) := by rw [← hW4]; simp [go_sem, e0, hs3]
              have g1 : W4.cell? ⟨wr.heap.size, 1, none⟩ = some (.int .i64 4) := by rw [← hW4]; simp [go_sem, e1, hs3]
              have g2 : W4.cell? ⟨wr.heap.size, 2, none⟩ = some (.int .i64 (upZ 4 z)) := by rw [← hW4]; simp only [upZ4]; exact cell_twice hs3 e2
              have g3 : W4.cell? ⟨wr.heap.size, 3, none⟩ = some (.bool true) := by rw [← hW4]; simp [go_sem, e3, hs3]
              have r0 : W4.cell? (av.add (k * 4)) = some (.int .i64 v.k) := (hbW4.cell (p := (av.add (k * 4))) hvlt).trans v0
              have r1 : W4.cell? ⟨(av.add (k * 4)).block, (av.add (k * 4)).off + 1, none⟩ = some (.int .i64 v.i) := (hbW4.cell (p := ⟨(av.add (k * 4)).block, (av.add (k * 4)).off + 1, none⟩) hvlt).trans v1
              have r2 : W4.cell? ⟨(av.add (k * 4)).block, (av.add (k * 4)).off + 2, none⟩ = some (.int .u64 v.u) := (hbW4.cell (p := ⟨(av.add (k * 4)).block, (av.add (k * 4)).off + 2, none⟩) hvlt).trans v2
              have r3 : W4.cell? ⟨(av.add (k * 4)).block, (av.add (k * 4)).off + 3, none⟩ = some (.string v.s) := (hbW4.cell (p := ⟨(av.add (k * 4)).block, (av.add (k * 4)).off + 3, none⟩) hvlt).trans v3
              have l0 := later_cell g0
              have l1 := later_cell g1
              have l2 := later_cell g2
              have l3 := later_cell g3
              have l4 := later_cell r0
              have l5 := later_cell r1
              have l6 := later_cell r2
              have l7 := later_cell r3
              clear hW4
              repeat (go_big_quiet_step ((first | (go_at_call 19; exact Calls.later (HF3.out _ (hbW4.trans ((Later.h _).mono hbW4.size)))) | (go_at_call 14; exact Calls.later_same (l3num_any _ _)))))
              refine wpQuiet_nil ?_
              rintro w5 ⟨⟨W5, hb5⟩, rfl⟩
              have HB6 := Lib.hid (HB3.out.trans ((hbW4.trans (hb5.mono hbW4.size)).mono HB3.out.size))
              clear hb5
              go_wp2_with fail
              go_roundw
              case rel => exact ⟨k + 1, _, by omega, by omega, by go_num, rfl, Lib.hid (by rw [HSV.out, ← HA.out]), HB6⟩
              case measure => simp [intOf]; omega
        · rcases type_cases t with ht | rfl | rfl | rfl | rfl
          · rw [szOk_none ht] at hs; cases hs
          · rcases numSz_cases (show numSz z = true from hs) with rfl | rfl | rfl | rfl
            · clear hs
              go_wp2_with fail
              refine wp_region_laterN (by kernel_rfl) (by kernel_rfl) ?_
              intro W4 hW4
              have hbW4 : Below wr.heap.size wr W4 := by rw [← hW4]; exact (((hbw3.setCell (p := ⟨wr.heap.size, 3, none⟩) (Nat.le_refl _) _).setCell (p := ⟨wr.heap.size, 2, none⟩) (Nat.le_refl _) _).alloc ((hbw3.setCell (p := ⟨wr.heap.size, 3, none⟩) (Nat.le_refl _) _).setCell (p := ⟨wr.heap.size, 2, none⟩) (Nat.le_refl _) _).size _)
              have g0 : W4.cell? ⟨wr.heap.size, 0, none⟩ = some (.string n) := by rw [← hW4]; simp [go_sem, e0, hs3]
              have g1 : W4.cell? ⟨wr.heap.size, 1, none⟩ = some (.int .i64 1) := by rw [← hW4]; simp [go_sem, e1, hs3]
              have g2 : W4.cell? ⟨wr.heap.size, 2, none⟩ = some (.int .i64 (upZ 1 1)) := by rw [← hW4]; simp [go_sem, e2, hs3, upZ]
              have g3 : W4.cell? ⟨wr.heap.size, 3, none⟩ = some (.bool true) := by rw [← hW4]; simp [go_sem, e3, hs3]
              have r0 : W4.cell? (av.add (k * 4)) = some (.int .i64 v.k) := (hbW4.cell (p := (av.add (k * 4))) hvlt).trans v0
              have r1 : W4.cell? ⟨(av.add (k * 4)).block, (av.add (k * 4)).off + 1, none⟩ = some (.int .i64 v.i) := (hbW4.cell (p := ⟨(av.add (k * 4)).block, (av.add (k * 4)).off + 1, none⟩) hvlt).trans v1
              have r2 : W4.cell? ⟨(av.add (k * 4)).block, (av.add (k * 4)).off + 2, none⟩ = some (.int .u64 v.u) := (hbW4.cell (p := ⟨(av.add (k * 4)).block, (av.add (k * 4)).off + 2, none⟩) hvlt).trans v2
              have r3 : W4.cell? ⟨(av.add (k * 4)).block, (av.add (k * 4)).off + 3, none⟩ = some (.string v.s) := (hbW4.cell (p := ⟨(av.add (k * 4)).block, (av.add (k * 4)).off + 3, none⟩) hvlt).trans v3
              have l0 := later_cell g0
              have l1 := later_cell g1
              have l2 := later_cell g2
              have l3 := later_cell g3
              have l4 := later_cell r0
              have l5 := later_cell r1
              have l6 := later_cell r2
              have l7 := later_cell r3
              clear hW4
              repeat (go_big_quiet_step ((first | (go_at_call 19; exact Calls.later (HF3.out _ (hbW4.trans ((Later.h _).mono hbW4.size)))) | (go_at_call 14; exact Calls.later_same (l3num_any _ _)))))
              refine wpQuiet_nil ?_
              rintro w5 ⟨⟨W5, hb5⟩, rfl⟩
              have HB6 := Lib.hid (HB3.out.trans ((hbW4.trans (hb5.mono hbW4.size)).mono HB3.out.size))
              clear hb5
              go_wp2_with fail
              go_roundw
              case rel => exact ⟨k + 1, _, by omega, by omega, by go_num, rfl, Lib.hid (by rw [HSV.out, ← HA.out]), HB6⟩
              case measure => simp [intOf]; omega
            · clear hs
              go_wp2_with fail
              refine wp_region_laterN (by kernel_rfl) (by kernel_rfl) ?_
              intro W4 hW4
              have hbW4 : Below wr.heap.size wr W4 := by rw [← hW4]; exact (((hbw3.setCell (p := ⟨wr.heap.size, 3, none⟩) (Nat.le_refl _) _).setCell (p := ⟨wr.heap.size, 2, none⟩) (Nat.le_refl _) _).alloc ((hbw3.setCell (p := ⟨wr.heap.size, 3, none⟩) (Nat.le_refl _) _).setCell (p := ⟨wr.heap.size, 2, none⟩) (Nat.le_refl _) _).size _)
              have g0 : W4.cell? ⟨wr.heap.size, 0, none⟩ = some (.string n) := by rw [← hW4]; simp [go_sem, e0, hs3]
              have g1 : W4.cell? ⟨wr.heap.size, 1, none⟩ = some (.int .i64 1) := by rw [← hW4]; simp [go_sem, e1, hs3]
              have g2 : W4.cell? ⟨wr.heap.size, 2, none⟩ = some (.int .i64 (upZ 1 2)) := by rw [← hW4]; simp [go_sem, e2, hs3, upZ]
              have g3 : W4.cell? ⟨wr.heap.size, 3, none⟩ = some (.bool true) := by rw [← hW4]; simp [go_sem, e3, hs3]
              have r0 : W4.cell? (av.add (k * 4)) = some (.int .i64 v.k) := (hbW4.cell (p := (av.add (k * 4))) hvlt).trans v0
              have r1 : W4.cell? ⟨(av.add (k * 4)).block, (av.add (k * 4)).off + 1, none⟩ = some (.int .i64 v.i) := (hbW4.cell (p := ⟨(av.add (k * 4)).block, (av.add (k * 4)).off + 1, none⟩) hvlt).trans v1
              have r2 : W4.cell? ⟨(av.add (k * 4)).block, (av.add (k * 4)).off + 2, none⟩ = some (.int .u64 v.u) := (hbW4.cell (p := ⟨(av.add (k * 4)).block, (av.add (k * 4)).off + 2, none⟩) hvlt).trans v2
              have r3 : W4.cell? ⟨(av.add (k * 4)).block, (av.add (k * 4)).off + 3, none⟩ = some (.string v.s) := (hbW4.cell (p := ⟨(av.add (k * 4)).block, (av.add (k * 4)).off + 3, none⟩) hvlt).trans v3
              have l0 := later_cell g0
              have l1 := later_cell g1
              have l2 := later_cell g2
              have l3 := later_cell g3
              have l4 := later_cell r0
              have l5 := later_cell r1
              have l6 := later_cell r2
              have l7 := later_cell r3
              clear hW4
              repeat (go_big_quiet_step ((first | (go_at_call 19; exact Calls.later (HF3.out _ (hbW4.trans ((Later.h _).mono hbW4.size)))) | (go_at_call 14; exact Calls.later_same (l3num_any _ _)))))
              refine wpQuiet_nil ?_
              rintro w5 ⟨⟨W5, hb5⟩, rfl⟩
              have HB6 := Lib.hid (HB3.out.trans ((hbW4.trans (hb5.mono hbW4.size)).mono HB3.out.size))
              clear hb5
              go_wp2_with fail
              go_roundw
              case rel => exact ⟨k + 1, _, by omega, by omega, by go_num, rfl, Lib.hid (by rw [HSV.out, ← HA.out]), HB6⟩
              case measure => simp [intOf]; omega
            · clear hs
              go_wp2_with fail
              refine wp_region_laterN (by kernel_rfl) (by kernel_rfl) ?_
              intro W4 hW4
              have hbW4 : Below wr.heap.size wr W4 := by rw [← hW4]; exact (((hbw3.setCell (p := ⟨wr.heap.size, 3, none⟩) (Nat.le_refl _) _).setCell (p := ⟨wr.heap.size, 2, none⟩) (Nat.le_refl _) _).alloc ((hbw3.setCell (p := ⟨wr.heap.size, 3, none⟩) (Nat.le_refl _) _).setCell (p := ⟨wr.heap.size, 2, none⟩) (Nat.le_refl _) _).size _)
              have g0 : W4.cell? ⟨wr.heap.size, 0, none⟩ = some (.string n) := by rw [← hW4]; simp [go_sem, e0, hs3]
              have g1 : W4.cell? ⟨wr.heap.size, 1, none⟩ = some (.int .i64 1) := by rw [← hW4]; simp [go_sem, e1, hs3]
              have g2 : W4.cell? ⟨wr.heap.size, 2, none⟩ = some (.int .i64 (upZ 1 4)) := by rw [← hW4]; simp [go_sem, e2, hs3, upZ]
              have g3 : W4.cell? ⟨wr.heap.size, 3, none⟩ = some (.bool true) := by rw [← hW4]; simp [go_sem, e3, hs3]
              have r0 : W4.cell? (av.add (k * 4)) = some (.int .i64 v.k) := (hbW4.cell (p := (av.add (k * 4))) hvlt).trans v0
              have r1 : W4.cell? ⟨(av.add (k * 4)).block, (av.add (k * 4)).off + 1, none⟩ = some (.int .i64 v.i) := (hbW4.cell (p := ⟨(av.add (k * 4)).block, (av.add (k * 4)).off + 1, none⟩) hvlt).trans v1
              have r2 : W4.cell? ⟨(av.add (k * 4)).block, (av.add (k * 4)).off + 2, none⟩ = some (.int .u64 v.u) := (hbW4.cell (p := ⟨(av.add (k * 4)).block, (av.add (k * 4)).off + 2, none⟩) hvlt).trans v2
              have r3 : W4.cell? ⟨(av.add (k * 4)).block, (av.add (k * 4)).off + 3, none⟩ = some (.string v.s) := (hbW4.cell (p := ⟨(av.add (k * 4)).block, (av.add (k * 4)).off + 3, none⟩) hvlt).trans v3
              have l0 := later_cell g0
              have l1 := later_cell g1
              have l2 := later_cell g2
              have l3 := later_cell g3
              have l4 := later_cell r0
              have l5 := later_cell r1
              have l6 := later_cell r2
              have l7 := later_cell r3
              clear hW4
              repeat (go_big_quiet_step ((first | (go_at_call 19; exact Calls.later (HF3.out _ (hbW4.trans ((Later.h _).mono hbW4.size)))) | (go_at_call 14; exact Calls.later_same (l3num_any _ _)))))
              refine wpQuiet_nil ?_
              rintro w5 ⟨⟨W5, hb5⟩, rfl⟩
              have HB6 := Lib.hid (HB3.out.trans ((hbW4.trans (hb5.mono hbW4.size)).mono HB3.out.size))
              clear hb5
              go_wp2_with fail
              go_roundw
              case rel => exact ⟨k + 1, _, by omega, by omega, by go_num, rfl, Lib.hid (by rw [HSV.out, ← HA.out]), HB6⟩
              case measure => simp [intOf]; omega
            · clear hs
              go_wp2_with fail
              refine wp_region_laterN (by kernel_rfl) (by kernel_rfl) ?_
              intro W4 hW4
              have hbW4 : Below wr.heap.size wr W4 := by rw [← hW4]; exact (((hbw3.setCell (p := ⟨wr.heap.size, 3, none⟩) (Nat.le_refl _) _).setCell (p := ⟨wr.heap.size, 2, none⟩) (Nat.le_refl _) _).alloc ((hbw3.setCell (p := ⟨wr.heap.size, 3, none⟩) (Nat.le_refl _) _).setCell (p := ⟨wr.heap.size, 2, none⟩) (Nat.le_refl _) _).size _)
              have g0 : W4.cell? ⟨wr.heap.size, 0, none⟩ = some (.string n) := by rw [← hW4]; simp [go_sem, e0, hs3]
              have g1 : W4.cell? ⟨wr.heap.size, 1, none⟩ = some (.int .i64 1) := by rw [← hW4]; simp [go_sem, e1, hs3]
              have g2 : W4.cell? ⟨wr.heap.size, 2, none⟩ = some (.int .i64 (upZ 1 8)) := by rw [← hW4]; simp [go_sem, e2, hs3, upZ]
              have g3 : W4.cell? ⟨wr.heap.size, 3, none⟩ = some (.bool true) := by rw [← hW4]; simp [go_sem, e3, hs3]
              have r0 : W4.cell? (av.add (k * 4)) = some (.int .i64 v.k) := (hbW4.cell (p := (av.add (k * 4))) hvlt).trans v0
              have r1 : W4.cell? ⟨(av.add (k * 4)).block, (av.add (k * 4)).off + 1, none⟩ = some (.int .i64 v.i) := (hbW4.cell (p := ⟨(av.add (k * 4)).block, (av.add (k * 4)).off + 1, none⟩) hvlt).trans v1
              have r2 : W4.cell? ⟨(av.add (k * 4)).block, (av.add (k * 4)).off + 2, none⟩ = some (.int .u64 v.u) := (hbW4.cell (p := ⟨(av.add (k * 4)).block, (av.add (k * 4)).off + 2, none⟩) hvlt).trans v2
              have r3 : W4.cell? ⟨(av.add (k * 4)).block, (av.add (k * 4)).off + 3, none⟩ = some (.string v.s) := (hbW4.cell (p := ⟨(av.add (k * 4)).block, (av.add (k * 4)).off + 3, none⟩) hvlt).trans v3
              have l0 := later_cell g0
              have l1 := later_cell g1
              have l2 := later_cell g2
              have l3 := later_cell g3
              have l4 := later_cell r0
              have l5 := later_cell r1
              have l6 := later_cell r2
              have l7 := later_cell r3
              clear hW4
              repeat (go_big_quiet_step ((first | (go_at_call 19; exact Calls.later (HF3.out _ (hbW4.trans ((Later.h _).mono hbW4.size)))) | (go_at_call 14; exact Calls.later_same (l3num_any _ _)))))
              refine wpQuiet_nil ?_
              rintro w5 ⟨⟨W5, hb5⟩, rfl⟩
              have HB6 := Lib.hid (HB3.out.trans ((hbW4.trans (hb5.mono hbW4.size)).mono HB3.out.size))
              clear hb5
              go_wp2_with fail
              go_roundw
              case rel => exact ⟨k + 1, _, by omega, by omega, by go_num, rfl, Lib.hid (by rw [HSV.out, ← HA.out]), HB6⟩
              case measure => simp [intOf]; omega
          · rcases numSz_cases (show numSz z = true from hs) with rfl | rfl | rfl | rfl
            · clear hs
              go_wp2_with fail
              refine wp_region_laterN (by kernel_rfl) (by kernel_rfl) ?_
              intro W4 hW4
              have hbW4 : Below wr.heap.size wr W4 := by rw [← hW4]; exact (((hbw3.setCell (p := ⟨wr.heap.size, 3, none⟩) (Nat.le_refl _) _).setCell (p := ⟨wr.heap.size, 2, none⟩) (Nat.le_refl _) _).alloc ((hbw3.setCell (p := ⟨wr.heap.size, 3, none⟩) (Nat.le_refl _) _).setCell (p := ⟨wr.heap.size, 2, none⟩) (Nat.le_refl _) _).size _)
              have g0 : W4.cell? ⟨wr.heap.size, 0, none⟩ = some (.string n) := by rw [← hW4]; simp [go_sem, e0, hs3]
              have g1 : W4.cell? ⟨wr.heap.size, 1, none⟩ = some (.int .i64 2) := by rw [← hW4]; simp [go_sem, e1, hs3]
              have g2 : W4.cell? ⟨wr.heap.size, 2, none⟩ = some (.int .i64 (upZ 2 1)) := by rw [← hW4]; simp [go_sem, e2, hs3, upZ]
              have g3 : W4.cell? ⟨wr.heap.size, 3, none⟩ = some (.bool true) := by rw [← hW4]; simp [go_sem, e3, hs3]
              have r0 : W4.cell? (av.add (k * 4)) = some (.int .i64 v.k) := (hbW4.cell (p := (av.add (k * 4))) hvlt).trans v0
              have r1 : W4.cell? ⟨(av.add (k * 4)).block, (av.add (k * 4)).off + 1, none⟩ = some (.int .i64 v.i) := (hbW4.cell (p := ⟨(av.add (k * 4)).block, (av.add (k * 4)).off + 1, none⟩) hvlt).trans v1
              have r2 : W4.cell? ⟨(av.add (k * 4)).block, (av.add (k * 4)).off + 2, none⟩ = some (.int .u64 v.u) := (hbW4.cell (p := ⟨(av.add (k * 4)).block, (av.add (k * 4)).off + 2, none⟩) hvlt).trans v2
              have r3 : W4.cell? ⟨(av.add (k * 4)).block, (av.add (k * 4)).off + 3, none⟩ = some (.string v.s) := (hbW4.cell (p := ⟨(av.add (k * 4)).block, (av.add (k * 4)).off + 3, none⟩) hvlt).trans v3
              have l0 := later_cell g0
              have l1 := later_cell g1
              have l2 := later_cell g2
              have l3 := later_cell g3
              have l4 := later_cell r0
              have l5 := later_cell r1
              have l6 := later_cell r2
              have l7 := later_cell r3
              clear hW4
              repeat (go_big_quiet_step ((first | (go_at_call 19; exact Calls.later (HF3.out _ (hbW4.trans ((Later.h _).mono hbW4.size)))) | (go_at_call 14; exact Calls.later_same (l3num_any _ _)))))
              refine wpQuiet_nil ?_
              rintro w5 ⟨⟨W5, hb5⟩, rfl⟩
              have HB6 := Lib.hid (HB3.out.trans ((hbW4.trans (hb5.mono hbW4.size)).mono HB3.out.size))
              clear hb5
              go_wp2_with fail
              go_roundw
              case rel => exact ⟨k + 1, _, by omega, by omega, by go_num, rfl, Lib.hid (by rw [HSV.out, ← HA.out]), HB6⟩
              case measure => simp [intOf]; omega
            · clear hs
              go_wp2_with fail
              refine wp_region_laterN (by kernel_rfl) (by kernel_rfl) ?_
              intro W4 hW4
              have hbW4 : Below wr.heap.size wr W4 := by rw [← hW4]; exact (((hbw3.setCell (p := ⟨wr.heap.size, 3, none⟩) (Nat.le_refl _) _).setCell (p := ⟨wr.heap.size, 2, none⟩) (Nat.le_refl _) _).alloc ((hbw3.setCell (p := ⟨wr.heap.size, 3, none⟩) (Nat.le_refl _) _).setCell (p := ⟨wr.heap.size, 2, none⟩) (Nat.le_refl _) _).size _)
              have g0 : W4.cell? ⟨wr.heap.size, 0, none⟩ = some (.string n) := by rw [← hW4]; simp [go_sem, e0, hs3]
              have g1 : W4.cell? ⟨wr.heap.size, 1, none⟩ = some (.int .i64 2) := by rw [← hW4]; simp [go_sem, e1, hs3]
              have g2 : W4.cell? ⟨wr.heap.size, 2, none⟩ = some (.int .i64 (upZ 2 2)) := by rw [← hW4]; simp [go_sem, e2, hs3, upZ]
              have g3 : W4.cell? ⟨wr.heap.size, 3, none⟩ = some (.bool true) := by rw [← hW4]; simp [go_sem, e3, hs3]
              have r0 : W4.cell? (av.add (k * 4)) = some (.int .i64 v.k) := (hbW4.cell (p := (av.add (k * 4))) hvlt).trans v0
              have r1 : W4.cell? ⟨(av.add (k * 4)).block, (av.add (k * 4)).off + 1, none⟩ = some (.int .i64 v.i) := (hbW4.cell (p := ⟨(av.add (k * 4)).block, (av.add (k * 4)).off + 1, none⟩) hvlt).trans v1
              have r2 : W4.cell? ⟨(av.add (k * 4)).block, (av.add (k * 4)).off + 2, none⟩ = some (.int .u64 v.u) := (hbW4.cell (p := ⟨(av.add (k * 4)).block, (av.add (k * 4)).off + 2, none⟩) hvlt).trans v2
              have r3 : W4.cell? ⟨(av.add (k * 4)).block, (av.add (k * 4)).off + 3, none⟩ = some (.string v.s) := (hbW4.cell (p := ⟨(av.add (k * 4)).block, (av.add (k * 4)).off + 3, none⟩) hvlt).trans v3
              have l0 := later_cell g0
              have l1 := later_cell g1
              have l2 := later_cell g2
              have l3 := later_cell g3
              have l4 := later_cell r0
              have l5 := later_cell r1
              have l6 := later_cell r2
              have l7 := later_cell r3
              clear hW4
              repeat (go_big_quiet_step ((first | (go_at_call 19; exact Calls.later (HF3.out _ (hbW4.trans ((Later.h _).mono hbW4.size)))) | (go_at_call 14; exact Calls.later_same (l3num_any _ _)))))
              refine wpQuiet_nil ?_
              rintro w5 ⟨⟨W5, hb5⟩, rfl⟩
              have HB6 := Lib.hid (HB3.out.trans ((hbW4.trans (hb5.mono hbW4.size)).mono HB3.out.size))
              clear hb5
              go_wp2_with fail
              go_roundw
              case rel => exact ⟨k + 1, _, by omega, by omega, by go_num, rfl, Lib.hid (by rw [HSV.out, ← HA.out]), HB6⟩
              case measure => simp [intOf]; omega
            · clear hs
              go_wp2_with fail
              refine wp_region_laterN (by kernel_rfl) (by kernel_rfl) ?_
              intro W4 hW4
              have hbW4 : Below wr.heap.size wr W4 := by rw [← hW4]; exact (((hbw3.setCell (p := ⟨wr.heap.size, 3, none⟩) (Nat.le_refl _) _).setCell (p := ⟨wr.heap.size, 2, none⟩) (Nat.le_refl _) _).alloc ((hbw3.setCell (p := ⟨wr.heap.size, 3, none⟩) (Nat.le_refl _) _).setCell (p := ⟨wr.heap.size, 2, none⟩) (Nat.le_refl _) _).size _)
              have g0 : W4.cell? ⟨wr.heap.size, 0, none⟩ = some (.string n) := by rw [← hW4]; simp [go_sem, e0, hs3]
              have g1 : W4.cell? ⟨wr.heap.size, 1, none⟩ = some (.int .i64 2) := by rw [← hW4]; simp [go_sem, e1, hs3]
              have g2 : W4.cell? ⟨wr.heap.size, 2, none⟩ = some (.int .i64 (upZ 2 4)) := by rw [← hW4]; simp [go_sem, e2, hs3, upZ]
              have g3 : W4.cell? ⟨wr.heap.size, 3, none⟩ = some (.bool true) := by rw [← hW4]; simp [go_sem, e3, hs3]
              have r0 : W4.cell? (av.add (k * 4)) = some (.int .i64 v.k) := (hbW4.cell (p := (av.add (k * 4))) hvlt).trans v0
              have r1 : W4.cell? ⟨(av.add (k * 4)).block, (av.add (k * 4)).off + 1, none⟩ = some (.int .i64 v.i) := (hbW4.cell (p := ⟨(av.add (k * 4)).block, (av.add (k * 4)).off + 1, none⟩) hvlt).trans v1
              have r2 : W4.cell? ⟨(av.add (k * 4)).block, (av.add (k * 4)).off + 2, none⟩ = some (.int .u64 v.u) := (hbW4.cell (p := ⟨(av.add (k * 4)).block, (av.add (k * 4)).off + 2, none⟩) hvlt).trans v2
              have r3 : W4.cell? ⟨(av.add (k * 4)).block, (av.add (k * 4)).off + 3, none⟩ = some (.string v.s) := (hbW4.cell (p := ⟨(av.add (k * 4)).block, (av.add (k * 4)).off + 3, none⟩) hvlt).trans v3
              have l0 := later_cell g0
              have l1 := later_cell g1
              have l2 := later_cell g2
              have l3 := later_cell g3
              have l4 := later_cell r0
              have l5 := later_cell r1
              have l6 := later_cell r2
              have l7 := later_cell r3
              clear hW4
              repeat (go_big_quiet_step ((first | (go_at_call 19; exact Calls.later (HF3.out _ (hbW4.trans ((Later.h _).mono hbW4.size)))) | (go_at_call 14; exact Calls.later_same (l3num_any _ _)))))
              refine wpQuiet_nil ?_
              rintro w5 ⟨⟨W5, hb5⟩, rfl⟩
              have HB6 := Lib.hid (HB3.out.trans ((hbW4.trans (hb5.mono hbW4.size)).mono HB3.out.size))
              clear hb5
              go_wp2_with fail
              go_roundw
              case rel => exact ⟨k + 1, _, by omega, by omega, by go_num, rfl, Lib.hid (by rw [HSV.out, ← HA.out]), HB6⟩
              case measure => simp [intOf]; omega
            · clear hs
              go_wp2_with fail
              refine wp_region_laterN (by kernel_rfl) (by kernel_rfl) ?_
              intro W4 hW4
              have hbW4 : Below wr.heap.size wr W4 := by rw [← hW4]; exact (((hbw3.setCell (p := ⟨wr.heap.size, 3, none⟩) (Nat.le_refl _) _).setCell (p := ⟨wr.heap.size, 2, none⟩) (Nat.le_refl _) _).alloc ((hbw3.setCell (p := ⟨wr.heap.size, 3, none⟩) (Nat.le_refl _) _).setCell (p := ⟨wr.heap.size, 2, none⟩) (Nat.le_refl _) _).size _)
              have g0 : W4.cell? ⟨wr.heap.size, 0, none⟩ = some (.string n) := by rw [← hW4]; simp [go_sem, e0, hs3]
              have g1 : W4.cell? ⟨wr.heap.size, 1, none⟩ = some (.int .i64 2) := by rw [← hW4]; simp [go_sem, e1, hs3]
              have g2 : W4.cell? ⟨wr.heap.size, 2, none⟩ = some (.int .i64 (upZ 2 8)) := by rw [← hW4]; simp [go_sem, e2, hs3, upZ]
              have g3 : W4.cell? ⟨wr.heap.size, 3, none⟩ = some (.bool true) := by rw [← hW4]; simp [go_sem, e3, hs3]
              have r0 : W4.cell? (av.add (k * 4)) = some (.int .i64 v.k) := (hbW4.cell (p := (av.add (k * 4))) hvlt).trans v0
              have r1 : W4.cell? ⟨(av.add (k * 4)).block, (av.add (k * 4)).off + 1, none⟩ = some (.int .i64 v.i) := (hbW4.cell (p := ⟨(av.add (k * 4)).block, (av.add (k * 4)).off + 1, none⟩) hvlt).trans v1
              have r2 : W4.cell? ⟨(av.add (k * 4)).block, (av.add (k * 4)).off + 2, none⟩ = some (.int .u64 v.u) := (hbW4.cell (p := ⟨(av.add (k * 4)).block, (av.add (k * 4)).off + 2, none⟩) hvlt).trans v2
              have r3 : W4.cell? ⟨(av.add (k * 4)).block, (av.add (k * 4)).off + 3, none⟩ = some (.string v.s) := (hbW4.cell (p := ⟨(av.add (k * 4)).block, (av.add (k * 4)).off + 3, none⟩) hvlt).trans v3
              have l0 := later_cell g0
              have l1 := later_cell g1
              have l2 := later_cell g2
              have l3 := later_cell g3
              have l4 := later_cell r0
              have l5 := later_cell r1
              have l6 := later_cell r2
              have l7 := later_cell r3
              clear hW4
              repeat (go_big_quiet_step ((first | (go_at_call 19; exact Calls.later (HF3.out _ (hbW4.trans ((Later.h _).mono hbW4.size)))) | (go_at_call 14; exact Calls.later_same (l3num_any _ _)))))
              refine wpQuiet_nil ?_
              rintro w5 ⟨⟨W5, hb5⟩, rfl⟩
              have HB6 := Lib.hid (HB3.out.trans ((hbW4.trans (hb5.mono hbW4.size)).mono HB3.out.size))
              clear hb5
              go_wp2_with fail
              go_roundw
              case rel => exact ⟨k + 1, _, by omega, by omega, by go_num, rfl, Lib.hid (by rw [HSV.out, ← HA.out]), HB6⟩
              case measure => simp [intOf]; omega
          · clear hs
            go_wp2_with fail
            refine wp_region_laterN (by kernel_rfl) (by kernel_rfl) ?_
            intro W4 hW4
            have hbW4 : Below wr.heap.size wr W4 := by rw [← hW4]; exact (hbw3.setCell (p := ⟨wr.heap.size, 3, none⟩) (Nat.le_refl _) _)
            have g0 : W4.cell? ⟨wr.heap.size, 0, none⟩ = some (.string n) := by rw [← hW4]; simp [go_sem, e0]
            have g1 : W4.cell? ⟨wr.heap.size, 1, none⟩ = some (.int .i64 3) := by rw [← hW4]; simp [go_sem, e1]
            have g2 : W4.cell? ⟨wr.heap.size, 2, none⟩ = some (.int .i64 (upZ 3 z)) := by rw [← hW4]; simp [go_sem, e2, upZ]
            have g3 : W4.cell? ⟨wr.heap.size, 3, none⟩ = some (.bool true) := by rw [← hW4]; simp [go_sem, e3]
            have r0 : W4.cell? (av.add (k * 4)) = some (.int .i64 v.k) := (hbW4.cell (p := (av.add (k * 4))) hvlt).trans v0
            have r1 : W4.cell? ⟨(av.add (k * 4)).block, (av.add (k * 4)).off + 1, none⟩ = some (.int .i64 v.i) := (hbW4.cell (p := ⟨(av.add (k * 4)).block, (av.add (k * 4)).off + 1, none⟩) hvlt).trans v1
            have r2 : W4.cell? ⟨(av.add (k * 4)).block, (av.add (k * 4)).off + 2, none⟩ = some (.int .u64 v.u) := (hbW4.cell (p := ⟨(av.add (k * 4)).block, (av.add (k * 4)).off + 2, none⟩) hvlt).trans v2
            have r3 : W4.cell? ⟨(av.add (k * 4)).block, (av.add (k * 4)).off + 3, none⟩ = some (.string v.s) := (hbW4.cell (p := ⟨(av.add (k * 4)).block, (av.add (k * 4)).off + 3, none⟩) hvlt).trans v3
            have l0 := later_cell g0
            have l1 := later_cell g1
            have l2 := later_cell g2
            have l3 := later_cell g3
            have l4 := later_cell r0
            have l5 := later_cell r1
            have l6 := later_cell r2
            have l7 := later_cell r3
            clear hW4
            repeat (go_big_quiet_step ((first | (go_at_call 19; exact Calls.later (HF3.out _ (hbW4.trans ((Later.h _).mono hbW4.size)))) | (go_at_call 14; exact Calls.later_same (l3num_any _ _)))))
            refine wpQuiet_nil ?_
            rintro w5 ⟨⟨W5, hb5⟩, rfl⟩
            have HB6 := Lib.hid (HB3.out.trans ((hbW4.trans (hb5.mono hbW4.size)).mono HB3.out.size))
            clear hb5
            go_wp2_with fail
            go_roundw
            case rel => exact ⟨k + 1, _, by omega, by omega, by go_num, rfl, Lib.hid (by rw [HSV.out, ← HA.out]), HB6⟩
            case measure => simp [intOf]; omega
          · have hz : byteSz z = true := hs
            unfold byteSz at hz
            rw [Bool.and_eq_true, decide_eq_true_eq, decide_eq_true_eq] at hz
            obtain ⟨z1, z2⟩ := hz
            clear hs
            by_cases z8 : z < 8
            · obtain ⟨m, rfl⟩ := Int.eq_ofNat_of_zero_le (show 0 ≤ z by omega)
              rcases (show m = 1 ∨ m = 2 ∨ m = 3 ∨ m = 4 ∨ m = 5 ∨ m = 6 ∨ m = 7 by omega) with rfl | rfl | rfl | rfl | rfl | rfl | rfl
              · go_wp2_with fail
                refine wp_region_laterN (by kernel_rfl) (by kernel_rfl) ?_
                intro W4 hW4
                have hbW4 : Below wr.heap.size wr W4 := by rw [← hW4]; exact ((((hbw3.setCell (p := ⟨wr.heap.size, 3, none⟩) (Nat.le_refl _) _).setCell (p := ⟨wr.heap.size, 2, none⟩) (Nat.le_refl _) _).setCell (p := ⟨wr.heap.size, 2, none⟩) (Nat.le_refl _) _).alloc (((hbw3.setCell (p := ⟨wr.heap.size, 3, none⟩) (Nat.le_refl _) _).setCell (p := ⟨wr.heap.size, 2, none⟩) (Nat.le_refl _) _).setCell (p := ⟨wr.heap.size, 2, none⟩) (Nat.le_refl _) _).size _)
                have g0 : W4.cell? ⟨wr.heap.size, 0, none⟩ = some (.string n) := by rw [← hW4]; simp [go_sem, e0, hs3]
                have g1 : W4.cell? ⟨wr.heap.size, 1, none⟩ = some (.int .i64 4) := by rw [← hW4]; simp [go_sem, e1, hs3]
                have g2 : W4.cell? ⟨wr.heap.size, 2, none⟩ = some (.int .i64 (upZ 4 ((1 : Nat) : Int))) := by rw [← hW4]; simp only [upZ4]; exact cell_twice hs3 e2
                have g3 : W4.cell? ⟨wr.heap.size, 3, none⟩ = some (.bool true) := by rw [← hW4]; simp [go_sem, e3, hs3]
                have r0 : W4.cell? (av.add (k * 4)) = some (.int .i64 v.k) := (hbW4.cell (p := (av.add (k * 4))) hvlt).trans v0
                have r1 : W4.cell? ⟨(av.add (k * 4)).block, (av.add (k * 4)).off + 1, none⟩ = some (.int .i64 v.i) := (hbW4.cell (p := ⟨(av.add (k * 4)).block, (av.add (k * 4)).off + 1, none⟩) hvlt).trans v1
                have r2 : W4.cell? ⟨(av.add (k * 4)).block, (av.add (k * 4)).off + 2, none⟩ = some (.int .u64 v.u) := (hbW4.cell (p := ⟨(av.add (k * 4)).block, (av.add (k * 4)).off + 2, none⟩) hvlt).trans v2
                have r3 : W4.cell? ⟨(av.add (k * 4)).block, (av.add (k * 4)).off + 3, none⟩ = some (.string v.s) := (hbW4.cell (p := ⟨(av.add (k * 4)).block, (av.add (k * 4)).off + 3, none⟩) hvlt).trans v3
                have l0 := later_cell g0
                have l1 := later_cell g1
                have l2 := later_cell g2
                have l3 := later_cell g3
                have l4 := later_cell r0
                have l5 := later_cell r1
                have l6 := later_cell r2
                have l7 := later_cell r3
                clear hW4
                repeat (go_big_quiet_step ((first | (go_at_call 19; exact Calls.later (HF3.out _ (hbW4.trans ((Later.h _).mono hbW4.size)))) | (go_at_call 14; exact Calls.later_same (l3num_any _ _)))))
                refine wpQuiet_nil ?_
                rintro w5 ⟨⟨W5, hb5⟩, rfl⟩
                have HB6 := Lib.hid (HB3.out.trans ((hbW4.trans (hb5.mono hbW4.size)).mono HB3.out.size))
                clear hb5
                go_wp2_with fail
                go_roundw
                case rel => exact ⟨k + 1, _, by omega, by omega, by go_num, rfl, Lib.hid (by rw [HSV.out, ← HA.out]), HB6⟩
                case measure => simp [intOf]; omega
              · go_wp2_with fail
                refine wp_region_laterN (by kernel_rfl) (by kernel_rfl) ?_
                intro W4 hW4
                have hbW4 : Below wr.heap.size wr W4 := by rw [← hW4]; exact ((((hbw3.setCell (p := ⟨wr.heap.size, 3, none⟩) (Nat.le_refl _) _).setCell (p := ⟨wr.heap.size, 2, none⟩) (Nat.le_refl _) _).setCell (p := ⟨wr.heap.size, 2, none⟩) (Nat.le_refl _) _).alloc (((hbw3.setCell (p := ⟨wr.heap.size, 3, none⟩) (Nat.le_refl _) _).setCell (p := ⟨wr.heap.size, 2, none⟩) (Nat.le_refl _) _).setCell (p := ⟨wr.heap.size, 2, none⟩) (Nat.le_refl _) _).size _)
                have g0 : W4.cell? ⟨wr.heap.size, 0, none⟩ = some (.string n) := by rw [← hW4]; simp [go_sem, e0, hs3]
                have g1 : W4.cell? ⟨wr.heap.size, 1, none⟩ = some (.int .i64 4) := by rw [← hW4]; simp [go_sem, e1, hs3]
                have g2 : W4.cell? ⟨wr.heap.size, 2, none⟩ = some (.int .i64 (upZ 4 ((2 : Nat) : Int))) := by rw [← hW4]; simp only [upZ4]; exact cell_twice hs3 e2
                have g3 : W4.cell? ⟨wr.heap.size, 3, none⟩ = some (.bool true) := by rw [← hW4]; simp [go_sem, e3, hs3]
                have r0 : W4.cell? (av.add (k * 4)) = some (.int .i64 v.k) := (hbW4.cell (p := (av.add (k * 4))) hvlt).trans v0
                have r1 : W4.cell? ⟨(av.add (k * 4)).block, (av.add (k * 4)).off + 1, none⟩ = some (.int .i64 v.i) := (hbW4.cell (p := ⟨(av.add (k * 4)).block, (av.add (k * 4)).off + 1, none⟩) hvlt).trans v1
                have r2 : W4.cell? ⟨(av.add (k * 4)).block, (av.add (k * 4)).off + 2, none⟩ = some (.int .u64 v.u) := (hbW4.cell (p := ⟨(av.add (k * 4)).block, (av.add (k * 4)).off + 2, none⟩) hvlt).trans v2
                have r3 : W4.cell? ⟨(av.add (k * 4)).block, (av.add (k * 4)).off + 3, none⟩ = some (.string v.s) := (hbW4.cell (p := ⟨(av.add (k * 4)).block, (av.add (k * 4)).off + 3, none⟩) hvlt).trans v3
                have l0 := later_cell g0
                have l1 := later_cell g1
                have l2 := later_cell g2
                have l3 := later_cell g3
                have l4 := later_cell r0
                have l5 := later_cell r1
                have l6 := later_cell r2
                have l7 := later_cell r3
                clear hW4
                repeat (go_big_quiet_step ((first | (go_at_call 19; exact Calls.later (HF3.out _ (hbW4.trans ((Later.h _).mono hbW4.size)))) | (go_at_call 14; exact Calls.later_same (l3num_any _ _)))))
                refine wpQuiet_nil ?_
                rintro w5 ⟨⟨W5, hb5⟩, rfl⟩
                have HB6 := Lib.hid (HB3.out.trans ((hbW4.trans (hb5.mono hbW4.size)).mono HB3.out.size))
                clear hb5
                go_wp2_with fail
                go_roundw
                case rel => exact ⟨k + 1, _, by omega, by omega, by go_num, rfl, Lib.hid (by rw [HSV.out, ← HA.out]), HB6⟩
                case measure => simp [intOf]; omega
              · go_wp2_with fail
                refine wp_region_laterN (by kernel_rfl) (by kernel_rfl) ?_
                intro W4 hW4
                have hbW4 : Below wr.heap.size wr W4 := by rw [← hW4]; exact ((((hbw3.setCell (p := ⟨wr.heap.size, 3, none⟩) (Nat.le_refl _) _).setCell (p := ⟨wr.heap.size, 2, none⟩) (Nat.le_refl _) _).setCell (p := ⟨wr.heap.size, 2, none⟩) (Nat.le_refl _) _).alloc (((hbw3.setCell (p := ⟨wr.heap.size, 3, none⟩) (Nat.le_refl _) _).setCell (p := ⟨wr.heap.size, 2, none⟩) (Nat.le_refl _) _).setCell (p := ⟨wr.heap.size, 2, none⟩) (Nat.le_refl _) _).size _)
                have g0 : W4.cell? ⟨wr.heap.size, 0, none⟩ = some (.string n) := by rw [← hW4]; simp [go_sem, e0, hs3]
                have g1 : W4.cell? ⟨wr.heap.size, 1, none⟩ = some (.int .i64 4) := by rw [← hW4]; simp [go_sem, e1, hs3]
                have g2 : W4.cell? ⟨wr.heap.size, 2, none⟩ = some (.int .i64 (upZ 4 ((3 : Nat) : Int))) := by rw [← hW4]; simp only [upZ4]; exact cell_twice hs3 e2
                have g3 : W4.cell? ⟨wr.heap.size, 3, none⟩ = some (.bool true) := by rw [← hW4]; simp [go_sem, e3, hs3]
                have r0 : W4.cell? (av.add (k * 4)) = some (.int .i64 v.k) := (hbW4.cell (p := (av.add (k * 4))) hvlt).trans v0
                have r1 : W4.cell? ⟨(av.add (k * 4)).block, (av.add (k * 4)).off + 1, none⟩ = some (.int .i64 v.i) := (hbW4.cell (p := ⟨(av.add (k * 4)).block, (av.add (k * 4)).off + 1, none⟩) hvlt).trans v1
                have r2 : W4.cell? ⟨(av.add (k * 4)).block, (av.add (k * 4)).off + 2, none⟩ = some (.int .u64 v.u) := (hbW4.cell (p := ⟨(av.add (k * 4)).block, (av.add (k * 4)).off + 2, none⟩) hvlt).trans v2
                have r3 : W4.cell? ⟨(av.add (k * 4)).block, (av.add (k * 4)).off + 3, none⟩ = some (.string v.s) := (hbW4.cell (p := ⟨(av.add (k * 4)).block, (av.add (k * 4)).off + 3, none⟩) hvlt).trans v3
                have l0 := later_cell g0
                have l1 := later_cell g1
                have l2 := later_cell g2
                have l3 := later_cell g3
                have l4 := later_cell r0
                have l5 := later_cell r1
                have l6 := later_cell r2
                have l7 := later_cell r3
                clear hW4
                repeat (go_big_quiet_step ((first | (go_at_call 19; exact Calls.later (HF3.out _ (hbW4.trans ((Later.h _).mono hbW4.size)))) | (go_at_call 14; exact Calls.later_same (l3num_any _ _)))))
                refine wpQuiet_nil ?_
                rintro w5 ⟨⟨W5, hb5⟩, rfl⟩
                have HB6 := Lib.hid (HB3.out.trans ((hbW4.trans (hb5.mono hbW4.size)).mono HB3.out.size))
                clear hb5
                go_wp2_with fail
                go_roundw
                case rel => exact ⟨k + 1, _, by omega, by omega, by go_num, rfl, Lib.hid (by rw [HSV.out, ← HA.out]), HB6⟩
                case measure => simp [intOf]; omega
              · go_wp2_with fail
                refine wp_region_laterN (by kernel_rfl) (by kernel_rfl) ?_
                intro W4 hW4
                have hbW4 : Below wr.heap.size wr W4 := by rw [← hW4]; exact ((((hbw3.setCell (p := ⟨wr.heap.size, 3, none⟩) (Nat.le_refl _) _).setCell (p := ⟨wr.heap.size, 2, none⟩) (Nat.le_refl _) _).setCell (p := ⟨wr.heap.size, 2, none⟩) (Nat.le_refl _) _).alloc (((hbw3.setCell (p := ⟨wr.heap.size, 3, none⟩) (Nat.le_refl _) _).setCell (p := ⟨wr.heap.size, 2, none⟩) (Nat.le_refl _) _).setCell (p := ⟨wr.heap.size, 2, none⟩) (Nat.le_refl _) _).size _)
                have g0 : W4.cell? ⟨wr.heap.size, 0, none⟩ = some (.string n) := by rw [← hW4]; simp [go_sem, e0, hs3]
                have g1 : W4.cell? ⟨wr.heap.size, 1, none⟩ = some (.int .i64 4) := by rw [← hW4]; simp [go_sem, e1, hs3]
                have g2 : W4.cell? ⟨wr.heap.size, 2, none⟩ = some (.int .i64 (upZ 4 ((4 : Nat) : Int))) := by rw [← hW4]; simp only [upZ4]; exact cell_twice hs3 e2
                have g3 : W4.cell? ⟨wr.heap.size, 3, none⟩ = some (.bool true) := by rw [← hW4]; simp [go_sem, e3, hs3]
                have r0 : W4.cell? (av.add (k * 4)) = some (.int .i64 v.k) := (hbW4.cell (p := (av.add (k * 4))) hvlt).trans v0
                have r1 : W4.cell? ⟨(av.add (k * 4)).block, (av.add (k * 4)).off + 1, none⟩ = some (.int .i64 v.i) := (hbW4.cell (p := ⟨(av.add (k * 4)).block, (av.add (k * 4)).off + 1, none⟩) hvlt).trans v1
                have r2 : W4.cell? ⟨(av.add (k * 4)).block, (av.add (k * 4)).off + 2, none⟩ = some (.int .u64 v.u) := (hbW4.cell (p := ⟨(av.add (k * 4)).block, (av.add (k * 4)).off + 2, none⟩) hvlt).trans v2
                have r3 : W4.cell? ⟨(av.add (k * 4)).block, (av.add (k * 4)).off + 3, none⟩ = some (.string v.s) := (hbW4.cell (p := ⟨(av.add (k * 4)).block, (av.add (k * 4)).off + 3, none⟩) hvlt).trans v3
                have l0 := later_cell g0
                have l1 := later_cell g1
                have l2 := later_cell g2
                have l3 := later_cell g3
                have l4 := later_cell r0
                have l5 := later_cell r1
                have l6 := later_cell r2
                have l7 := later_cell r3
                clear hW4
                repeat (go_big_quiet_step ((first | (go_at_call 19; exact Calls.later (HF3.out _ (hbW4.trans ((Later.h _).mono hbW4.size)))) | (go_at_call 14; exact Calls.later_same (l3num_any _ _)))))
                refine wpQuiet_nil ?_
                rintro w5 ⟨⟨W5, hb5⟩, rfl⟩
                have HB6 := Lib.hid (HB3.out.trans ((hbW4.trans (hb5.mono hbW4.size)).mono HB3.out.size))
                clear hb5
                go_wp2_with fail
                go_roundw
                case rel => exact ⟨k + 1, _, by omega, by omega, by go_num, rfl, Lib.hid (by rw [HSV.out, ← HA.out]), HB6⟩
                case measure => simp [intOf]; omega
              · go_wp2_with fail
                refine wp_region_laterN (by kernel_rfl) (by kernel_rfl) ?_
                intro W4 hW4
                have hbW4 : Below wr.heap.size wr W4 := by rw [← hW4]; exact ((((hbw3.setCell (p := ⟨wr.heap.size, 3, none⟩) (Nat.le_refl _) _).setCell (p := ⟨wr.heap.size, 2, none⟩) (Nat.le_refl _) _).setCell (p := ⟨wr.heap.size, 2, none⟩) (Nat.le_refl _) _).alloc (((hbw3.setCell (p := ⟨wr.heap.size, 3, none⟩) (Nat.le_refl _) _).setCell (p := ⟨wr.heap.size, 2, none⟩) (Nat.le_refl _) _).setCell (p := ⟨wr.heap.size, 2, none⟩) (Nat.le_refl _) _).size _)
                have g0 : W4.cell? ⟨wr.heap.size, 0, none⟩ = some (.string n) := by rw [← hW4]; simp [go_sem, e0, hs3]
                have g1 : W4.cell? ⟨wr.heap.size, 1, none⟩ = some (.int .i64 4) := by rw [← hW4]; simp [go_sem, e1, hs3]
                have g2 : W4.cell? ⟨wr.heap.size, 2, none⟩ = some (.int .i64 (upZ 4 ((5 : Nat) : Int))) := by rw [← hW4]; simp only [upZ4]; exact cell_twice hs3 e2
                have g3 : W4.cell? ⟨wr.heap.size, 3, none⟩ = some (.bool true) := by rw [← hW4]; simp [go_sem, e3, hs3]
                have r0 : W4.cell? (av.add (k * 4)) = some (.int .i64 v.k) := (hbW4.cell (p := (av.add (k * 4))) hvlt).trans v0
                have r1 : W4.cell? ⟨(av.add (k * 4)).block, (av.add (k * 4)).off + 1, none⟩ = some (.int .i64 v.i) := (hbW4.cell (p := ⟨(av.add (k * 4)).block, (av.add (k * 4)).off + 1, none⟩) hvlt).trans v1
                have r2 : W4.cell? ⟨(av.add (k * 4)).block, (av.add (k * 4)).off + 2, none⟩ = some (.int .u64 v.u) := (hbW4.cell (p := ⟨(av.add (k * 4)).block, (av.add (k * 4)).off + 2, none⟩) hvlt).trans v2
                have r3 : W4.cell? ⟨(av.add (k * 4)).block, (av.add (k * 4)).off + 3, none⟩ = some (.string v.s) := (hbW4.cell (p := ⟨(av.add (k * 4)).block, (av.add (k * 4)).off + 3, none⟩) hvlt).trans v3
                have l0 := later_cell g0
                have l1 := later_cell g1
                have l2 := later_cell g2
                have l3 := later_cell g3
                have l4 := later_cell r0
                have l5 := later_cell r1
                have l6 := later_cell r2
                have l7 := later_cell r3
                clear hW4
                repeat (go_big_quiet_step ((first | (go_at_call 19; exact Calls.later (HF3.out _ (hbW4.trans ((Later.h _).mono hbW4.size)))) | (go_at_call 14; exact Calls.later_same (l3num_any _ _)))))
                refine wpQuiet_nil ?_
                rintro w5 ⟨⟨W5, hb5⟩, rfl⟩
                have HB6 := Lib.hid (HB3.out.trans ((hbW4.trans (hb5.mono hbW4.size)).mono HB3.out.size))
                clear hb5
                go_wp2_with fail
                go_roundw
                case rel => exact ⟨k + 1, _, by omega, by omega, by go_num, rfl, Lib.hid (by rw [HSV.out, ← HA.out]), HB6⟩
                case measure => simp [intOf]; omega
              · go_wp2_with fail
                refine wp_region_laterN (by kernel_rfl) (by kernel_rfl) ?_
                intro W4 hW4
                have hbW4 : Below wr.heap.size wr W4 := by rw [← hW4]; exact ((((hbw3.setCell (p := ⟨wr.heap.size, 3, none⟩) (Nat.le_refl _) _).setCell (p := ⟨wr.heap.size, 2, none⟩) (Nat.le_refl _) _).setCell (p := ⟨wr.heap.size, 2, none⟩) (Nat.le_refl _) _).alloc (((hbw3.setCell (p := ⟨wr.heap.size, 3, none⟩) (Nat.le_refl _) _).setCell (p := ⟨wr.heap.size, 2, none⟩) (Nat.le_refl _) _).setCell (p := ⟨wr.heap.size, 2, none⟩) (Nat.le_refl _) _).size _)
                have g0 : W4.cell? ⟨wr.heap.size, 0, none⟩ = some (.string n) := by rw [← hW4]; simp [go_sem, e0, hs3]
                have g1 : W4.cell? ⟨wr.heap.size, 1, none⟩ = some (.int .i64 4) := by rw [← hW4]; simp [go_sem, e1, hs3]
                have g2 : W4.cell? ⟨wr.heap.size, 2, none⟩ = some (.int .i64 (upZ 4 ((6 : Nat) : Int))) := by rw [← hW4]; simp only [upZ4]; exact cell_twice hs3 e2
                have g3 : W4.cell? ⟨wr.heap.size, 3, none⟩ = some (.bool true) := by rw [← hW4]; simp [go_sem, e3, hs3]
                have r0 : W4.cell? (av.add (k * 4)) = some (.int .i64 v.k) := (hbW4.cell (p := (av.add (k * 4))) hvlt).trans v0
                have r1 : W4.cell? ⟨(av.add (k * 4)).block, (av.add (k * 4)).off + 1, none⟩ = some (.int .i64 v.i) := (hbW4.cell (p := ⟨(av.add (k * 4)).block, (av.add (k * 4)).off + 1, none⟩) hvlt).trans v1
                have r2 : W4.cell? ⟨(av.add (k * 4)).block, (av.add (k * 4)).off + 2, none⟩ = some (.int .u64 v.u) := (hbW4.cell (p := ⟨(av.add (k * 4)).block, (av.add (k * 4)).off + 2, none⟩) hvlt).trans v2
                have r3 : W4.cell? ⟨(av.add (k * 4)).block, (av.add (k * 4)).off + 3, none⟩ = some (.string v.s) := (hbW4.cell (p := ⟨(av.add (k * 4)).block, (av.add (k * 4)).off + 3, none⟩) hvlt).trans v3
                have l0 := later_cell g0
                have l1 := later_cell g1
                have l2 := later_cell g2
                have l3 := later_cell g3
                have l4 := later_cell r0
                have l5 := later_cell r1
                have l6 := later_cell r2
                have l7 := later_cell r3
                clear hW4
                repeat (go_big_quiet_step ((first | (go_at_call 19; exact Calls.later (HF3.out _ (hbW4.trans ((Later.h _).mono hbW4.size)))) | (go_at_call 14; exact Calls.later_same (l3num_any _ _)))))
                refine wpQuiet_nil ?_
                rintro w5 ⟨⟨W5, hb5⟩, rfl⟩
                have HB6 := Lib.hid (HB3.out.trans ((hbW4.trans (hb5.mono hbW4.size)).mono HB3.out.size))
                clear hb5
                go_wp2_with fail
                go_roundw
                case rel => exact ⟨k + 1, _, by omega, by omega, by go_num, rfl, Lib.hid (by rw [HSV.out, ← HA.out]), HB6⟩
                case measure => simp [intOf]; omega
              · go_wp2_with fail
                refine wp_region_laterN (by kernel_rfl) (by kernel_rfl) ?_
                intro W4 hW4
                have hbW4 : Below wr.heap.size wr W4 := by rw [← hW4]; exact ((((hbw3.setCell (p := ⟨wr.heap.size, 3, none⟩) (Nat.le_refl _) _).setCell (p := ⟨wr.heap.size, 2, none⟩) (Nat.le_refl _) _).setCell (p := ⟨wr.heap.size, 2, none⟩) (Nat.le_refl _) _).alloc (((hbw3.setCell (p := ⟨wr.heap.size, 3, none⟩) (Nat.le_refl _) _).setCell (p := ⟨wr.heap.size, 2, none⟩) (Nat.le_refl _) _).setCell (p := ⟨wr.heap.size, 2, none⟩) (Nat.le_refl _) _).size _)
                have g0 : W4.cell? ⟨wr.heap.size, 0, none⟩ = some (.string n) := by rw [← hW4]; simp [go_sem, e0, hs3]
                have g1 : W4.cell? ⟨wr.heap.size, 1, none⟩ = some (.int .i64 4) := by rw [← hW4]; simp [go_sem, e1, hs3]
                have g2 : W4.cell? ⟨wr.heap.size, 2, none⟩ = some (.int .i64 (upZ 4 ((7 : Nat) : Int))) := by rw [← hW4]; simp only [upZ4]; exact cell_twice hs3 e2
                have g3 : W4.cell? ⟨wr.heap.size, 3, none⟩ = some (.bool true) := by rw [← hW4]; simp [go_sem, e3, hs3]
                have r0 : W4.cell? (av.add (k * 4)) = some (.int .i64 v.k) := (hbW4.cell (p := (av.add (k * 4))) hvlt).trans v0
                have r1 : W4.cell? ⟨(av.add (k * 4)).block, (av.add (k * 4)).off + 1, none⟩ = some (.int .i64 v.i) := (hbW4.cell (p := ⟨(av.add (k * 4)).block, (av.add (k * 4)).off + 1, none⟩) hvlt).trans v1
                have r2 : W4.cell? ⟨(av.add (k * 4)).block, (av.add (k * 4)).off + 2, none⟩ = some (.int .u64 v.u) := (hbW4.cell (p := ⟨(av.add (k * 4)).block, (av.add (k * 4)).off + 2, none⟩) hvlt).trans v2
                have r3 : W4.cell? ⟨(av.add (k * 4)).block, (av.add (k * 4)).off + 3, none⟩ = some (.string v.s) := (hbW4.cell (p := ⟨(av.add (k * 4)).block, (av.add (k * 4)).off + 3, none⟩) hvlt).trans v3
                have l0 := later_cell g0
                have l1 := later_cell g1
                have l2 := later_cell g2
                have l3 := later_cell g3
                have l4 := later_cell r0
                have l5 := later_cell r1
                have l6 := later_cell r2
                have l7 := later_cell r3
                clear hW4
                repeat (go_big_quiet_step ((first | (go_at_call 19; exact Calls.later (HF3.out _ (hbW4.trans ((Later.h _).mono hbW4.size)))) | (go_at_call 14; exact Calls.later_same (l3num_any _ _)))))
                refine wpQuiet_nil ?_
                rintro w5 ⟨⟨W5, hb5⟩, rfl⟩
                have HB6 := Lib.hid (HB3.out.trans ((hbW4.trans (hb5.mono hbW4.size)).mono HB3.out.size))
                clear hb5
                go_wp2_with fail
                go_roundw
                case rel => exact ⟨k + 1, _, by omega, by omega, by go_num, rfl, Lib.hid (by rw [HSV.out, ← HA.out]), HB6⟩
                case measure => simp [intOf]; omega
            · have x1 : max 0 z = z := by omega
              have x2 : min 8 z = 8 := by omega
              go_wp2_with fail
              refine wp_region_laterN (by kernel_rfl) (by kernel_rfl) ?_
              intro W4 hW4
              have hbW4 : Below wr.heap.size wr W4 := by rw [← hW4]; exact ((((hbw3.setCell (p := ⟨wr.heap.size, 3, none⟩) (Nat.le_refl _) _).setCell (p := ⟨wr.heap.size, 2, none⟩) (Nat.le_refl _) _).setCell (p := ⟨wr.heap.size, 2, none⟩) (Nat.le_refl _) _).alloc (((hbw3.setCell (p := ⟨wr.heap.size, 3, none⟩) (Nat.le_refl _) _).setCell (p := ⟨wr.heap.size, 2, none⟩) (Nat.le_refl _) _).setCell (p := ⟨wr.heap.size, 2, none⟩) (Nat.le_refl _) _).size _)
              have g0 : W4.cell? ⟨wr.heap.size, 0, none⟩ = some (.string n) := by rw [← hW4]; simp [go_sem, e0, hs3]
              have g1 : W4.cell? ⟨wr.heap.size, 1, none⟩ = some (.int .i64 4) := by rw [← hW4]; simp [go_sem, e1, hs3]
              have g2 : W4.cell? ⟨wr.heap.size, 2, none⟩ = some (.int .i64 (upZ 4 z)) := by rw [← hW4]; simp only [upZ4]; exact cell_twice hs3 e2
              have g3 : W4.cell? ⟨wr.heap.size, 3, none⟩ = some (.bool true) := by rw [← hW4]; simp [go_sem, e3, hs3]
              have r0 : W4.cell? (av.add (k * 4)) = some (.int .i64 v.k) := (hbW4.cell (p := (av.add (k * 4))) hvlt).trans v0
              have r1 : W4.cell? ⟨(av.add (k * 4)).block, (av.add (k * 4)).off + 1, none⟩ = some (.int .i64 v.i) := (hbW4.cell (p := ⟨(av.add (k * 4)).block, (av.add (k * 4)).off + 1, none⟩) hvlt).trans v1
              have r2 : W4.cell? ⟨(av.add (k * 4)).block, (av.add (k * 4)).off + 2, none⟩ = some (.int .u64 v.u) := (hbW4.cell (p := ⟨(av.add (k * 4)).block, (av.add (k * 4)).off + 2, none⟩) hvlt).trans v2
              have r3 : W4.cell? ⟨(av.add (k * 4)).block, (av.add (k * 4)).off + 3, none⟩ = some (.string v.s) := (hbW4.cell (p := ⟨(av.add (k * 4)).block, (av.add (k * 4)).off + 3, none⟩) hvlt).trans v3
              have l0 := later_cell g0
              have l1 := later_cell g1
              have l2 := later_cell g2
              have l3 := later_cell g3
              have l4 := later_cell r0
              have l5 := later_cell r1
              have l6 := later_cell r2
              have l7 := later_cell r3
              clear hW4
              repeat (go_big_quiet_step ((first | (go_at_call 19; exact Calls.later (HF3.out _ (hbW4.trans ((Later.h _).mono hbW4.size)))) | (go_at_call 14; exact Calls.later_same (l3num_any _ _)))))
              refine wpQuiet_nil ?_
              rintro w5 ⟨⟨W5, hb5⟩, rfl⟩
              have HB6 := Lib.hid (HB3.out.trans ((hbW4.trans (hb5.mono hbW4.size)).mono HB3.out.size))
              clear hb5
              go_wp2_with fail
              go_roundw
              case rel => exact ⟨k + 1, _, by omega, by omega, by go_num, rfl, Lib.hid (by rw [HSV.out, ← HA.out]), HB6⟩
              case measure => simp [intOf]; omega
      · have HSV := Lib.hid (show fitTo S.cols row (k + 1) = false by rw [HSU.out, show (fitN ⟨n, t, z, u⟩ v == 0) = false by simpa using h0]; simp)
        have hm0 : (fitN ⟨n, t, z, u⟩ v == 0) = false := by simpa using h0
        generalize fitN ⟨n, t, z, u⟩ v = m0 at HF1 hm0
        clear h0 HF2 HSU
        repeat (go_big_quiet_step ((first | (go_at_call 19; exact Calls.later (HF1.out _ (hbW.trans ((Later.h _).mono hbW.size)))) | (go_at_call 14; exact Calls.later_same (l3num_any _ _)))))
        refine wpQuiet_nil ?_
        rintro w3 ⟨⟨W3, hb3⟩, rfl⟩
        have hbw3 := hbW.trans (hb3.mono hbW.size)
        have e0 := cell_old e0 hb3
        have e1 := cell_old e1 hb3
        have e2 := cell_old e2 hb3
        have e3 := cell_old e3 hb3
        have y0 := cell_old y0 hb3
        have y1 := cell_old y1 hb3
        have y2 := cell_old y2 hb3
        have y3 := cell_old y3 hb3
        have f1 : w3.frozen? ⟨wr.heap.size, 2, none⟩ = false := by rw [hb3.frozen hsW]; exact f1
        have f2 : w3.frozen? ⟨wr.heap.size, 3, none⟩ = false := by rw [hb3.frozen hsW]; exact f2
        have hs3 : wr.heap.size < w3.heap.size := by have := hb3.size; omega
        have hne : (av.add (k * 4)).block ≠ wr.heap.size := by omega
        clear hb3 hbW l0 l1 l2 l3 l4 l5 l6 l7 j0 j1 j2 hsW
        cases a
        · rcases type_cases t with ht | rfl | rfl | rfl | rfl
          · rw [szOk_none ht] at hs; cases hs
          · rcases numSz_cases (show numSz z = true from hs) with rfl | rfl | rfl | rfl
            · clear hs
              go_wp2_with fail
              refine wp_region_laterN (by kernel_rfl) (by kernel_rfl) ?_
              intro W4 hW4
              have hbW4 : Below wr.heap.size wr W4 := by rw [← hW4]; exact (((hbw3.setCell (p := ⟨wr.heap.size, 3, none⟩) (Nat.le_refl _) _).setCell (p := ⟨wr.heap.size, 2, none⟩) (Nat.le_refl _) _).alloc ((hbw3.setCell (p := ⟨wr.heap.size, 3, none⟩) (Nat.le_refl _) _).setCell (p := ⟨wr.heap.size, 2, none⟩) (Nat.le_refl _) _).size _)
              clear hW4
              repeat (go_big_quiet_step (fail))
              refine wpQuiet_nil ?_
              rintro w5 ⟨⟨W5, hb5⟩, rfl⟩
              have HB6 := Lib.hid (HB3.out.trans ((hbW4.trans (hb5.mono hbW4.size)).mono HB3.out.size))
              clear hb5
              go_wp2_with fail
              go_roundw
              case rel => exact ⟨k + 1, _, by omega, by omega, by go_num, rfl, Lib.hid (by rw [HSV.out, Bool.and_false]), HB6⟩
              case measure => simp [intOf]; omega
            · clear hs
              go_wp2_with fail
              refine wp_region_laterN (by kernel_rfl) (by kernel_rfl) ?_
              intro W4 hW4
              have hbW4 : Below wr.heap.size wr W4 := by rw [← hW4]; exact (((hbw3.setCell (p := ⟨wr.heap.size, 3, none⟩) (Nat.le_refl _) _).setCell (p := ⟨wr.heap.size, 2, none⟩) (Nat.le_refl _) _).alloc ((hbw3.setCell (p := ⟨wr.heap.size, 3, none⟩) (Nat.le_refl _) _).setCell (p := ⟨wr.heap.size, 2, none⟩) (Nat.le_refl _) _).size _)
              clear hW4
              repeat (go_big_quiet_step (fail))
              refine wpQuiet_nil ?_
              rintro w5 ⟨⟨W5, hb5⟩, rfl⟩
              have HB6 := Lib.hid (HB3.out.trans ((hbW4.trans (hb5.mono hbW4.size)).mono HB3.out.size))
              clear hb5
              go_wp2_with fail
              go_roundw
              case rel => exact ⟨k + 1, _, by omega, by omega, by go_num, rfl, Lib.hid (by rw [HSV.out, Bool.and_false]), HB6⟩
              case measure => simp [intOf]; omega
            · clear hs
              go_wp2_with fail
              refine wp_region_laterN (by kernel_rfl) (by kernel_rfl) ?_
              intro W4 hW4
              have hbW4 : Below wr.heap.size wr W4 := by rw [← hW4]; exact (((hbw3.setCell (p := ⟨wr.heap.size, 3, none⟩) (Nat.le_refl _) _).setCell (p := ⟨wr.heap.size, 2, none⟩) (Nat.le_refl _) _).alloc ((hbw3.setCell (p := ⟨wr.heap.size, 3, none⟩) (Nat.le_refl _) _).setCell (p := ⟨wr.heap.size, 2, none⟩) (Nat.le_refl _) _).size _)
              clear hW4
              repeat (go_big_quiet_step (fail))
              refine wpQuiet_nil ?_
              rintro w5 ⟨⟨W5, hb5⟩, rfl⟩
              have HB6 := Lib.hid (HB3.out.trans ((hbW4.trans (hb5.mono hbW4.size)).mono HB3.out.size))
              clear hb5
              go_wp2_with fail
              go_roundw
              case rel => exact ⟨k + 1, _, by omega, by omega, by go_num, rfl, Lib.hid (by rw [HSV.out, Bool.and_false]), HB6⟩
              case measure => simp [intOf]; omega
            · clear hs
              go_wp2_with fail
              refine wp_region_laterN (by kernel_rfl) (by kernel_rfl) ?_
              intro W4 hW4
              have hbW4 : Below wr.heap.size wr W4 := by rw [← hW4]; exact (((hbw3.setCell (p := ⟨wr.heap.size, 3, none⟩) (Nat.le_refl _) _).setCell (p := ⟨wr.heap.size, 2, none⟩) (Nat.le_refl _) _).alloc ((hbw3.setCell (p := ⟨wr.heap.size, 3, none⟩) (Nat.le_refl _) _).setCell (p := ⟨wr.heap.size, 2, none⟩) (Nat.le_refl _) _).size _)
              clear hW4
              repeat (go_big_quiet_step (fail))
              refine wpQuiet_nil ?_
              rintro w5 ⟨⟨W5, hb5⟩, rfl⟩
              have HB6 := Lib.hid (HB3.out.trans ((hbW4.trans (hb5.mono hbW4.size)).mono HB3.out.size))
              clear hb5
              go_wp2_with fail
              go_roundw
              case rel => exact ⟨k + 1, _, by omega, by omega, by go_num, rfl, Lib.hid (by rw [HSV.out, Bool.and_false]), HB6⟩
              case measure => simp [intOf]; omega
          · rcases numSz_cases (show numSz z = true from hs) with rfl | rfl | rfl | rfl
            · clear hs
              go_wp2_with fail
              refine wp_region_laterN (by kernel_rfl) (by kernel_rfl) ?_
              intro W4 hW4
              have hbW4 : Below wr.heap.size wr W4 := by rw [← hW4]; exact (((hbw3.setCell (p := ⟨wr.heap.size, 3, none⟩) (Nat.le_refl _) _).setCell (p := ⟨wr.heap.size, 2, none⟩) (Nat.le_refl _) _).alloc ((hbw3.setCell (p := ⟨wr.heap.size, 3, none⟩) (Nat.le_refl _) _).setCell (p := ⟨wr.heap.size, 2, none⟩) (Nat.le_refl _) _).size _)
              clear hW4
              repeat (go_big_quiet_step (fail))
              refine wpQuiet_nil ?_
              rintro w5 ⟨⟨W5, hb5⟩, rfl⟩
              have HB6 := Lib.hid (HB3.out.trans ((hbW4.trans (hb5.mono hbW4.size)).mono HB3.out.size))
              clear hb5
              go_wp2_with fail
              go_roundw
              case rel => exact ⟨k + 1, _, by omega, by omega, by go_num, rfl, Lib.hid (by rw [HSV.out, Bool.and_false]), HB6⟩
              case measure => simp [intOf]; omega
            · clear hs
              go_wp2_with fail
              refine wp_region_laterN (by kernel_rfl) (by kernel_rfl) ?_
              intro W4 hW4
              have hbW4 : Below wr.heap.size wr W4 := by rw [← hW4]; exact (((hbw3.setCell (p := ⟨wr.heap.size, 3, none⟩) (Nat.le_refl _) _).setCell (p := ⟨wr.heap.size, 2, none⟩) (Nat.le_refl _) _).alloc ((hbw3.setCell (p := ⟨wr.heap.size, 3, none⟩) (Nat.le_refl _) _).setCell (p := ⟨wr.heap.size, 2, none⟩) (Nat.le_refl _) _).size _)
              clear hW4
              repeat (go_big_quiet_step (fail))
              refine wpQuiet_nil ?_
              rintro w5 ⟨⟨W5, hb5⟩, rfl⟩
              have HB6 := Lib.hid (HB3.out.trans ((hbW4.trans (hb5.mono hbW4.size)).mono HB3.out.size))
              clear hb5
              go_wp2_with fail
              go_roundw
              case rel => exact ⟨k + 1, _, by omega, by omega, by go_num, rfl, Lib.hid (by rw [HSV.out, Bool.and_false]), HB6⟩
              case measure => simp [intOf]; omega
            · clear hs
              go_wp2_with fail
              refine wp_region_laterN (by kernel_rfl) (by kernel_rfl) ?_
              intro W4 hW4
              have hbW4 : Below wr.heap.size wr W4 := by rw [← hW4]; exact (((hbw3.setCell (p := ⟨wr.heap.size, 3, none⟩) (Nat.le_refl _) _).setCell (p := ⟨wr.heap.size, 2, none⟩) (Nat.le_refl _) _).alloc ((hbw3.setCell (p := ⟨wr.heap.size, 3, none⟩) (Nat.le_refl _) _).setCell (p := ⟨wr.heap.size, 2, none⟩) (Nat.le_refl _) _).size _)
              clear hW4
              repeat (go_big_quiet_step (fail))
              refine wpQuiet_nil ?_
              rintro w5 ⟨⟨W5, hb5⟩, rfl⟩
              have HB6 := Lib.hid (HB3.out.trans ((hbW4.trans (hb5.mono hbW4.size)).mono HB3.out.size))
              clear hb5
              go_wp2_with fail
              go_roundw
              case rel => exact ⟨k + 1, _, by omega, by omega, by go_num, rfl, Lib.hid (by rw [HSV.out, Bool.and_false]), HB6⟩
              case measure => simp [intOf]; omega
            · clear hs
              go_wp2_with fail
              refine wp_region_laterN (by kernel_rfl) (by kernel_rfl) ?_
              intro W4 hW4
              have hbW4 : Below wr.heap.size wr W4 := by rw [← hW4]; exact (((hbw3.setCell (p := ⟨wr.heap.size, 3, none⟩) (Nat.le_refl _) _).setCell (p := ⟨wr.heap.size, 2, none⟩) (Nat.le_refl _) _).alloc ((hbw3.setCell (p := ⟨wr.heap.size, 3, none⟩) (Nat.le_refl _) _).setCell (p := ⟨wr.heap.size, 2, none⟩) (Nat.le_refl _) _).size _)
              clear hW4
              repeat (go_big_quiet_step (fail))
              refine wpQuiet_nil ?_
              rintro w5 ⟨⟨W5, hb5⟩, rfl⟩
              have HB6 := Lib.hid (HB3.out.trans ((hbW4.trans (hb5.mono hbW4.size)).mono HB3.out.size))
              clear hb5
              go_wp2_with fail
              go_roundw
              case rel => exact ⟨k + 1, _, by omega, by omega, by go_num, rfl, Lib.hid (by rw [HSV.out, Bool.and_false]), HB6⟩
              case measure => simp [intOf]; omega
          · clear hs
            go_wp2_with fail
            refine wp_region_laterN (by kernel_rfl) (by kernel_rfl) ?_
            intro W4 hW4
            have hbW4 : Below wr.heap.size wr W4 := by rw [← hW4]; exact (hbw3.setCell (p := ⟨wr.heap.size, 3, none⟩) (Nat.le_refl _) _)
            clear hW4
            repeat (go_big_quiet_step (fail))
            refine wpQuiet_nil ?_
            rintro w5 ⟨⟨W5, hb5⟩, rfl⟩
            have HB6 := Lib.hid (HB3.out.trans ((hbW4.trans (hb5.mono hbW4.size)).mono HB3.out.size))
            clear hb5
            go_wp2_with fail
            go_roundw
            case rel => exact ⟨k + 1, _, by omega, by omega, by go_num, rfl, Lib.hid (by rw [HSV.out, Bool.and_false]), HB6⟩
            case measure => simp [intOf]; omega
          · have hz : byteSz z = true := hs
            unfold byteSz at hz
            rw [Bool.and_eq_true, decide_eq_true_eq, decide_eq_true_eq] at hz
            obtain ⟨z1, z2⟩ := hz
            clear hs
            by_cases z8 : z < 8
            · obtain ⟨m, rfl⟩ := Int.eq_ofNat_of_zero_le (show 0 ≤ z by omega)
              rcases (show m = 1 ∨ m = 2 ∨ m = 3 ∨ m = 4 ∨ m = 5 ∨ m = 6 ∨ m = 7 by omega) with rfl | rfl | rfl | rfl | rfl | rfl | rfl
              · go_wp2_with fail
                refine wp_region_laterN (by kernel_rfl) (by kernel_rfl) ?_
                intro W4 hW4
                have hbW4 : Below wr.heap.size wr W4 := by rw [← hW4]; exact ((((hbw3.setCell (p := ⟨wr.heap.size, 3, none⟩) (Nat.le_refl _) _).setCell (p := ⟨wr.heap.size, 2, none⟩) (Nat.le_refl _) _).setCell (p := ⟨wr.heap.size, 2, none⟩) (Nat.le_refl _) _).alloc (((hbw3.setCell (p := ⟨wr.heap.size, 3, none⟩) (Nat.le_refl _) _).setCell (p := ⟨wr.heap.size, 2, none⟩) (Nat.le_refl _) _).setCell (p := ⟨wr.heap.size, 2, none⟩) (Nat.le_refl _) _).size _)
                clear hW4
                repeat (go_big_quiet_step (fail))
                refine wpQuiet_nil ?_
                rintro w5 ⟨⟨W5, hb5⟩, rfl⟩
                have HB6 := Lib.hid (HB3.out.trans ((hbW4.trans (hb5.mono hbW4.size)).mono HB3.out.size))
                clear hb5
                go_wp2_with fail
                go_roundw
                case rel => exact ⟨k + 1, _, by omega, by omega, by go_num, rfl, Lib.hid (by rw [HSV.out, Bool.and_false]), HB6⟩
                case measure => simp [intOf]; omega
              · go_wp2_with fail
                refine wp_region_laterN (by kernel_rfl) (by kernel_rfl) ?_
                intro W4 hW4
                have hbW4 : Below wr.heap.size wr W4 := by rw [← hW4]; exact ((((hbw3.setCell (p := ⟨wr.heap.size, 3, none⟩) (Nat.le_refl _) _).setCell (p := ⟨wr.heap.size, 2, none⟩) (Nat.le_refl _) _).setCell (p := ⟨wr.heap.size, 2, none⟩) (Nat.le_refl _) _).alloc (((hbw3.setCell (p := ⟨wr.heap.size, 3, none⟩) (Nat.le_refl _) _).setCell (p := ⟨wr.heap.size, 2, none⟩) (Nat.le_refl _) _).setCell (p := ⟨wr.heap.size, 2, none⟩) (Nat.le_refl _) _).size _)
                clear hW4
                repeat (go_big_quiet_step (fail))
                refine wpQuiet_nil ?_
                rintro w5 ⟨⟨W5, hb5⟩, rfl⟩
                have HB6 := Lib.hid (HB3.out.trans ((hbW4.trans (hb5.mono hbW4.size)).mono HB3.out.size))
                clear hb5
                go_wp2_with fail
                go_roundw
                case rel => exact ⟨k + 1, _, by omega, by omega, by go_num, rfl, Lib.hid (by rw [HSV.out, Bool.and_false]), HB6⟩
                case measure => simp [intOf]; omega
              · go_wp2_with fail
                refine wp_region_laterN (by kernel_rfl) (by kernel_rfl) ?_
                intro W4 hW4
                have hbW4 : Below wr.heap.size wr W4 := by rw [← hW4]; exact ((((hbw3.setCell (p := ⟨wr.heap.size, 3, none⟩) (Nat.le_refl _) _).setCell (p := ⟨wr.heap.size, 2, none⟩) (Nat.le_refl _) _).setCell (p := ⟨wr.heap.size, 2, none⟩) (Nat.le_refl _) _).alloc (((hbw3.setCell (p := ⟨wr.heap.size, 3, none⟩) (Nat.le_refl _) _).setCell (p := ⟨wr.heap.size, 2, none⟩) (Nat.le_refl _) _).setCell (p := ⟨wr.heap.size, 2, none⟩) (Nat.le_refl _) _).size _)
                clear hW4
                repeat (go_big_quiet_step (fail))
                refine wpQuiet_nil ?_
                rintro w5 ⟨⟨W5, hb5⟩, rfl⟩
                have HB6 := Lib.hid (HB3.out.trans ((hbW4.trans (hb5.mono hbW4.size)).mono HB3.out.size))
                clear hb5
                go_wp2_with fail
                go_roundw
                case rel => exact ⟨k + 1, _, by omega, by omega, by go_num, rfl, Lib.hid (by rw [HSV.out, Bool.and_false]), HB6⟩
                case measure => simp [intOf]; omega
              · go_wp2_with fail
                refine wp_region_laterN (by kernel_rfl) (by kernel_rfl) ?_
                intro W4 hW4
                have hbW4 : Below wr.heap.size wr W4 := by rw [← hW4]; exact ((((hbw3.setCell (p := ⟨wr.heap.size, 3, none⟩) (Nat.le_refl _) _).setCell (p := ⟨wr.heap.size, 2, none⟩) (Nat.le_refl _) _).setCell (p := ⟨wr.heap.size, 2, none⟩) (Nat.le_refl _) _).alloc (((hbw3.setCell (p := ⟨wr.heap.size, 3, none⟩) (Nat.le_refl _) _).setCell (p := ⟨wr.heap.size, 2, none⟩) (Nat.le_refl _) _).setCell (p := ⟨wr.heap.size, 2, none⟩) (Nat.le_refl _) _).size _)
                clear hW4
                repeat (go_big_quiet_step (fail))
                refine wpQuiet_nil ?_
                rintro w5 ⟨⟨W5, hb5⟩, rfl⟩
                have HB6 := Lib.hid (HB3.out.trans ((hbW4.trans (hb5.mono hbW4.size)).mono HB3.out.size))
                clear hb5
                go_wp2_with fail
                go_roundw
                case rel => exact ⟨k + 1, _, by omega, by omega, by go_num, rfl, Lib.hid (by rw [HSV.out, Bool.and_false]), HB6⟩
                case measure => simp [intOf]; omega
              · go_wp2_with fail
                refine wp_region_laterN (by kernel_rfl) (by kernel_rfl) ?_
                intro W4 hW4
                have hbW4 : Below wr.heap.size wr W4 := by rw [← hW4]; exact ((((hbw3.setCell (p := ⟨wr.heap.size, 3, none⟩) (Nat.le_refl _) _).setCell (p := ⟨wr.heap.size, 2, none⟩) (Nat.le_refl _) _).setCell (p := ⟨wr.heap.size, 2, none⟩) (Nat.le_refl _) _).alloc (((hbw3.setCell (p := ⟨wr.heap.size, 3, none⟩) (Nat.le_refl _) _).setCell (p := ⟨wr.heap.size, 2, none⟩) (Nat.le_refl _) _).setCell (p := ⟨wr.heap.size, 2, none⟩) (Nat.le_refl _) _).size _)
                clear hW4
                repeat (go_big_quiet_step (fail))
                refine wpQuiet_nil ?_
                rintro w5 ⟨⟨W5, hb5⟩, rfl⟩
                have HB6 := Lib.hid (HB3.out.trans ((hbW4.trans (hb5.mono hbW4.size)).mono HB3.out.size))
                clear hb5
                go_wp2_with fail
                go_roundw
                case rel => exact ⟨k + 1, _, by omega, by omega, by go_num, rfl, Lib.hid (by rw [HSV.out, Bool.and_false]), HB6⟩
                case measure => simp [intOf]; omega
              · go_wp2_with fail
                refine wp_region_laterN (by kernel_rfl) (by kernel_rfl) ?_
                intro W4 hW4
                have hbW4 : Below wr.heap.size wr W4 := by rw [← hW4]; exact ((((hbw3.setCell (p := ⟨wr.heap.size, 3, none⟩) (Nat.le_refl _) _).setCell (p := ⟨wr.heap.size, 2, none⟩) (Nat.le_refl _) _).setCell (p := ⟨wr.heap.size, 2, none⟩) (Nat.le_refl _) _).alloc (((hbw3.setCell (p := ⟨wr.heap.size, 3, none⟩) (Nat.le_refl _) _).setCell (p := ⟨wr.heap.size, 2, none⟩) (Nat.le_refl _) _).setCell (p := ⟨wr.heap.size, 2, none⟩) (Nat.le_refl _) _).size _)
                clear hW4
                repeat (go_big_quiet_step (fail))
                refine wpQuiet_nil ?_
                rintro w5 ⟨⟨W5, hb5⟩, rfl⟩
                have HB6 := Lib.hid (HB3.out.trans ((hbW4.trans (hb5.mono hbW4.size)).mono HB3.out.size))
                clear hb5
                go_wp2_with fail
                go_roundw
                case rel => exact ⟨k + 1, _, by omega, by omega, by go_num, rfl, Lib.hid (by rw [HSV.out, Bool.and_false]), HB6⟩
                case measure => simp [intOf]; omega
              · go_wp2_with fail
                refine wp_region_laterN (by kernel_rfl) (by kernel_rfl) ?_
                intro W4 hW4
                have hbW4 : Below wr.heap.size wr W4 := by rw [← hW4]; exact ((((hbw3.setCell (p := ⟨wr.heap.size, 3, none⟩) (Nat.le_refl _) _).setCell (p := ⟨wr.heap.size, 2, none⟩) (Nat.le_refl _) _).setCell (p := ⟨wr.heap.size, 2, none⟩) (Nat.le_refl _) _).alloc (((hbw3.setCell (p := ⟨wr.heap.size, 3, none⟩) (Nat.le_refl _) _).setCell (p := ⟨wr.heap.size, 2, none⟩) (Nat.le_refl _) _).setCell (p := ⟨wr.heap.size, 2, none⟩) (Nat.le_refl _) _).size _)
                clear hW4
                repeat (go_big_quiet_step (fail))
                refine wpQuiet_nil ?_
                rintro w5 ⟨⟨W5, hb5⟩, rfl⟩
                have HB6 := Lib.hid (HB3.out.trans ((hbW4.trans (hb5.mono hbW4.size)).mono HB3.out.size))
                clear hb5
                go_wp2_with fail
                go_roundw
                case rel => exact ⟨k + 1, _, by omega, by omega, by go_num, rfl, Lib.hid (by rw [HSV.out, Bool.and_false]), HB6⟩
                case measure => simp [intOf]; omega
            · have x1 : max 0 z = z := by omega
              have x2 : min 8 z = 8 := by omega
              go_wp2_with fail
              refine wp_region_laterN (by kernel_rfl) (by kernel_rfl) ?_
              intro W4 hW4
              have hbW4 : Below wr.heap.size wr W4 := by rw [← hW4]; exact ((((hbw3.setCell (p := ⟨wr.heap.size, 3, none⟩) (Nat.le_refl _) _).setCell (p := ⟨wr.heap.size, 2, none⟩) (Nat.le_refl _) _).setCell (p := ⟨wr.heap.size, 2, none⟩) (Nat.le_refl _) _).alloc (((hbw3.setCell (p := ⟨wr.heap.size, 3, none⟩) (Nat.le_refl _) _).setCell (p := ⟨wr.heap.size, 2, none⟩) (Nat.le_refl _) _).setCell (p := ⟨wr.heap.size, 2, none⟩) (Nat.le_refl _) _).size _)
              clear hW4
              repeat (go_big_quiet_step (fail))
              refine wpQuiet_nil ?_
              rintro w5 ⟨⟨W5, hb5⟩, rfl⟩
              have HB6 := Lib.hid (HB3.out.trans ((hbW4.trans (hb5.mono hbW4.size)).mono HB3.out.size))
              clear hb5
              go_wp2_with fail
              go_roundw
              case rel => exact ⟨k + 1, _, by omega, by omega, by go_num, rfl, Lib.hid (by rw [HSV.out, Bool.and_false]), HB6⟩
              case measure => simp [intOf]; omega
        · rcases type_cases t with ht | rfl | rfl | rfl | rfl
          · rw [szOk_none ht] at hs; cases hs
          · rcases numSz_cases (show numSz z = true from hs) with rfl | rfl | rfl | rfl
            · clear hs
              go_wp2_with fail
              refine wp_region_laterN (by kernel_rfl) (by kernel_rfl) ?_
              intro W4 hW4
              have hbW4 : Below wr.heap.size wr W4 := by rw [← hW4]; exact (((hbw3.setCell (p := ⟨wr.heap.size, 3, none⟩) (Nat.le_refl _) _).setCell (p := ⟨wr.heap.size, 2, none⟩) (Nat.le_refl _) _).alloc ((hbw3.setCell (p := ⟨wr.heap.size, 3, none⟩) (Nat.le_refl _) _).setCell (p := ⟨wr.heap.size, 2, none⟩) (Nat.le_refl _) _).size _)
              clear hW4
              repeat (go_big_quiet_step (fail))
              refine wpQuiet_nil ?_
              rintro w5 ⟨⟨W5, hb5⟩, rfl⟩
              have HB6 := Lib.hid (HB3.out.trans ((hbW4.trans (hb5.mono hbW4.size)).mono HB3.out.size))
              clear hb5
              go_wp2_with fail
              go_roundw
              case rel => exact ⟨k + 1, _, by omega, by omega, by go_num, rfl, Lib.hid (by rw [HSV.out, Bool.and_false]), HB6⟩
              case measure => simp [intOf]; omega
            · clear hs
              go_wp2_with fail
              refine wp_region_laterN (by kernel_rfl) (by kernel_rfl) ?_
              intro W4 hW4
              have hbW4 : Below wr.heap.size wr W4 := by rw [← hW4]; exact (((hbw3.setCell (p := ⟨wr.heap.size, 3, none⟩) (Nat.le_refl _) _).setCell (p := ⟨wr.heap.size, 2, none⟩) (Nat.le_refl _) _).alloc ((hbw3.setCell (p := ⟨wr.heap.size, 3, none⟩) (Nat.le_refl _) _).setCell (p := ⟨wr.heap.size, 2, none⟩) (Nat.le_refl _) _).size _)
              clear hW4
              repeat (go_big_quiet_step (fail))
              refine wpQuiet_nil ?_
              rintro w5 ⟨⟨W5, hb5⟩, rfl⟩
              have HB6 := Lib.hid (HB3.out.trans ((hbW4.trans (hb5.mono hbW4.size)).mono HB3.out.size))
              clear hb5
              go_wp2_with fail
              go_roundw
              case rel => exact ⟨k + 1, _, by omega, by omega, by go_num, rfl, Lib.hid (by rw [HSV.out, Bool.and_false]), HB6⟩
              case measure => simp [intOf]; omega
            · clear hs
              go_wp2_with fail
              refine wp_region_laterN (by kernel_rfl) (by kernel_rfl) ?_
              intro W4 hW4
              have hbW4 : Below wr.heap.size wr W4 := by rw [← hW4]; exact (((hbw3.setCell (p := ⟨wr.heap.size, 3, none⟩) (Nat.le_refl _) _).setCell (p := ⟨wr.heap.size, 2, none⟩) (Nat.le_refl _) _).alloc ((hbw3.setCell (p := ⟨wr.heap.size, 3, none⟩) (Nat.le_refl _) _).setCell (p := ⟨wr.heap.size, 2, none⟩) (Nat.le_refl _) _).size _)
              clear hW4
              repeat (go_big_quiet_step (fail))
              refine wpQuiet_nil ?_
              rintro w5 ⟨⟨W5, hb5⟩, rfl⟩
              have HB6 := Lib.hid (HB3.out.trans ((hbW4.trans (hb5.mono hbW4.size)).mono HB3.out.size))
              clear hb5
              go_wp2_with fail
              go_roundw
              case rel => exact ⟨k + 1, _, by omega, by omega, by go_num, rfl, Lib.hid (by rw [HSV.out, Bool.and_false]), HB6⟩
              case measure => simp [intOf]; omega
            · clear hs
              go_wp2_with fail
              refine wp_region_laterN (by kernel_rfl) (by kernel_rfl) ?_
              intro W4 hW4
              have hbW4 : Below wr.heap.size wr W4 := by rw [← hW4]; exact (((hbw3.setCell (p := ⟨wr.heap.size, 3, none⟩) (Nat.le_refl _) _).setCell (p := ⟨wr.heap.size, 2, none⟩) (Nat.le_refl _) _).alloc ((hbw3.setCell (p := ⟨wr.heap.size, 3, none⟩) (Nat.le_refl _) _).setCell (p := ⟨wr.heap.size, 2, none⟩) (Nat.le_refl _) _).size _)
              clear hW4
              repeat (go_big_quiet_step (fail))
              refine wpQuiet_nil ?_
              rintro w5 ⟨⟨W5, hb5⟩, rfl⟩
              have HB6 := Lib.hid (HB3.out.trans ((hbW4.trans (hb5.mono hbW4.size)).mono HB3.out.size))
              clear hb5
              go_wp2_with fail
              go_roundw
              case rel => exact ⟨k + 1, _, by omega, by omega, by go_num, rfl, Lib.hid (by rw [HSV.out, Bool.and_false]), HB6⟩
              case measure => simp [intOf]; omega
          · rcases numSz_cases (show numSz z = true from hs) with rfl | rfl | rfl | rfl
            · clear hs
              go_wp2_with fail
              refine wp_region_laterN (by kernel_rfl) (by kernel_rfl) ?_
              intro W4 hW4
              have hbW4 : Below wr.heap.size wr W4 := by rw [← hW4]; exact (((hbw3.setCell (p := ⟨wr.heap.size, 3, none⟩) (Nat.le_refl _) _).setCell (p := ⟨wr.heap.size, 2, none⟩) (Nat.le_refl _) _).alloc ((hbw3.setCell (p := ⟨wr.heap.size, 3, none⟩) (Nat.le_refl _) _).setCell (p := ⟨wr.heap.size, 2, none⟩) (Nat.le_refl _) _).size _)
              clear hW4
              repeat (go_big_quiet_step (fail))
              refine wpQuiet_nil ?_
              rintro w5 ⟨⟨W5, hb5⟩, rfl⟩
              have HB6 := Lib.hid (HB3.out.trans ((hbW4.trans (hb5.mono hbW4.size)).mono HB3.out.size))
              clear hb5
              go_wp2_with fail
              go_roundw
              case rel => exact ⟨k + 1, _, by omega, by omega, by go_num, rfl, Lib.hid (by rw [HSV.out, Bool.and_false]), HB6⟩
              case measure => simp [intOf]; omega
            · clear hs
              go_wp2_with fail
              refine wp_region_laterN (by kernel_rfl) (by kernel_rfl) ?_
              intro W4 hW4
              have hbW4 : Below wr.heap.size wr W4 := by rw [← hW4]; exact (((hbw3.setCell (p := ⟨wr.heap.size, 3, none⟩) (Nat.le_refl _) _).setCell (p := ⟨wr.heap.size, 2, none⟩) (Nat.le_refl _) _).alloc ((hbw3.setCell (p := ⟨wr.heap.size, 3, none⟩) (Nat.le_refl _) _).setCell (p := ⟨wr.heap.size, 2, none⟩) (Nat.le_refl _) _).size _)
              clear hW4
              repeat (go_big_quiet_step (fail))
              refine wpQuiet_nil ?_
              rintro w5 ⟨⟨W5, hb5⟩, rfl⟩
              have HB6 := Lib.hid (HB3.out.trans ((hbW4.trans (hb5.mono hbW4.size)).mono HB3.out.size))
              clear hb5
              go_wp2_with fail
              go_roundw
              case rel => exact ⟨k + 1, _, by omega, by omega, by go_num, rfl, Lib.hid (by rw [HSV.out, Bool.and_false]), HB6⟩
              case measure => simp [intOf]; omega
            · clear hs
              go_wp2_with fail
              refine wp_region_laterN (by kernel_rfl) (by kernel_rfl) ?_
              intro W4 hW4
              have hbW4 : Below wr.heap.size wr W4 := by rw [← hW4]; exact (((hbw3.setCell (p := ⟨wr.heap.size, 3, none⟩) (Nat.le_refl _) _).setCell (p := ⟨wr.heap.size, 2, none⟩) (Nat.le_refl _) _).alloc ((hbw3.setCell (p := ⟨wr.heap.size, 3, none⟩) (Nat.le_refl _) _).setCell (p := ⟨wr.heap.size, 2, none⟩) (Nat.le_refl _) _).size _)
              clear hW4
              repeat (go_big_quiet_step (fail))
              refine wpQuiet_nil ?_
              rintro w5 ⟨⟨W5, hb5⟩, rfl⟩
              have HB6 := Lib.hid (HB3.out.trans ((hbW4.trans (hb5.mono hbW4.size)).mono HB3.out.size))
              clear hb5
              go_wp2_with fail
              go_roundw
              case rel => exact ⟨k + 1, _, by omega, by omega, by go_num, rfl, Lib.hid (by rw [HSV.out, Bool.and_false]), HB6⟩
              case measure => simp [intOf]; omega
            · clear hs
              go_wp2_with fail
              refine wp_region_laterN (by kernel_rfl) (by kernel_rfl) ?_
              intro W4 hW4
              have hbW4 : Below wr.heap.size wr W4 := by rw [← hW4]; exact (((hbw3.setCell (p := ⟨wr.heap.size, 3, none⟩) (Nat.le_refl _) _).setCell (p := ⟨wr.heap.size, 2, none⟩) (Nat.le_refl _) _).alloc ((hbw3.setCell (p := ⟨wr.heap.size, 3, none⟩) (Nat.le_refl _) _).setCell (p := ⟨wr.heap.size, 2, none⟩) (Nat.le_refl _) _).size _)
              clear hW4
              repeat (go_big_quiet_step (fail))
              refine wpQuiet_nil ?_
              rintro w5 ⟨⟨W5, hb5⟩, rfl⟩
              have HB6 := Lib.hid (HB3.out.trans ((hbW4.trans (hb5.mono hbW4.size)).mono HB3.out.size))
              clear hb5
              go_wp2_with fail
              go_roundw
              case rel => exact ⟨k + 1, _, by omega, by omega, by go_num, rfl, Lib.hid (by rw [HSV.out, Bool.and_false]), HB6⟩
              case measure => simp [intOf]; omega
          · clear hs
            go_wp2_with fail
            refine wp_region_laterN (by kernel_rfl) (by kernel_rfl) ?_
            intro W4 hW4
            have hbW4 : Below wr.heap.size wr W4 := by rw [← hW4]; exact (hbw3.setCell (p := ⟨wr.heap.size, 3, none⟩) (Nat.le_refl _) _)
            clear hW4
            repeat (go_big_quiet_step (fail))
            refine wpQuiet_nil ?_
            rintro w5 ⟨⟨W5, hb5⟩, rfl⟩
            have HB6 := Lib.hid (HB3.out.trans ((hbW4.trans (hb5.mono hbW4.size)).mono HB3.out.size))
            clear hb5
            go_wp2_with fail
            go_roundw
            case rel => exact ⟨k + 1, _, by omega, by omega, by go_num, rfl, Lib.hid (by rw [HSV.out, Bool.and_false]), HB6⟩
            case measure => simp [intOf]; omega
          · have hz : byteSz z = true := hs
            unfold byteSz at hz
            rw [Bool.and_eq_true, decide_eq_true_eq, decide_eq_true_eq] at hz
            obtain ⟨z1, z2⟩ := hz
            clear hs
            by_cases z8 : z < 8
            · obtain ⟨m, rfl⟩ := Int.eq_ofNat_of_zero_le (show 0 ≤ z by omega)
              rcases (show m = 1 ∨ m = 2 ∨ m = 3 ∨ m = 4 ∨ m = 5 ∨ m = 6 ∨ m = 7 by omega) with rfl | rfl | rfl | rfl | rfl | rfl | rfl
              · go_wp2_with fail
                refine wp_region_laterN (by kernel_rfl) (by kernel_rfl) ?_
                intro W4 hW4
                have hbW4 : Below wr.heap.size wr W4 := by rw [← hW4]; exact ((((hbw3.setCell (p := ⟨wr.heap.size, 3, none⟩) (Nat.le_refl _) _).setCell (p := ⟨wr.heap.size, 2, none⟩) (Nat.le_refl _) _).setCell (p := ⟨wr.heap.size, 2, none⟩) (Nat.le_refl _) _).alloc (((hbw3.setCell (p := ⟨wr.heap.size, 3, none⟩) (Nat.le_refl _) _).setCell (p := ⟨wr.heap.size, 2, none⟩) (Nat.le_refl _) _).setCell (p := ⟨wr.heap.size, 2, none⟩) (Nat.le_refl _) _).size _)
                clear hW4
                repeat (go_big_quiet_step (fail))
                refine wpQuiet_nil ?_
                rintro w5 ⟨⟨W5, hb5⟩, rfl⟩
                have HB6 := Lib.hid (HB3.out.trans ((hbW4.trans (hb5.mono hbW4.size)).mono HB3.out.size))
                clear hb5
                go_wp2_with fail
                go_roundw
                case rel => exact ⟨k + 1, _, by omega, by omega, by go_num, rfl, Lib.hid (by rw [HSV.out, Bool.and_false]), HB6⟩
                case measure => simp [intOf]; omega
              · go_wp2_with fail
                refine wp_region_laterN (by kernel_rfl) (by kernel_rfl) ?_
                intro W4 hW4
                have hbW4 : Below wr.heap.size wr W4 := by rw [← hW4]; exact ((((hbw3.setCell (p := ⟨wr.heap.size, 3, none⟩) (Nat.le_refl _) _).setCell (p := ⟨wr.heap.size, 2, none⟩) (Nat.le_refl _) _).setCell (p := ⟨wr.heap.size, 2, none⟩) (Nat.le_refl _) _).alloc (((hbw3.setCell (p := ⟨wr.heap.size, 3, none⟩) (Nat.le_refl _) _).setCell (p := ⟨wr.heap.size, 2, none⟩) (Nat.le_refl _) _).setCell (p := ⟨wr.heap.size, 2, none⟩) (Nat.le_refl _) _).size _)
                clear hW4
                repeat (go_big_quiet_step (fail))
                refine wpQuiet_nil ?_
                rintro w5 ⟨⟨W5, hb5⟩, rfl⟩
                have HB6 := Lib.hid (HB3.out.trans ((hbW4.trans (hb5.mono hbW4.size)).mono HB3.out.size))
                clear hb5
                go_wp2_with fail
                go_roundw
                case rel => exact ⟨k + 1, _, by omega, by omega, by go_num, rfl, Lib.hid (by rw [HSV.out, Bool.and_false]), HB6⟩
                case measure => simp [intOf]; omega
              · go_wp2_with fail
                refine wp_region_laterN (by kernel_rfl) (by kernel_rfl) ?_
                intro W4 hW4
                have hbW4 : Below wr.heap.size wr W4 := by rw [← hW4]; exact ((((hbw3.setCell (p := ⟨wr.heap.size, 3, none⟩) (Nat.le_refl _) _).setCell (p := ⟨wr.heap.size, 2, none⟩) (Nat.le_refl _) _).setCell (p := ⟨wr.heap.size, 2, none⟩) (Nat.le_refl _) _).alloc (((hbw3.setCell (p := ⟨wr.heap.size, 3, none⟩) (Nat.le_refl _) _).setCell (p := ⟨wr.heap.size, 2, none⟩) (Nat.le_refl _) _).setCell (p := ⟨wr.heap.size, 2, none⟩) (Nat.le_refl _) _).size _)
                clear hW4
                repeat (go_big_quiet_step (fail))
                refine wpQuiet_nil ?_
                rintro w5 ⟨⟨W5, hb5⟩, rfl⟩
                have HB6 := Lib.hid (HB3.out.trans ((hbW4.trans (hb5.mono hbW4.size)).mono HB3.out.size))
                clear hb5
                go_wp2_with fail
                go_roundw
                case rel => exact ⟨k + 1, _, by omega, by omega, by go_num, rfl, Lib.hid (by rw [HSV.out, Bool.and_false]), HB6⟩
                case measure => simp [intOf]; omega
              · go_wp2_with fail
                refine wp_region_laterN (by kernel_rfl) (by kernel_rfl) ?_
                intro W4 hW4
                have hbW4 : Below wr.heap.size wr W4 := by rw [← hW4]; exact ((((hbw3.setCell (p := ⟨wr.heap.size, 3, none⟩) (Nat.le_refl _) _).setCell (p := ⟨wr.heap.size, 2, none⟩) (Nat.le_refl _) _).setCell (p := ⟨wr.heap.size, 2, none⟩) (Nat.le_refl _) _).alloc (((hbw3.setCell (p := ⟨wr.heap.size, 3, none⟩) (Nat.le_refl _) _).setCell (p := ⟨wr.heap.size, 2, none⟩) (Nat.le_refl _) _).setCell (p := ⟨wr.heap.size, 2, none⟩) (Nat.le_refl _) _).size _)
                clear hW4
                repeat (go_big_quiet_step (fail))
                refine wpQuiet_nil ?_
                rintro w5 ⟨⟨W5, hb5⟩, rfl⟩
                have HB6 := Lib.hid (HB3.out.trans ((hbW4.trans (hb5.mono hbW4.size)).mono HB3.out.size))
                clear hb5
                go_wp2_with fail
                go_roundw
                case rel => exact ⟨k + 1, _, by omega, by omega, by go_num, rfl, Lib.hid (by rw [HSV.out, Bool.and_false]), HB6⟩
                case measure => simp [intOf]; omega
              · go_wp2_with fail
                refine wp_region_laterN (by kernel_rfl) (by kernel_rfl) ?_
                intro W4 hW4
                have hbW4 : Below wr.heap.size wr W4 := by rw [← hW4]; exact ((((hbw3.setCell (p := ⟨wr.heap.size, 3, none⟩) (Nat.le_refl _) _).setCell (p := ⟨wr.heap.size, 2, none⟩) (Nat.le_refl _) _).setCell (p := ⟨wr.heap.size, 2, none⟩) (Nat.le_refl _) _).alloc (((hbw3.setCell (p := ⟨wr.heap.size, 3, none⟩) (Nat.le_refl _) _).setCell (p := ⟨wr.heap.size, 2, none⟩) (Nat.le_refl _) _).setCell (p := ⟨wr.heap.size, 2, none⟩) (Nat.le_refl _) _).size _)
                clear hW4
                repeat (go_big_quiet_step (fail))
                refine wpQuiet_nil ?_
                rintro w5 ⟨⟨W5, hb5⟩, rfl⟩
                have HB6 := Lib.hid (HB3.out.trans ((hbW4.trans (hb5.mono hbW4.size)).mono HB3.out.size))
                clear hb5
                go_wp2_with fail
                go_roundw
                case rel => exact ⟨k + 1, _, by omega, by omega, by go_num, rfl, Lib.hid (by rw [HSV.out, Bool.and_false]), HB6⟩
                case measure => simp [intOf]; omega
              · go_wp2_with fail
                refine wp_region_laterN (by kernel_rfl) (by kernel_rfl) ?_
                intro W4 hW4
                have hbW4 : Below wr.heap.size wr W4 := by rw [← hW4]; exact ((((hbw3.setCell (p := ⟨wr.heap.size, 3, none⟩) (Nat.le_refl _) _).setCell (p := ⟨wr.heap.size, 2, none⟩) (Nat.le_refl _) _).setCell (p := ⟨wr.heap.size, 2, none⟩) (Nat.le_refl _) _).alloc (((hbw3.setCell (p := ⟨wr.heap.size, 3, none⟩) (Nat.le_refl _) _).setCell (p := ⟨wr.heap.size, 2, none⟩) (Nat.le_refl _) _).setCell (p := ⟨wr.heap.size, 2, none⟩) (Nat.le_refl _) _).size _)
                clear hW4
                repeat (go_big_quiet_step (fail))
                refine wpQuiet_nil ?_
                rintro w5 ⟨⟨W5, hb5⟩, rfl⟩
                have HB6 := Lib.hid (HB3.out.trans ((hbW4.trans (hb5.mono hbW4.size)).mono HB3.out.size))
                clear hb5
                go_wp2_with fail
                go_roundw
                case rel => exact ⟨k + 1, _, by omega, by omega, by go_num, rfl, Lib.hid (by rw [HSV.out, Bool.and_false]), HB6⟩
                case measure => simp [intOf]; omega
              · go_wp2_with fail
                refine wp_region_laterN (by kernel_rfl) (by kernel_rfl) ?_
                intro W4 hW4
                have hbW4 : Below wr.heap.size wr W4 := by rw [← hW4]; exact ((((hbw3.setCell (p := ⟨wr.heap.size, 3, none⟩) (Nat.le_refl _) _).setCell (p := ⟨wr.heap.size, 2, none⟩) (Nat.le_refl _) _).setCell (p := ⟨wr.heap.size, 2, none⟩) (Nat.le_refl _) _).alloc (((hbw3.setCell (p := ⟨wr.heap.size, 3, none⟩) (Nat.le_refl _) _).setCell (p := ⟨wr.heap.size, 2, none⟩) (Nat.le_refl _) _).setCell (p := ⟨wr.heap.size, 2, none⟩) (Nat.le_refl _) _).size _)
                clear hW4
                repeat (go_big_quiet_step (fail))
                refine wpQuiet_nil ?_
                rintro w5 ⟨⟨W5, hb5⟩, rfl⟩
                have HB6 := Lib.hid (HB3.out.trans ((hbW4.trans (hb5.mono hbW4.size)).mono HB3.out.size))
                clear hb5
                go_wp2_with fail
                go_roundw
                case rel => exact ⟨k + 1, _, by omega, by omega, by go_num, rfl, Lib.hid (by rw [HSV.out, Bool.and_false]), HB6⟩
                case measure => simp [intOf]; omega
            · have x1 : max 0 z = z := by omega
              have x2 : min 8 z = 8 := by omega
              go_wp2_with fail
              refine wp_region_laterN (by kernel_rfl) (by kernel_rfl) ?_
              intro W4 hW4
              have hbW4 : Below wr.heap.size wr W4 := by rw [← hW4]; exact ((((hbw3.setCell (p := ⟨wr.heap.size, 3, none⟩) (Nat.le_refl _) _).setCell (p := ⟨wr.heap.size, 2, none⟩) (Nat.le_refl _) _).setCell (p := ⟨wr.heap.size, 2, none⟩) (Nat.le_refl _) _).alloc (((hbw3.setCell (p := ⟨wr.heap.size, 3, none⟩) (Nat.le_refl _) _).setCell (p := ⟨wr.heap.size, 2, none⟩) (Nat.le_refl _) _).setCell (p := ⟨wr.heap.size, 2, none⟩) (Nat.le_refl _) _).size _)
              clear hW4
              repeat (go_big_quiet_step (fail))
              refine wpQuiet_nil ?_
              rintro w5 ⟨⟨W5, hb5⟩, rfl⟩
              have HB6 := Lib.hid (HB3.out.trans ((hbW4.trans (hb5.mono hbW4.size)).mono HB3.out.size))
              clear hb5
              go_wp2_with fail
              go_roundw
              case rel => exact ⟨k + 1, _, by omega, by omega, by go_num, rfl, Lib.hid (by rw [HSV.out, Bool.and_false]), HB6⟩
              case measure => simp [intOf]; omega
    · by_cases hlr : k < row.length
      · have hnc : ¬ k < S.cols.length := fun h => hlt ⟨hlr, h⟩
        clear hlt
        have HEX : (rowN S row == 0) = a := by
          rw [HA.out, ← HHD.out]
          refine rowN_all HOK.out ?_
          omega
        have HKY := fun h0 => fit_key (S := S) (row := row) HOK.out h0 (by omega)
        clear HFT HCO HR HNM HHD HA HSK
        go_wp2_with fail
        refine (HRO.out _ HBW.out).mono ?_
        rintro e w3 ⟨rfl, hb3⟩
        have HB4 := Lib.hid (HBW.out.trans (hb3.mono HBW.out.size))
        have k1 : w3.cell? ⟨w.heap.size, 1, none⟩ = some (.slice ok S.key.length ck) := cell_old k1 hb3
        have hs3 : w.heap.size < w3.heap.size := by have := hb3.size; omega
        clear k0 k2 hb3 HRO
        cases a
        · have hne : (rowN S row == 0) = false := HEX
          generalize rowN S row = m at hne
          clear HEX HKY
          go_wp2_with (first | (go_at_call 14; refine (l3num_any _ _).mono ?_; rintro e w' ⟨rfl, rfl⟩) | (go_at_call 10; refine (HW.out _ HB4.out).mono ?_; rintro e w4 ⟨rfl, hb4⟩))
          go_ret
          exact ⟨rfl, HB4.out.trans (hb4.mono HB4.out.size)⟩
        · have h0 : rowN S row = 0 := by simpa using HEX
          obtain ⟨hin, hkk⟩ := HKY h0
          have HKK := Lib.hid hkk
          rw [h0]
          clear HEX HKY h0 hkk
          go_wp2_with (first | (go_at_call 14; refine (l3num_any _ _).mono ?_; rintro e w' ⟨rfl, rfl⟩))
          refine (HPK.out _ HB4.out).mono ?_
          rintro e w4 (⟨_, ⟨b, rfl, hvv⟩, hb4⟩ | ⟨hf, _⟩)
          · have HB5 := Lib.hid (HB4.out.trans (hb4.mono HB4.out.size))
            have k1 : w4.cell? ⟨w.heap.size, 1, none⟩ = some (.slice ok S.key.length ck) := cell_old k1 hb4
            obtain ⟨ad, had⟩ : ∃ ad : Addr, (⟨b, 0, none⟩ : Addr) = ad := ⟨_, rfl⟩
            have hvv2 : ∀ (j : Nat) (h : j < (pickL val0 row S.key).length), ValAt w4 (ad.add (j * 4)) (pickL val0 row S.key)[j] := fun j h => by
              obtain ⟨a2, e2, h2⟩ := hvv j h
              cases e2
              rw [← had]
              exact h2
            have hpl : (pickL val0 row S.key).length = S.key.length := by simp [pickL]
            have HVV := Lib.hid hvv2
            have HPL := Lib.hid hpl
            clear hvv hb4 hvv2 hpl hin
            rw [had]
            clear had
            go_wp2_with fail
            go_loop [11] (fun i => ∃ q : Nat, q ≤ S.key.length ∧ i = .int .i64 q) (fun i => S.key.length - (intOf i).toNat)
            case atStart => exact ⟨0, Nat.zero_le _, rfl⟩
            case round =>
              obtain ⟨q, hq, rfl⟩ := hrel
              by_cases hql : q < S.key.length
              · have hqp : q < (pickL val0 row S.key).length := by have := HPL.out; omega
                obtain ⟨x, hx⟩ : ∃ x, (pickL val0 row S.key)[q] = x := ⟨_, rfl⟩
                have hxk : (x.k == 0) = false := by
                  rw [beq_eq_false_iff_ne, ← hx]
                  exact HKK.out _ (List.getElem_mem hqp)
                have hat := HVV.out q hqp
                rw [hx] at hat
                obtain ⟨v0, v1, v2, v3⟩ := hat
                have b0 : (0 : Int) ≤ (q : Int) := by omega
                have b1 : (q : Int) < (S.key.length : Int) := by omega
                clear hx hqp
                go_wp2_with fail
                go_round
                case rel => exact ⟨q + 1, by omega, by go_num⟩
                case measure => simp [intOf]; omega
              · obtain rfl : q = S.key.length := by omega
                go_wp2_with (first | (go_at_call 14; refine (l3num_any _ _).mono ?_; rintro e w' ⟨rfl, rfl⟩) | (go_at_call 10; refine (HW.out _ HB5.out).mono ?_; rintro e w6 ⟨rfl, hb6⟩))
                go_ret
                exact ⟨rfl, HB5.out.trans (hb6.mono HB5.out.size)⟩
          · rw [hin] at hf; cases hf
      · clear hlt
        have HEX : (rowN S row == 0) = a := by
          rw [HA.out, ← HHD.out]
          refine rowN_all HOK.out ?_
          omega
        have HKY := fun h0 => fit_key (S := S) (row := row) HOK.out h0 (by omega)
        clear HFT HCO HR HNM HHD HA HSK
        go_wp2_with fail
        refine (HRO.out _ HBW.out).mono ?_
        rintro e w3 ⟨rfl, hb3⟩
        have HB4 := Lib.hid (HBW.out.trans (hb3.mono HBW.out.size))
        have k1 : w3.cell? ⟨w.heap.size, 1, none⟩ = some (.slice ok S.key.length ck) := cell_old k1 hb3
        have hs3 : w.heap.size < w3.heap.size := by have := hb3.size; omega
        clear k0 k2 hb3 HRO
        cases a
        · have hne : (rowN S row == 0) = false := HEX
          generalize rowN S row = m at hne
          clear HEX HKY
          go_wp2_with (first | (go_at_call 14; refine (l3num_any _ _).mono ?_; rintro e w' ⟨rfl, rfl⟩) | (go_at_call 10; refine (HW.out _ HB4.out).mono ?_; rintro e w4 ⟨rfl, hb4⟩))
          go_ret
          exact ⟨rfl, HB4.out.trans (hb4.mono HB4.out.size)⟩
        · have h0 : rowN S row = 0 := by simpa using HEX
          obtain ⟨hin, hkk⟩ := HKY h0
          have HKK := Lib.hid hkk
          rw [h0]
          clear HEX HKY h0 hkk
          go_wp2_with (first | (go_at_call 14; refine (l3num_any _ _).mono ?_; rintro e w' ⟨rfl, rfl⟩))
          refine (HPK.out _ HB4.out).mono ?_
          rintro e w4 (⟨_, ⟨b, rfl, hvv⟩, hb4⟩ | ⟨hf, _⟩)
          · have HB5 := Lib.hid (HB4.out.trans (hb4.mono HB4.out.size))
            have k1 : w4.cell? ⟨w.heap.size, 1, none⟩ = some (.slice ok S.key.length ck) := cell_old k1 hb4
            obtain ⟨ad, had⟩ : ∃ ad : Addr, (⟨b, 0, none⟩ : Addr) = ad := ⟨_, rfl⟩
            have hvv2 : ∀ (j : Nat) (h : j < (pickL val0 row S.key).length), ValAt w4 (ad.add (j * 4)) (pickL val0 row S.key)[j] := fun j h => by
              obtain ⟨a2, e2, h2⟩ := hvv j h
              cases e2
              rw [← had]
              exact h2
            have hpl : (pickL val0 row S.key).length = S.key.length := by simp [pickL]
            have HVV := Lib.hid hvv2
            have HPL := Lib.hid hpl
            clear hvv hb4 hvv2 hpl hin
            rw [had]
            clear had
            go_wp2_with fail
            go_loop [11] (fun i => ∃ q : Nat, q ≤ S.key.length ∧ i = .int .i64 q) (fun i => S.key.length - (intOf i).toNat)
            case atStart => exact ⟨0, Nat.zero_le _, rfl⟩
            case round =>
              obtain ⟨q, hq, rfl⟩ := hrel
              by_cases hql : q < S.key.length
              · have hqp : q < (pickL val0 row S.key).length := by have := HPL.out; omega
                obtain ⟨x, hx⟩ : ∃ x, (pickL val0 row S.key)[q] = x := ⟨_, rfl⟩
                have hxk : (x.k == 0) = false := by
                  rw [beq_eq_false_iff_ne, ← hx]
                  exact HKK.out _ (List.getElem_mem hqp)
                have hat := HVV.out q hqp
                rw [hx] at hat
                obtain ⟨v0, v1, v2, v3⟩ := hat
                have b0 : (0 : Int) ≤ (q : Int) := by omega
                have b1 : (q : Int) < (S.key.length : Int) := by omega
                clear hx hqp
                go_wp2_with fail
                go_round
                case rel => exact ⟨q + 1, by omega, by go_num⟩
                case measure => simp [intOf]; omega
              · obtain rfl : q = S.key.length := by omega
                go_wp2_with (first | (go_at_call 14; refine (l3num_any _ _).mono ?_; rintro e w' ⟨rfl, rfl⟩) | (go_at_call 10; refine (HW.out _ HB5.out).mono ?_; rintro e w6 ⟨rfl, hb6⟩))
                go_ret
                exact ⟨rfl, HB5.out.trans (hb6.mono HB5.out.size)⟩
          · rw [hin] at hf; cases hf
end Go.Proofs.YtjlhbpacecbfmaaGreatDoor
