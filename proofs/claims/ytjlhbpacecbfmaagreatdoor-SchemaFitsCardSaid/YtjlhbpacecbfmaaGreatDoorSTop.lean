/-
  schema.lookAt, schema.Check.
-/
import Derived.Test.YtjlhbpacecbfmaaGreatDoorSCheck
namespace Go.Proofs.YtjlhbpacecbfmaaGreatDoor
open Go.RowKit

set_option maxRecDepth 100000 in
set_option maxHeartbeats 2000000 in
theorem lookAt_any (oc : Option Addr) (nc cc : Nat) (ok : Option Addr) (nk ck : Nat) (ou : Option Addr) (nu cu : Nat) (w : World) :
    Calls Tryz.prog 32 #[.agg #[.slice oc nc cc, .slice ok nk ck, .slice ou nu cu]] w fun e w' => ∃ r, e = .returned (.agg #[.slice oc nc cc, .slice ok nk ck, .slice ou nu cu, .map (some r)]) ∧ w'.heap[r]? = some (.map mapTypes 4) ∧ Below w.heap.size w w' := by
  go_enter Tryz.func32, Tryz.ntmps32
  go_wp2
  go_region_held3 (fun w' => w'.cell? ⟨w.heap.size, 0, none⟩ = some (.slice oc nc cc) ∧ w'.cell? ⟨w.heap.size, 1, none⟩ = some (.slice ok nk ck) ∧ w'.cell? ⟨w.heap.size, 2, none⟩ = some (.slice ou nu cu)) (first | (go_keep; done) | (simp [*, go_sem]; done))
    (first | (go_at_call 68; refine (Of_any _ _ _).mono ?_; rintro e w' ⟨rfl, rfl⟩) | (go_at_call 40; refine (types_any _).mono ?_; rintro e w' ⟨rfl, rfl⟩))
  all_goals go_wp2_with (go_at_call 68; refine (Of_any _ _ _).mono ?_; rintro e w' ⟨rfl, rfl⟩)
  all_goals go_returns
  all_goals exact ⟨_, rfl, heap_third _ _ _ _, by go_grown⟩

/-- the number of a schema's error -/
def schN (S : Sch) : Int := if schOk S = true then 0 else 2
set_option maxRecDepth 100000 in
set_option maxHeartbeats 2000000 in
theorem SCheck_any (p : SchV) (S : Sch) (w : World) (hg : HasET w) (hnm : ∀ c ∈ S.cols, c.n.size ≤ 9223372036854775807) (hcl : S.cols.length ≤ 1000) (hul : S.uqs.length ≤ 6) (hS : SchIn w p S) :
    Calls Tryz.prog 15 #[.agg #[.slice p.oc S.cols.length p.cc, .slice p.ok S.key.length p.ck, .slice p.ou S.uqs.length p.cu]] w fun e w' => e = .returned (.int .i64 (schN S)) ∧ Below w.heap.size w w' := by
  have HG := Lib.hid (fun W hb => hg.below (w' := W) hb hg.lt)
  have HS := Lib.hid hS
  have HN := Lib.hid hnm
  clear hg hS hnm
  go_enter Tryz.func15, Tryz.ntmps15
  go_wp2_with (go_at_call 68; refine (Of_any _ _ _).mono ?_; rintro e w' ⟨rfl, rfl⟩)
  refine (lookAt_any _ _ _ _ _ _ _ _ _ _).mono ?_
  rintro e w1 ⟨r, rfl, hm, hb1⟩
  have hb01 : Below w.heap.size w w1 := ((Below.refl _ _).alloc (Nat.le_refl _) _).trans (hb1.mono (by simp))
  have HB1 := Lib.hid hb01
  have HC := Lib.hid (lcheck_any p S r w1 hm HN.out hcl hul (HS.out.keep hb01 (Nat.le_refl _)))
  clear hm hb1 hb01
  go_wp2_with (go_at_call 68; refine (Of_any _ _ _).mono ?_; rintro e w' ⟨rfl, rfl⟩)
  refine HC.out.mono ?_
  rintro e w2 (⟨hok, rfl, hb2⟩ | ⟨hok, b, rfl, hb, hcb, hb2⟩)
  · have HB2 := Lib.hid (HB1.out.trans (hb2.mono HB1.out.size))
    have HO := Lib.hid (show schN S = 0 by unfold schN; rw [hok]; rfl)
    clear hok hb2
    go_wp2_with (go_at_call 68; refine (Of_any _ _ _).mono ?_; rintro e w' ⟨rfl, rfl⟩)
    refine (sErrno_nil _).mono ?_
    rintro e w3 ⟨rfl, hb3⟩
    go_wp2_with (go_at_call 68; refine (Of_any _ _ _).mono ?_; rintro e w' ⟨rfl, rfl⟩)
    go_ret
    exact ⟨by rw [HO.out]; rfl, HB2.out.trans (hb3.mono HB2.out.size)⟩
  · have HB2 := Lib.hid (HB1.out.trans (hb2.mono HB1.out.size))
    have HO := Lib.hid (show schN S = 2 by unfold schN; rw [hok]; rfl)
    have HE := Lib.hid (sErrno_err b 2 w2 (HG.out _ HB2.out) hcb)
    clear hok hb2 hcb
    go_wp2_with (go_at_call 68; refine (Of_any _ _ _).mono ?_; rintro e w' ⟨rfl, rfl⟩)
    refine HE.out.mono ?_
    rintro e w3 ⟨rfl, hb3⟩
    go_wp2_with (go_at_call 68; refine (Of_any _ _ _).mono ?_; rintro e w' ⟨rfl, rfl⟩)
    go_ret
    exact ⟨by rw [HO.out]; rfl, HB2.out.trans (hb3.mono HB2.out.size)⟩

/-- the first value's error -/
def firstFit : List Col → List Vl → Int
  | c :: cs, v :: vs => if fitN c v = 0 then firstFit cs vs else fitN c v
  | _, _ => 0
def FFRel (cs : List Col) (vs : List Vl) (k : Nat) : Prop := firstFit cs vs = firstFit (cs.drop k) (vs.drop k)
theorem FFRel.next {cs : List Col} {vs : List Vl} {k : Nat} {c : Col} {v : Vl} (h : FFRel cs vs k) (hc : k < cs.length) (hv : k < vs.length) (ec : cs[k] = c) (ev : vs[k] = v) (h0 : fitN c v = 0) : FFRel cs vs (k + 1) := by
  unfold FFRel at *
  rw [h, List.drop_eq_getElem_cons hc, List.drop_eq_getElem_cons hv, ec, ev]
  simp [firstFit, h0]
theorem FFRel.hit {cs : List Col} {vs : List Vl} {k : Nat} {c : Col} {v : Vl} (h : FFRel cs vs k) (hc : k < cs.length) (hv : k < vs.length) (ec : cs[k] = c) (ev : vs[k] = v) (h0 : fitN c v ≠ 0) : firstFit cs vs = fitN c v := by
  unfold FFRel at *
  rw [h, List.drop_eq_getElem_cons hc, List.drop_eq_getElem_cons hv, ec, ev]
  simp [firstFit, h0]
theorem FFRel.done {cs : List Col} {vs : List Vl} {k : Nat} (h : FFRel cs vs k) (hv : vs.length ≤ k) : firstFit cs vs = 0 := by
  unfold FFRel at *
  rw [h, List.drop_eq_nil_of_le hv]
  cases cs.drop k <;> rfl
/-- a row's error -/
def rowN (S : Sch) (row : List Vl) : Int := if schOk S = true then (if row.length = S.cols.length then firstFit S.cols row else 130) else 2
theorem schOk_col {S : Sch} (h : schOk S = true) {k : Nat} {c : Col} (hk : k < S.cols.length) (hc : S.cols[k] = c) : colOk c = true := by
  unfold schOk colsTo at h
  simp only [Bool.and_eq_true, List.all_eq_true, List.mem_range] at h
  have := (h.2.1 k hk).1
  rwa [List.getD_eq_getElem?_getD, List.getElem?_eq_getElem hk, hc] at this

set_option maxRecDepth 100000 in
set_option maxHeartbeats 4000000 in
theorem lrow_any (p : SchV) (S : Sch) (r : Nat) (oa : Option Addr) (ca : Nat) (row : List Vl) (w : World) (hg : HasET w) (hm : w.heap[r]? = some (.map mapTypes 4)) (hnm : ∀ c ∈ S.cols, c.n.size ≤ 9223372036854775807) (hcl : S.cols.length ≤ 1000) (hul : S.uqs.length ≤ 6) (hS : SchIn w p S) (_hrl : row.length ≤ 1000) (hr : ValsIn w oa row) :
    Calls Tryz.prog 46 #[.agg #[.slice p.oc S.cols.length p.cc, .slice p.ok S.key.length p.ck, .slice p.ou S.uqs.length p.cu, .map (some r)], .slice oa row.length ca] w fun e w' =>
      (rowN S row = 0 ∧ e = .returned .nilIface ∧ Below w.heap.size w w') ∨ (rowN S row ≠ 0 ∧ IsMis (rowN S row) w e w') := by
  have HG := Lib.hid (fun W hb => hg.below (w' := W) hb hg.lt)
  have HCK := Lib.hid (fun A => lcheck_any p S r (w.alloc A) (heap_old hm A) hnm hcl hul (hS.keep ((Below.refl _ _).alloc (Nat.le_refl _) _) (Nat.le_refl _)))
  have HM := Lib.hid hm
  have HR := Lib.hid hr
  have hcols := hS.cols
  clear hg hm hnm hS hr
  obtain ⟨oc, cc, ok, ck, ou, cu⟩ := p
  simp only at hcols HCK ⊢
  have HCO := Lib.hid hcols
  clear hcols
  go_enter Tryz.func46, Tryz.ntmps46
  go_wp2_with (go_at_call 68; refine (Of_any _ _ _).mono ?_; rintro e w' ⟨rfl, rfl⟩)
  refine (HCK.out _).mono ?_
  rintro e w1 (⟨hok, rfl, hb1⟩ | ⟨hok, b, rfl, hb, hcb, hb1⟩)
  · have HOK := Lib.hid hok
    have HB1 := Lib.hid (((Below.refl w.heap.size w).alloc (Nat.le_refl _) (.cells #[.slice oc S.cols.length cc, .slice ok S.key.length ck, .slice ou S.uqs.length cu, .map (some r)] 68)).trans (hb1.mono (by simp)))
    have k0 : w1.cell? ⟨w.heap.size, 0, none⟩ = some (.slice oc S.cols.length cc) := cell_old (by simp [go_sem]) hb1
    have k3 : w1.cell? ⟨w.heap.size, 3, none⟩ = some (.map (some r)) := cell_old (by simp [go_sem]) hb1
    have hs1 : w.heap.size < w1.heap.size := by have := hb1.size; simp at this; omega
    clear hok hb1 HCK
    by_cases hlen : row.length = S.cols.length
    · have hne : ((row.length : Int) != (S.cols.length : Int)) = false := by rw [hlen]; simp
      have HRN := Lib.hid (show rowN S row = firstFit S.cols row by unfold rowN; rw [if_pos HOK.out, if_pos hlen])
      have HLEN := Lib.hid hlen
      clear hlen
      go_wp2_with (go_at_call 68; refine (Of_any _ _ _).mono ?_; rintro e w' ⟨rfl, rfl⟩)
      go_loopw [24] (fun i wr => ∃ k : Nat, k ≤ row.length ∧ i = .int .i64 k ∧ Hid (FFRel S.cols row k) ∧ Hid (Below w1.heap.size w1 wr)) (fun i _ => row.length - (intOf i).toNat)
      case atStart => exact ⟨0, Nat.zero_le _, rfl, Lib.hid rfl, Lib.hid (Below.refl _ _)⟩
      case round =>
        obtain ⟨k, hk, rfl, HK, HB⟩ := hrel
        have HBW := Lib.hid (HB1.out.trans (HB.out.mono HB1.out.size))
        have hsr := HB.out.size
        have hsw : w.heap.size < wr.heap.size := by omega
        have m0 : wr.cell? ⟨w.heap.size, 0, none⟩ = some (.slice oc S.cols.length cc) := cell_old k0 HB.out
        have m3 : wr.cell? ⟨w.heap.size, 3, none⟩ = some (.map (some r)) := cell_old k3 HB.out
        clear k0 k3
        by_cases hlt : k < row.length
        · have hlc : k < S.cols.length := by have := HLEN.out; omega
          obtain ⟨c, hc⟩ : ∃ c, S.cols[k] = c := ⟨_, rfl⟩
          obtain ⟨v, hv⟩ : ∃ v, row[k] = v := ⟨_, rfl⟩
          obtain ⟨ac, rfl, hat⟩ := HCO.out.keep HBW.out (Nat.le_refl _) k hlc
          obtain ⟨av, rfl, hvt⟩ := HR.out.keep HBW.out (Nat.le_refl _) k hlt
          rw [hc] at hat
          rw [hv] at hvt
          have hal := hat.lt
          have hvl := hvt.lt
          obtain ⟨q0, q1, q2, q3⟩ := hat
          obtain ⟨g0, g1, g2, g3⟩ := hvt
          have HSZ := Lib.hid (show szOk c.t c.z = true by have h := schOk_col HOK.out hlc hc; unfold colOk at h; rw [Bool.and_eq_true] at h; exact h.1)
          by_cases h0 : fitN c v = 0
          · have HNX := Lib.hid (HK.out.next hlc hlt hc hv h0)
            have HF : Hid (∀ W', Below wr.heap.size wr W' → Calls Tryz.prog 42 #[.map (some r), .agg #[.string c.n, .int .i64 c.t, .int .i64 c.z, .bool c.u], .agg #[.int .i64 v.k, .int .i64 v.i, .int .u64 v.u, .string v.s]] W' fun e w' => e = .returned .nilIface ∧ Below W'.heap.size W' w') := Lib.hid (fun W' hb => fit_ok c v r W' (heap_keep (heap_keep HM.out HBW.out) hb) (HG.out W' (HBW.out.trans (hb.mono HBW.out.size))) HSZ.out h0)
            clear h0 hc hv
            go_wp2_with (go_at_call 68; refine (Of_any _ _ _).mono ?_; rintro e w' ⟨rfl, rfl⟩)
            have l0 : ∀ p : Later (wr.alloc (.cells #[.int .i64 v.k, .int .i64 v.i, .int .u64 v.u, .string v.s] 47)), p.W.cell? ⟨w.heap.size, 0, none⟩ = some (.slice (some ac) S.cols.length cc) := later_cell (cell_old m0 ((Below.refl _ _).alloc (Nat.le_refl _) _))
            have l1 : ∀ p : Later (wr.alloc (.cells #[.int .i64 v.k, .int .i64 v.i, .int .u64 v.u, .string v.s] 47)), p.W.cell? ⟨w.heap.size, 3, none⟩ = some (.map (some r)) := later_cell (cell_old m3 ((Below.refl _ _).alloc (Nat.le_refl _) _))
            have l2 : ∀ p : Later (wr.alloc (.cells #[.int .i64 v.k, .int .i64 v.i, .int .u64 v.u, .string v.s] 47)), p.W.cell? (ac.add (k * 4)) = some (.string c.n) := later_cell (cell_old q0 ((Below.refl _ _).alloc (Nat.le_refl _) _))
            have l3 : ∀ p : Later (wr.alloc (.cells #[.int .i64 v.k, .int .i64 v.i, .int .u64 v.u, .string v.s] 47)), p.W.cell? ⟨(ac.add (k * 4)).block, (ac.add (k * 4)).off + 1, none⟩ = some (.int .i64 c.t) := later_cell (cell_old q1 ((Below.refl _ _).alloc (Nat.le_refl _) _))
            have l4 : ∀ p : Later (wr.alloc (.cells #[.int .i64 v.k, .int .i64 v.i, .int .u64 v.u, .string v.s] 47)), p.W.cell? ⟨(ac.add (k * 4)).block, (ac.add (k * 4)).off + 2, none⟩ = some (.int .i64 c.z) := later_cell (cell_old q2 ((Below.refl _ _).alloc (Nat.le_refl _) _))
            have l5 : ∀ p : Later (wr.alloc (.cells #[.int .i64 v.k, .int .i64 v.i, .int .u64 v.u, .string v.s] 47)), p.W.cell? ⟨(ac.add (k * 4)).block, (ac.add (k * 4)).off + 3, none⟩ = some (.bool c.u) := later_cell (cell_old q3 ((Below.refl _ _).alloc (Nat.le_refl _) _))
            have l6 : ∀ p : Later (wr.alloc (.cells #[.int .i64 v.k, .int .i64 v.i, .int .u64 v.u, .string v.s] 47)), p.W.cell? ⟨wr.heap.size, 0, none⟩ = some (.int .i64 v.k) := later_cell (by simp [go_sem])
            have l7 : ∀ p : Later (wr.alloc (.cells #[.int .i64 v.k, .int .i64 v.i, .int .u64 v.u, .string v.s] 47)), p.W.cell? ⟨wr.heap.size, 1, none⟩ = some (.int .i64 v.i) := later_cell (by simp [go_sem])
            have l8 : ∀ p : Later (wr.alloc (.cells #[.int .i64 v.k, .int .i64 v.i, .int .u64 v.u, .string v.s] 47)), p.W.cell? ⟨wr.heap.size, 2, none⟩ = some (.int .u64 v.u) := later_cell (by simp [go_sem])
            have l9 : ∀ p : Later (wr.alloc (.cells #[.int .i64 v.k, .int .i64 v.i, .int .u64 v.u, .string v.s] 47)), p.W.cell? ⟨wr.heap.size, 3, none⟩ = some (.string v.s) := later_cell (by simp [go_sem])
            refine wp_region_later (by kernel_rfl) (by kernel_rfl) ?_
            repeat (go_big_quiet_step ((go_at_call 42; exact Calls.later (HF.out _ (((Below.refl _ _).alloc (Nat.le_refl _) _).trans (Later.h _ |>.mono (by simp)))))))
            refine wpQuiet_nil ?_
            rintro w3 ⟨⟨W3, hb3⟩, rfl⟩
            have HB3 := Lib.hid (HB.out.trans (((Below.refl _ _).alloc (Nat.le_refl _) _ |>.trans (hb3.mono (by simp))).mono HB.out.size))
            clear hb3
            go_wp2_with (go_at_call 68; refine (Of_any _ _ _).mono ?_; rintro e w' ⟨rfl, rfl⟩)
            go_roundw
            case rel => exact ⟨k + 1, by omega, by go_num, HNX, HB3⟩
            case measure => simp [intOf]; omega
          · have HNO := Lib.hid (HRN.out.trans (HK.out.hit hlc hlt hc hv h0))
            have HF : Hid (∀ W', Below wr.heap.size wr W' → Calls Tryz.prog 42 #[.map (some r), .agg #[.string c.n, .int .i64 c.t, .int .i64 c.z, .bool c.u], .agg #[.int .i64 v.k, .int .i64 v.i, .int .u64 v.u, .string v.s]] W' (IsMis (fitN c v) W')) := Lib.hid (fun W' hb => fit_bad c v r W' (heap_keep (heap_keep HM.out HBW.out) hb) (HG.out W' (HBW.out.trans (hb.mono HBW.out.size))) HSZ.out _ rfl h0)
            have HNZ := Lib.hid h0
            generalize fitN c v = m at *
            clear h0 hc hv
            go_wp2_with (go_at_call 68; refine (Of_any _ _ _).mono ?_; rintro e w' ⟨rfl, rfl⟩)
            go_region_held3 (fun w' => w'.cell? ⟨w.heap.size, 0, none⟩ = some (.slice (some ac) S.cols.length cc) ∧ w'.cell? ⟨w.heap.size, 3, none⟩ = some (.map (some r)) ∧ w'.cell? (ac.add (k * 4)) = some (.string c.n) ∧ w'.cell? ⟨(ac.add (k * 4)).block, (ac.add (k * 4)).off + 1, none⟩ = some (.int .i64 c.t) ∧ w'.cell? ⟨(ac.add (k * 4)).block, (ac.add (k * 4)).off + 2, none⟩ = some (.int .i64 c.z) ∧ w'.cell? ⟨(ac.add (k * 4)).block, (ac.add (k * 4)).off + 3, none⟩ = some (.bool c.u) ∧ w'.cell? ⟨wr.heap.size, 0, none⟩ = some (.int .i64 v.k) ∧ w'.cell? ⟨wr.heap.size, 1, none⟩ = some (.int .i64 v.i) ∧ w'.cell? ⟨wr.heap.size, 2, none⟩ = some (.int .u64 v.u) ∧ w'.cell? ⟨wr.heap.size, 3, none⟩ = some (.string v.s)) (refine ⟨?_, ?_, ?_, ?_, ?_, ?_, ?_, ?_, ?_, ?_⟩ <;> (first | assumption | (simp [go_sem]; done) | (refine cell_old ?_ hb3; first | assumption | (simp [go_sem]; done) | (refine cell_old (by assumption) ?_; go_grown)) | (refine cell_old (by assumption) ?_; go_grown)))
              (first | (go_at_call 68; refine (Of_any _ _ _).mono ?_; rintro e w' ⟨rfl, rfl⟩) | (go_at_call 42; refine (HF.out _ ?_).mono ?_; go_grown; rintro e w3 ⟨b, rfl, hb, hcb, hb3⟩))
            have HRS := Lib.hid (show IsMis m w (.returned (.iface 132 (.pointer (some ⟨b, 0, none⟩)))) w3 from ⟨b, rfl, by simp at hb; omega, hcb, HBW.out.trans (((show Below wr.heap.size wr _ from by go_grown).trans (hb3.mono (by simp))).mono HBW.out.size)⟩)
            clear hb3 hcb
            go_wp2_with (go_at_call 68; refine (Of_any _ _ _).mono ?_; rintro e w' ⟨rfl, rfl⟩)
            go_ret
            exact .inr ⟨by rw [HNO.out]; exact HNZ.out, by rw [HNO.out]; exact HRS.out⟩
        · have HNO := Lib.hid (HRN.out.trans (HK.out.done (by omega)))
          go_wp2_with (go_at_call 68; refine (Of_any _ _ _).mono ?_; rintro e w' ⟨rfl, rfl⟩)
          go_ret
          exact .inl ⟨HNO.out, rfl, HBW.out⟩
    · have hne : ((row.length : Int) != (S.cols.length : Int)) = true := by
        rw [bne_iff_ne]
        omega
      have HNO := Lib.hid (show rowN S row = 130 by unfold rowN; rw [if_pos HOK.out, if_neg hlen])
      clear hlen
      go_wp2_with (go_at_call 68; refine (Of_any _ _ _).mono ?_; rintro e w' ⟨rfl, rfl⟩)
      go_ret
      exact .inr ⟨by rw [HNO.out]; decide, by rw [HNO.out]; exact ⟨_, rfl, by omega, by simp [go_sem], HB1.out.alloc HB1.out.size _⟩⟩
  · have HNO := Lib.hid (show rowN S row = 2 by unfold rowN; rw [hok]; rfl)
    have HRS := Lib.hid (show IsMis 2 w (.returned (.iface 132 (.pointer (some ⟨b, 0, none⟩)))) w1 from ⟨b, rfl, by simp at hb; omega, hcb, ((Below.refl _ _).alloc (Nat.le_refl _) _).trans (hb1.mono (by simp))⟩)
    clear hok hcb hb1 HCK
    go_wp2_with (go_at_call 68; refine (Of_any _ _ _).mono ?_; rintro e w' ⟨rfl, rfl⟩)
    go_ret
    exact .inr ⟨by rw [HNO.out]; decide, by rw [HNO.out]; exact HRS.out⟩

set_option maxRecDepth 100000 in
set_option maxHeartbeats 2000000 in
theorem SRow_any (p : SchV) (S : Sch) (oa : Option Addr) (ca : Nat) (row : List Vl) (w : World) (hg : HasET w) (hnm : ∀ c ∈ S.cols, c.n.size ≤ 9223372036854775807) (hcl : S.cols.length ≤ 1000) (hul : S.uqs.length ≤ 6) (hS : SchIn w p S) (hrl : row.length ≤ 1000) (hr : ValsIn w oa row) :
    Calls Tryz.prog 22 #[.agg #[.slice p.oc S.cols.length p.cc, .slice p.ok S.key.length p.ck, .slice p.ou S.uqs.length p.cu], .slice oa row.length ca] w fun e w' => e = .returned (.int .i64 (rowN S row)) ∧ Below w.heap.size w w' := by
  have HG := Lib.hid (fun W hb => hg.below (w' := W) hb hg.lt)
  have HS := Lib.hid hS
  have HN := Lib.hid hnm
  have HR := Lib.hid hr
  clear hg hS hnm hr
  go_enter Tryz.func22, Tryz.ntmps22
  go_wp2_with (go_at_call 68; refine (Of_any _ _ _).mono ?_; rintro e w' ⟨rfl, rfl⟩)
  refine (lookAt_any _ _ _ _ _ _ _ _ _ _).mono ?_
  rintro e w1 ⟨r, rfl, hm, hb1⟩
  have hb01 : Below w.heap.size w w1 := ((Below.refl _ _).alloc (Nat.le_refl _) _).trans (hb1.mono (by simp))
  have HB1 := Lib.hid hb01
  have HC := Lib.hid (lrow_any p S r oa ca row w1 (HG.out _ hb01) hm HN.out hcl hul (HS.out.keep hb01 (Nat.le_refl _)) hrl (HR.out.keep hb01 (Nat.le_refl _)))
  clear hm hb1 hb01
  go_wp2_with (go_at_call 68; refine (Of_any _ _ _).mono ?_; rintro e w' ⟨rfl, rfl⟩)
  refine HC.out.mono ?_
  rintro e w2 (⟨hok, rfl, hb2⟩ | ⟨hok, b, rfl, hb, hcb, hb2⟩)
  · have HB2 := Lib.hid (HB1.out.trans (hb2.mono HB1.out.size))
    have HO := Lib.hid hok
    clear hok hb2
    go_wp2_with (go_at_call 68; refine (Of_any _ _ _).mono ?_; rintro e w' ⟨rfl, rfl⟩)
    refine (sErrno_nil _).mono ?_
    rintro e w3 ⟨rfl, hb3⟩
    go_wp2_with (go_at_call 68; refine (Of_any _ _ _).mono ?_; rintro e w' ⟨rfl, rfl⟩)
    go_ret
    exact ⟨by rw [HO.out]; rfl, HB2.out.trans (hb3.mono HB2.out.size)⟩
  · have HB2 := Lib.hid (HB1.out.trans (hb2.mono HB1.out.size))
    have HE := Lib.hid (sErrno_err b (rowN S row) w2 (HG.out _ HB2.out) hcb)
    clear hok hb2 hcb
    go_wp2_with (go_at_call 68; refine (Of_any _ _ _).mono ?_; rintro e w' ⟨rfl, rfl⟩)
    refine HE.out.mono ?_
    rintro e w3 ⟨rfl, hb3⟩
    go_wp2_with (go_at_call 68; refine (Of_any _ _ _).mono ?_; rintro e w' ⟨rfl, rfl⟩)
    go_ret
    exact ⟨rfl, HB2.out.trans (hb3.mono HB2.out.size)⟩
end Go.Proofs.YtjlhbpacecbfmaaGreatDoor
