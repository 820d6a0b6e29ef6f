/-
  swingbridgeref03.set, Right and Row: the same answers.
-/
import Derived.Test.YtjlhbpacecbfmaaGreatDoorSTop
import Derived.Test.YtjlhbpacecbfmaaGreatDoorRFits
namespace Go.Proofs.YtjlhbpacecbfmaaGreatDoor
open Go.RowKit

theorem setTo_succ (n : Nat) (l : List Int) (k : Nat) (x : Int) (hk : k < l.length) (hc : l[k] = x) : setTo n l (k + 1) = (setTo n l k && ((decide (0 ≤ x) && decide (x < n)) && !decide (firstI l x < k))) := by
  unfold setTo
  rw [List.range_succ, List.all_append]
  have e : l.getD k 0 = x := by rw [List.getD_eq_getElem?_getD, List.getElem?_eq_getElem hk, hc]; rfl
  simp only [List.all_cons, List.all_nil, Bool.and_true]
  unfold dupB
  rw [e]
theorem setOk_no (n : Nat) (l : List Int) (k : Nat) (x : Int) (hk : k < l.length) (hc : l[k] = x) (h : ((decide (0 ≤ x) && decide (x < n)) && !decide (firstI l x < k)) = false) : setOk n l = false := by
  have : setTo n l (k + 1) = false := by rw [setTo_succ n l k x hk hc, h, Bool.and_false]
  have : setTo n l l.length = false := by
    unfold setTo at *
    rw [List.all_eq_false] at *
    obtain ⟨x, hx, hp⟩ := this
    exact ⟨x, by rw [List.mem_range] at *; omega, hp⟩
  unfold setOk
  rw [this, Bool.and_false, Bool.and_false]

theorem held_drewN {B : Nat} {w W : World} (h : Below B w W) {n : Nat} : Below B w (W.drewN n) := ⟨h.os, h.tape, h.output, h.size, h.block⟩
set_option maxRecDepth 100000 in
set_option maxHeartbeats 4000000 in
theorem rset_any (ol : Option Addr) (cl : Nat) (l : List Int) (n : Nat) (w : World) (hl : l.length ≤ 1000) (hi : IntsIn w ol l) :
    Calls Tryz.prog 38 #[.slice ol l.length cl, .int .i64 n] w fun e w' => e = .returned (.bool (setOk n l)) ∧ Below w.heap.size w w' := by
  have HI := Lib.hid hi
  clear hi
  go_enter Tryz.func38, Tryz.ntmps38
  go_wp2
  go_loopw [5] (fun i wr => ∃ k : Nat, k ≤ l.length ∧ k ≤ 5 ∧ i = .int .i64 k ∧ Hid (setTo n l k = true) ∧ Hid (Below w.heap.size w wr)) (fun i _ => l.length - (intOf i).toNat)
  case atStart => exact ⟨0, Nat.zero_le _, by omega, rfl, Lib.hid rfl, Lib.hid (Below.refl _ _)⟩
  case round =>
    obtain ⟨k, hk, hk5, rfl, HK, HB⟩ := hrel
    by_cases hlt : k < l.length
    · by_cases h5 : k < 5
      · obtain ⟨x, hx⟩ : ∃ x, l[k] = x := ⟨_, rfl⟩
        obtain ⟨a, rfl, hat⟩ := HI.out.keep HB.out (Nat.le_refl _) k hlt
        rw [hx] at hat
        by_cases h0 : 0 ≤ x
        · by_cases h1 : x < n
          · have HX := Lib.hid hx
            clear hx
            go_wp2
            obtain ⟨wo, rfl⟩ : ∃ wo : World, wo = wr := ⟨_, rfl⟩
            go_loopw [6] (fun j wi => ∃ q : Nat, q ≤ k ∧ j = .int .i64 q ∧ Hid (FRelI l x q) ∧ Hid (Below w.heap.size w wi)) (fun j _ => k - (intOf j).toNat)
            case atStart => exact ⟨0, Nat.zero_le _, rfl, Lib.hid (FRelI.zero _ _), HB⟩
            case round =>
              clear hat
              obtain ⟨q, hq, rfl, HQ, HBI⟩ := hrel
              by_cases hqk : q < k
              · obtain ⟨y, hy⟩ : ∃ y, l[q] = y := ⟨_, rfl⟩
                have hat : wr.cell? (a.add k) = some (.int .i64 x) := by
                  obtain ⟨a1, e1, h1⟩ := HI.out.keep HBI.out (Nat.le_refl _) k hlt
                  cases e1
                  rw [HX.out] at h1
                  exact h1
                have hatq : wr.cell? (a.add q) = some (.int .i64 y) := by
                  obtain ⟨a1, e1, h1⟩ := HI.out.keep HBI.out (Nat.le_refl _) q (by omega)
                  cases e1
                  rw [hy] at h1
                  exact h1
                have b0 : (0 : Int) ≤ (q : Int) := by omega
                have b1 : (q : Int) < (l.length : Int) := by omega
                have b2 : (0 : Int) ≤ (k : Int) := by omega
                have b3 : (k : Int) < (l.length : Int) := by omega
                by_cases hxy : x = y
                · have HN := Lib.hid (setOk_no n l k x hlt HX.out (by rw [HQ.out.hit (by omega) hy hxy]; simp; omega))
                  have e1 : (y == x) = true := by simpa using hxy.symm
                  clear hy hxy
                  go_wp2
                  go_quiet (fail)
                  go_wp2
                  go_ret
                  exact ⟨by rw [HN.out]; rfl, held_drewN HBI.out⟩
                · have HN := Lib.hid (HQ.out.next (by omega) hy hxy)
                  have e1 : (y == x) = false := by rw [beq_eq_false_iff_ne]; exact fun h => hxy h.symm
                  clear hy hxy
                  go_wp2
                  go_quiet (fail)
                  go_wp2
                  go_roundw
                  case rel => exact ⟨q + 1, by omega, by go_num, HN, Lib.hid (held_drewN HBI.out)⟩
                  case measure => simp [intOf]; omega
              · obtain rfl : q = k := by omega
                have HN := Lib.hid (show setTo n l (q + 1) = true by rw [setTo_succ n l q x hlt HX.out, HK.out, HQ.out.hit hlt HX.out rfl]; simp [h0, h1])
                go_wp2
                go_roundw
                case rel => exact ⟨q + 1, by omega, by omega, by go_num, HN, HBI⟩
                case measure => simp [intOf]; omega
          · have HN := Lib.hid (setOk_no n l k x hlt hx (by rw [show decide (x < (n : Int)) = false by simp; omega]; simp))
            clear hx
            go_wp2
            go_ret
            exact ⟨by rw [HN.out]; rfl, HB.out⟩
        · have HN := Lib.hid (setOk_no n l k x hlt hx (by rw [show decide (0 ≤ x) = false by simp; omega]; simp))
          clear hx
          go_wp2
          go_ret
          exact ⟨by rw [HN.out]; rfl, HB.out⟩
      · have HN := Lib.hid (show setOk n l = false by unfold setOk; rw [show decide (l.length ≤ 4) = false by simp; omega]; simp)
        have hd : decide ((l.length : Int) ≤ 4) = false := by rw [decide_eq_false_iff_not]; omega
        go_wp2
        go_ret
        exact ⟨by rw [HN.out]; rfl, HB.out⟩
    · obtain rfl : k = l.length := by omega
      by_cases h1 : 1 ≤ l.length
      · by_cases h4 : l.length ≤ 4
        · have HN := Lib.hid (show setOk n l = true by unfold setOk; rw [HK.out]; simp [h1, h4])
          have hd : decide ((l.length : Int) ≤ 4) = true := by rw [decide_eq_true_eq]; omega
          go_wp2
          go_ret
          exact ⟨by rw [HN.out]; rfl, HB.out⟩
        · have HN := Lib.hid (show setOk n l = false by unfold setOk; rw [show decide (l.length ≤ 4) = false by simp; omega]; simp)
          have hd : decide ((l.length : Int) ≤ 4) = false := by rw [decide_eq_false_iff_not]; omega
          go_wp2
          go_ret
          exact ⟨by rw [HN.out]; rfl, HB.out⟩
      · have HN := Lib.hid (show setOk n l = false by unfold setOk; rw [show decide (1 ≤ l.length) = false by rw [decide_eq_false_iff_not]; exact h1]; simp)
        go_wp2
        go_ret
        exact ⟨by rw [HN.out]; rfl, HB.out⟩

def uqsTo (S : Sch) (k : Nat) : Bool := (List.range k).all fun i => setOk S.cols.length (S.uqs.getD i [])
theorem uqsTo_succ (S : Sch) (k : Nat) (l : List Int) (hk : k < S.uqs.length) (hc : S.uqs[k] = l) : uqsTo S (k + 1) = (uqsTo S k && setOk S.cols.length l) := by
  unfold uqsTo
  rw [List.range_succ, List.all_append]
  have e : S.uqs.getD k [] = l := by rw [List.getD_eq_getElem?_getD, List.getElem?_eq_getElem hk, hc]; rfl
  simp only [List.all_cons, List.all_nil, Bool.and_true]
  rw [e]
theorem uqsTo_no (S : Sch) (k : Nat) (l : List Int) (hk : k < S.uqs.length) (hc : S.uqs[k] = l) (h : setOk S.cols.length l = false) : uqsTo S S.uqs.length = false := by
  have : uqsTo S (k + 1) = false := by rw [uqsTo_succ S k l hk hc, h, Bool.and_false]
  unfold uqsTo at *
  rw [List.all_eq_false] at *
  obtain ⟨x, hx, hp⟩ := this
  exact ⟨x, by rw [List.mem_range] at *; omega, hp⟩
theorem setsTo_eq (S : Sch) : ∀ m, setsTo S (1 + m) = ((setOk S.cols.length S.key && nullTo S.cols S.key S.key.length) && uqsTo S m)
  | 0 => by
    rw [show 1 + 0 = 0 + 1 from rfl, setsTo_succ]
    show (true && okSet S.cols true S.key) = _
    rw [okSet_eq]
    simp [uqsTo]
  | m + 1 => by
    rw [show 1 + (m + 1) = (1 + m) + 1 from rfl, setsTo_succ, setsTo_eq S m]
    have e : uqsTo S (m + 1) = (uqsTo S m && setOk S.cols.length (S.uqs.getD m [])) := by
      unfold uqsTo
      rw [List.range_succ, List.all_append]
      simp
    rw [e, okSet_eq, show ((1 + m == 0) = false) by simp, show setAt S (1 + m) = S.uqs.getD m [] by unfold setAt; rw [if_neg (by omega), show 1 + m - 1 = m by omega]]
    simp [Bool.and_assoc]
def lensOk (S : Sch) : Bool := decide (1 ≤ S.cols.length) && (decide (S.cols.length ≤ 8) && decide (S.uqs.length ≤ 3))
theorem schOk_eq (S : Sch) : schOk S = (lensOk S && (colsTo S.cols S.cols.length && ((setOk S.cols.length S.key && nullTo S.cols S.key S.key.length) && uqsTo S S.uqs.length))) := by
  unfold schOk lensOk
  rw [setsTo_eq]
theorem nullTo_succ (cols : List Col) (l : List Int) (k : Nat) (x : Int) (c : Col) (hk : k < l.length) (hx : l[k] = x) (hc : cols.getD x.toNat col0 = c) : nullTo cols l (k + 1) = (nullTo cols l k && !c.u) := by
  unfold nullTo
  rw [List.range_succ, List.all_append]
  have e : l.getD k 0 = x := by rw [List.getD_eq_getElem?_getD, List.getElem?_eq_getElem hk, hx]; rfl
  simp only [List.all_cons, List.all_nil, Bool.and_true]
  unfold nullAt
  rw [e, hc]
theorem nullTo_no (cols : List Col) (l : List Int) (k : Nat) (x : Int) (c : Col) (hk : k < l.length) (hx : l[k] = x) (hc : cols.getD x.toNat col0 = c) (h : c.u = true) : nullTo cols l l.length = false := by
  have : nullTo cols l (k + 1) = false := by rw [nullTo_succ cols l k x c hk hx hc, h]; simp
  unfold nullTo at *
  rw [List.all_eq_false] at *
  obtain ⟨x, hx, hp⟩ := this
  exact ⟨x, by rw [List.mem_range] at *; omega, hp⟩
theorem setOk_range {n : Nat} {l : List Int} (h : setOk n l = true) {k : Nat} (hk : k < l.length) : 0 ≤ l[k] ∧ l[k] < n := by
  unfold setOk setTo at h
  simp only [Bool.and_eq_true, List.all_eq_true, List.mem_range] at h
  have := (h.2.2 k hk).1
  rw [List.getD_eq_getElem?_getD, List.getElem?_eq_getElem hk] at this
  simpa using this

set_option maxRecDepth 100000 in
set_option maxHeartbeats 8000000 in
theorem rRight_any (p : SchV) (S : Sch) (w : World) (hnm : ∀ c ∈ S.cols, c.n.size ≤ 9223372036854775807) (hcl : S.cols.length ≤ 1000) (hul : S.uqs.length ≤ 1000) (hkl : S.key.length ≤ 1000) (hpl : ∀ l ∈ S.uqs, l.length ≤ 1000) (hS : SchIn w p S) :
    Calls Tryz.prog 16 #[.agg #[.slice p.oc S.cols.length p.cc, .slice p.ok S.key.length p.ck, .slice p.ou S.uqs.length p.cu]] w fun e w' => e = .returned (.bool (schOk S)) ∧ Below w.heap.size w w' := by
  have HOK := Lib.hid (schOk_eq S)
  have HNM := Lib.hid hnm
  have HPL := Lib.hid hpl
  have HC := Lib.hid hS.cols
  have HK := Lib.hid hS.key
  have HU := Lib.hid hS.uqs
  clear hnm hpl hS
  obtain ⟨oc, cc, ok, ck, ou, cu⟩ := p
  obtain ⟨cols, key, uqs⟩ := S
  simp only at *
  have HRK : Hid (∀ W', Below w.heap.size w W' → Calls Tryz.prog 38 #[.slice ok key.length ck, .int .i64 cols.length] W' fun e w' => e = .returned (.bool (setOk cols.length key)) ∧ Below W'.heap.size W' w') := Lib.hid (fun W' hb => rset_any ok ck key cols.length W' hkl (HK.out.keep hb (Nat.le_refl _)))
  by_cases hl : 1 ≤ cols.length ∧ cols.length ≤ 8 ∧ uqs.length ≤ 3
  · obtain ⟨l1, l2, l3⟩ := hl
    have HLN := Lib.hid (show lensOk ⟨cols, key, uqs⟩ = true by unfold lensOk; simp [l1, l2, l3])
    cases hks : setOk cols.length key
    · have HN := Lib.hid (show schOk ⟨cols, key, uqs⟩ = false by rw [HOK.out, hks]; simp)
      have HQ := Lib.hid hks
      clear hks
      go_enter Tryz.func16, Tryz.ntmps16
      go_wp2_with (first | (go_at_call 38; refine (HRK.out _ ((Below.refl _ _).alloc (Nat.le_refl _) _)).mono ?_; rintro e w3 ⟨he, hb3⟩; rw [HQ.out] at he; subst he))
      go_ret
      exact ⟨by rw [HN.out]; rfl, ((Below.refl _ _).alloc (Nat.le_refl _) _).trans (hb3.mono (by simp))⟩
    · have HQ := Lib.hid hks
      have HOK2 := Lib.hid (show schOk ⟨cols, key, uqs⟩ = (colsTo cols cols.length && (nullTo cols key key.length && uqsTo ⟨cols, key, uqs⟩ uqs.length)) by rw [HOK.out, HLN.out, hks]; rfl)
      clear hks
      go_enter Tryz.func16, Tryz.ntmps16
      go_wp2_with fail
      obtain ⟨W1, hW1⟩ : ∃ W1, w.alloc (.cells #[.slice oc cols.length cc, .slice ok key.length ck, .slice ou uqs.length cu] 26) = W1 := ⟨_, rfl⟩
      have hb1 : Below w.heap.size w W1 := by rw [← hW1]; exact (Below.refl _ _).alloc (Nat.le_refl _) _
      have hs1 : w.heap.size < W1.heap.size := by rw [← hW1]; simp
      have k0 : W1.cell? ⟨w.heap.size, 0, none⟩ = some (.slice oc cols.length cc) := by rw [← hW1]; simp [go_sem]
      have k1 : W1.cell? ⟨w.heap.size, 1, none⟩ = some (.slice ok key.length ck) := by rw [← hW1]; simp [go_sem]
      have k2 : W1.cell? ⟨w.heap.size, 2, none⟩ = some (.slice ou uqs.length cu) := by rw [← hW1]; simp [go_sem]
      rw [hW1]
      have HB1 := Lib.hid hb1
      clear hW1 hb1
      refine (HRK.out _ HB1.out).mono ?_
      rintro e w2 ⟨he, hb2⟩
      rw [HQ.out] at he
      subst he
      have HB2 := Lib.hid hb2
      have hs2 := hb2.size
      have n0 : w2.cell? ⟨w.heap.size, 0, none⟩ = some (.slice oc cols.length cc) := cell_old k0 hb2
      have n1 : w2.cell? ⟨w.heap.size, 1, none⟩ = some (.slice ok key.length ck) := cell_old k1 hb2
      have n2 : w2.cell? ⟨w.heap.size, 2, none⟩ = some (.slice ou uqs.length cu) := cell_old k2 hb2
      clear hb2
      have HX0 : Hid (∀ W', Below W1.heap.size W1 W' → W'.cell? ⟨w.heap.size, 0, none⟩ = some (.slice oc cols.length cc) ∧ W'.cell? ⟨w.heap.size, 1, none⟩ = some (.slice ok key.length ck) ∧ W'.cell? ⟨w.heap.size, 2, none⟩ = some (.slice ou uqs.length cu) ∧ w.heap.size < W'.heap.size) := Lib.hid (fun W' hb => ⟨cell_old k0 hb, cell_old k1 hb, cell_old k2 hb, by have := hb.size; omega⟩)
      clear k0 k1 k2
      go_wp2_with fail
      go_loopw [4] (fun i wr => ∃ k : Nat, k ≤ cols.length ∧ i = .int .i64 k ∧ Hid (colsTo cols k = true) ∧ Hid (Below W1.heap.size W1 wr)) (fun i _ => cols.length - (intOf i).toNat)
      case atStart => exact ⟨0, Nat.zero_le _, rfl, Lib.hid rfl, HB2⟩
      case round =>
        clear n0 n1 n2 hs2
        obtain ⟨k, hk, rfl, HCT, HB⟩ := hrel
        obtain ⟨m0, m1, m2, m3⟩ := HX0.out wr HB.out
        have HBW := Lib.hid (HB1.out.trans (HB.out.mono HB1.out.size))
        by_cases hlt : k < cols.length
        · obtain ⟨a, rfl, hat⟩ := HC.out.keep HBW.out (Nat.le_refl _) k hlt
          obtain ⟨c, hc⟩ : ∃ c, cols[k] = c := ⟨_, rfl⟩
          rw [hc] at hat
          have hal := hat.lt
          obtain ⟨q0, q1, q2, q3⟩ := hat
          have HRC := Lib.hid (rcolumn_any c wr (HNM.out c (hc ▸ List.getElem_mem hlt)))
          have HCC := Lib.hid hc
          cases hok : colOk c
          · have HN := Lib.hid (show schOk ⟨cols, key, uqs⟩ = false by rw [HOK2.out, colsTo_no cols k c hlt hc (by rw [hok]; rfl)]; rfl)
            have HO := Lib.hid hok
            clear hok hc
            go_wp2_with (first | (go_at_call 39; refine HRC.out.mono ?_; rintro e w3 ⟨he, hb3⟩; rw [HO.out] at he; subst he))
            go_ret
            exact ⟨by rw [HN.out]; rfl, HBW.out.trans (hb3.mono HBW.out.size)⟩
          · have HO := Lib.hid hok
            clear hok hc
            go_wp2_with fail
            refine HRC.out.mono ?_
            rintro e w3 ⟨he, hb3⟩
            rw [HO.out] at he
            subst he
            have HB3 := Lib.hid (HB.out.trans (hb3.mono HB.out.size))
            clear hb3 HRC
            go_wp2_with fail
            clear m0 m1 m2 m3 q0 q1 q2 q3 hal
            go_loopw [5] (fun j wi => ∃ q : Nat, q ≤ k ∧ j = .int .i64 q ∧ Hid (FRel cols c.n q) ∧ Hid (Below W1.heap.size W1 wi)) (fun j _ => k - (intOf j).toNat)
            case atStart => exact ⟨0, Nat.zero_le _, rfl, Lib.hid (FRel.zero _ _), HB3⟩
            case round =>
              obtain ⟨q, hq, rfl, HFR, HBI⟩ := hrel
              obtain ⟨m0, m1, m2, m3⟩ := HX0.out _ HBI.out
              have HBX := Lib.hid (HB1.out.trans (HBI.out.mono HB1.out.size))
              by_cases hqk : q < k
              · obtain ⟨cq, hcq⟩ : ∃ cq, cols[q] = cq := ⟨_, rfl⟩
                obtain ⟨a1, e1, hat1⟩ := HC.out.keep HBX.out (Nat.le_refl _) k hlt
                obtain ⟨a2, e2, hat2⟩ := HC.out.keep HBX.out (Nat.le_refl _) q (by omega)
                cases e1
                cases e2
                rw [HCC.out] at hat1
                rw [hcq] at hat2
                have hal1 := hat1.lt
                have hal2 := hat2.lt
                have r1 := hat1.1
                have r2 := hat2.1
                have b0 : (0 : Int) ≤ (q : Int) := by omega
                have b1 : (q : Int) < (cols.length : Int) := by omega
                have b2 : (0 : Int) ≤ (k : Int) := by omega
                have b3 : (k : Int) < (cols.length : Int) := by omega
                clear hat1 hat2
                cases hn : isN c.n cq
                · have HN := Lib.hid (HFR.out.next (by omega) hcq hn)
                  have e1 : (cq.n.toList == c.n.toList) = false := hn
                  clear hn hcq
                  go_wp2
                  go_quiet (fail)
                  go_wp2
                  go_roundw
                  case rel => exact ⟨q + 1, by omega, by go_num, HN, Lib.hid (held_drewN HBI.out)⟩
                  case measure => simp [intOf]; omega
                · have HN := Lib.hid (show schOk ⟨cols, key, uqs⟩ = false by rw [HOK2.out, colsTo_no cols k c hlt HCC.out (by rw [HFR.out.hit (by omega) hcq hn, HO.out]; simp; omega)]; rfl)
                  have e1 : (cq.n.toList == c.n.toList) = true := hn
                  clear hn hcq
                  go_wp2
                  go_quiet (fail)
                  go_wp2
                  go_ret
                  exact ⟨by rw [HN.out]; rfl, held_drewN HBX.out⟩
              · obtain rfl : q = k := by omega
                have HN := Lib.hid (show colsTo cols (q + 1) = true by rw [colsTo_succ cols q c hlt HCC.out, HCT.out, HO.out, HFR.out.hit hlt HCC.out (by unfold isN; simp)]; simp)
                go_wp2
                go_roundw
                case rel => exact ⟨q + 1, by omega, by go_num, HN, HBI⟩
                case measure => simp [intOf]; omega
        · obtain rfl : k = cols.length := by omega
          have HOK3 := Lib.hid (show schOk ⟨cols, key, uqs⟩ = (nullTo cols key key.length && uqsTo ⟨cols, key, uqs⟩ uqs.length) by rw [HOK2.out, HCT.out]; rfl)
          go_wp2_with fail
          clear m0 m1 m2 m3
          go_loopw [6] (fun j wi => ∃ q : Nat, q ≤ key.length ∧ j = .int .i64 q ∧ Hid (nullTo cols key q = true) ∧ Hid (Below W1.heap.size W1 wi)) (fun j _ => key.length - (intOf j).toNat)
          case atStart => exact ⟨0, Nat.zero_le _, rfl, Lib.hid rfl, HB⟩
          case round =>
            obtain ⟨q, hq, rfl, HNT, HBI⟩ := hrel
            obtain ⟨m0, m1, m2, m3⟩ := HX0.out _ HBI.out
            have HBX := Lib.hid (HB1.out.trans (HBI.out.mono HB1.out.size))
            by_cases hqk : q < key.length
            · obtain ⟨x, hx⟩ : ∃ x, key[q] = x := ⟨_, rfl⟩
              have hrg := setOk_range HQ.out hqk
              rw [hx] at hrg
              obtain ⟨g0, g1⟩ := hrg
              obtain ⟨m, rfl⟩ := Int.eq_ofNat_of_zero_le g0
              have hm : m < cols.length := by omega
              obtain ⟨c, hc⟩ : ∃ c, cols[m] = c := ⟨_, rfl⟩
              have hcd : cols.getD (Int.toNat (m : Int)) col0 = c := by rw [Int.toNat_natCast, List.getD_eq_getElem?_getD, List.getElem?_eq_getElem hm, hc]; rfl
              obtain ⟨a1, rfl, hat1⟩ := HC.out.keep HBX.out (Nat.le_refl _) m hm
              obtain ⟨a2, rfl, hat2⟩ := HK.out.keep HBX.out (Nat.le_refl _) q hqk
              rw [hc] at hat1
              rw [hx] at hat2
              have hal1 := hat1.lt
              have hal2 := World.block_lt_of_cell? _ _ hat2
              have r1 := hat1.2.2.2
              have b0 : (0 : Int) ≤ (q : Int) := by omega
              have b1 : (q : Int) < (key.length : Int) := by omega
              clear hat1
              cases hu : c.u
              · have HN := Lib.hid (show nullTo cols key (q + 1) = true by rw [nullTo_succ cols key q m c hqk hx hcd, HNT.out, hu]; rfl)
                rw [hu] at r1
                clear hx hc hcd
                go_wp2
                go_quiet (fail)
                go_wp2
                go_roundw
                case rel => exact ⟨q + 1, by omega, by go_num, HN, Lib.hid (held_drewN HBI.out)⟩
                case measure => simp [intOf]; omega
              · have HN := Lib.hid (show schOk ⟨cols, key, uqs⟩ = false by rw [HOK3.out, nullTo_no cols key q m c hqk hx hcd hu]; rfl)
                rw [hu] at r1
                clear hx hc hcd
                go_wp2
                go_quiet (fail)
                go_wp2
                go_ret
                exact ⟨by rw [HN.out]; rfl, held_drewN HBX.out⟩
            · obtain rfl : q = key.length := by omega
              have HOK4 := Lib.hid (show schOk ⟨cols, key, uqs⟩ = uqsTo ⟨cols, key, uqs⟩ uqs.length by rw [HOK3.out, HNT.out]; rfl)
              go_wp2_with fail
              clear m0 m1 m2 m3
              go_loopw [7] (fun j wi => ∃ q : Nat, q ≤ uqs.length ∧ j = .int .i64 q ∧ Hid (uqsTo ⟨cols, key, uqs⟩ q = true) ∧ Hid (Below W1.heap.size W1 wi)) (fun j _ => uqs.length - (intOf j).toNat)
              case atStart => exact ⟨0, Nat.zero_le _, rfl, Lib.hid rfl, HBI⟩
              case round =>
                obtain ⟨u, hu, rfl, HUT, HBU⟩ := hrel
                obtain ⟨m0, m1, m2, m3⟩ := HX0.out _ HBU.out
                have HBY := Lib.hid (HB1.out.trans (HBU.out.mono HB1.out.size))
                by_cases huk : u < uqs.length
                · obtain ⟨l, hul2⟩ : ∃ l, uqs[u] = l := ⟨_, rfl⟩
                  obtain ⟨a1, ob, cb, rfl, hat1, _, hil⟩ := HU.out.keep HBY.out (Nat.le_refl _) u huk
                  rw [hul2] at hat1 hil
                  have hal1 := World.block_lt_of_cell? _ _ hat1
                  have HRS := Lib.hid (rset_any ob cb l cols.length _ (HPL.out l (hul2 ▸ List.getElem_mem huk)) hil)
                  clear hil
                  cases hsl : setOk cols.length l
                  · have HN := Lib.hid (show schOk ⟨cols, key, uqs⟩ = false by rw [HOK4.out]; exact uqsTo_no ⟨cols, key, uqs⟩ u l huk hul2 hsl)
                    have HSL := Lib.hid hsl
                    clear hsl hul2
                    go_wp2_with (first | (go_at_call 38; refine HRS.out.mono ?_; rintro e w3 ⟨he, hb3⟩; rw [HSL.out] at he; subst he))
                    go_ret
                    exact ⟨by rw [HN.out]; rfl, HBY.out.trans (hb3.mono HBY.out.size)⟩
                  · have HN := Lib.hid (show uqsTo ⟨cols, key, uqs⟩ (u + 1) = true by rw [uqsTo_succ ⟨cols, key, uqs⟩ u l huk hul2, HUT.out]; exact hsl)
                    have HSL := Lib.hid hsl
                    clear hsl hul2
                    go_wp2_with (first | (go_at_call 38; refine HRS.out.mono ?_; rintro e w3 ⟨he, hb3⟩; rw [HSL.out] at he; subst he))
                    have HB9 := Lib.hid (HBU.out.trans (hb3.mono HBU.out.size))
                    clear hb3
                    go_roundw
                    case rel => exact ⟨u + 1, by omega, by go_num, HN, HB9⟩
                    case measure => simp [intOf]; omega
                · obtain rfl : u = uqs.length := by omega
                  have HN := Lib.hid (HOK4.out.trans HUT.out)
                  go_wp2_with fail
                  go_ret
                  exact ⟨by rw [HN.out]; rfl, HBY.out⟩
  · have HN := Lib.hid (show schOk ⟨cols, key, uqs⟩ = false by
      rw [HOK.out, show lensOk ⟨cols, key, uqs⟩ = false by
        rw [Bool.eq_false_iff]; intro h; apply hl; unfold lensOk at h; simpa [and_assoc] using h]
      rfl)
    have hdis : cols.length < 1 ∨ 8 < cols.length ∨ 3 < uqs.length := by omega
    clear hl
    go_enter Tryz.func16, Tryz.ntmps16
    go_wp2_with fail
    all_goals first
      | (exfalso; omega)
      | (go_ret; exact ⟨by rw [HN.out]; rfl, by go_grown⟩)
end Go.Proofs.YtjlhbpacecbfmaaGreatDoor
