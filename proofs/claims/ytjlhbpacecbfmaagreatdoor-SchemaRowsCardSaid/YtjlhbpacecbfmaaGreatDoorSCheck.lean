/-
  schema's look.check: whether a schema may be: 'schOk'; schema.lookAt, schema.Check.
-/
import Derived.Test.YtjlhbpacecbfmaaGreatDoorSCs
import Derived.Test.YtjlhbpacecbfmaaGreatDoorSFits
namespace Go.Proofs.YtjlhbpacecbfmaaGreatDoor
open Go.RowKit

def dupC (l : List Col) (i : Nat) : Bool := decide (firstC l (l.getD i col0).n < i)
def colsTo (l : List Col) (k : Nat) : Bool := (List.range k).all fun i => colOk (l.getD i col0) && !dupC l i
/-- may a schema be? -/
def schOk (S : Sch) : Bool := (decide (1 ≤ S.cols.length) && (decide (S.cols.length ≤ 8) && decide (S.uqs.length ≤ 3))) && (colsTo S.cols S.cols.length && setsTo S (1 + S.uqs.length))
theorem colsTo_succ (l : List Col) (k : Nat) (c : Col) (hk : k < l.length) (hc : l[k] = c) : colsTo l (k + 1) = (colsTo l k && (colOk c && !decide (firstC l c.n < k))) := by
  unfold colsTo
  rw [List.range_succ, List.all_append]
  have e : l.getD k col0 = c := by rw [List.getD_eq_getElem?_getD, List.getElem?_eq_getElem hk, hc]; rfl
  simp only [List.all_cons, List.all_nil, Bool.and_true]
  unfold dupC
  rw [e]
theorem colsTo_no (l : List Col) (k : Nat) (c : Col) (hk : k < l.length) (hc : l[k] = c) (h : (colOk c && !decide (firstC l c.n < k)) = false) : colsTo l l.length = false := by
  have : colsTo l (k + 1) = false := by rw [colsTo_succ l k c hk hc, h, Bool.and_false]
  unfold colsTo at *
  rw [List.all_eq_false] at *
  obtain ⟨x, hx, hp⟩ := this
  exact ⟨x, by rw [List.mem_range] at *; omega, hp⟩
theorem schOk_no {S : Sch} (h : colsTo S.cols S.cols.length = false) : schOk S = false := by unfold schOk; rw [h]; simp

set_option maxRecDepth 100000 in
set_option maxHeartbeats 4000000 in
theorem lcheck_any (p : SchV) (S : Sch) (r : Nat) (w : World) (hm : w.heap[r]? = some (.map mapTypes 4)) (hnm : ∀ c ∈ S.cols, c.n.size ≤ 9223372036854775807) (hcl : S.cols.length ≤ 1000) (hul : S.uqs.length ≤ 6) (hS : SchIn w p S) :
    Calls Tryz.prog 33 #[.agg #[.slice p.oc S.cols.length p.cc, .slice p.ok S.key.length p.ck, .slice p.ou S.uqs.length p.cu, .map (some r)]] w fun e w' =>
      (schOk S = true ∧ e = .returned .nilIface ∧ Below w.heap.size w w') ∨ (schOk S = false ∧ IsMis 2 w e w') := by
  by_cases hlen : 1 ≤ S.cols.length ∧ S.cols.length ≤ 8 ∧ S.uqs.length ≤ 3
  · obtain ⟨l1, l2, l3⟩ := hlen
    have HOKF := Lib.hid (show schOk S = (colsTo S.cols S.cols.length && setsTo S (1 + S.uqs.length)) by unfold schOk; simp [l1, l2, l3])
    have HM := Lib.hid hm
    obtain ⟨oc, cc, ok, ck, ou, cu⟩ := p
    have HC := Lib.hid hS.cols
    simp only at HC ⊢
    have HNM := Lib.hid hnm
    have HS := Lib.hid hS
    clear hm hnm hS
    go_enter Tryz.func33, Tryz.ntmps33
    go_wp2
    obtain ⟨W1, hW1⟩ : ∃ W1, w.alloc (.cells #[.slice oc S.cols.length cc, .slice ok S.key.length ck, .slice ou S.uqs.length cu, .map (some r)] 68) = W1 := ⟨_, rfl⟩
    have hb1 : Below w.heap.size w W1 := by rw [← hW1]; exact (Below.refl _ _).alloc (Nat.le_refl _) _
    have hs1 : W1.heap.size = w.heap.size + 1 := by rw [← hW1]; simp
    have k0 : W1.cell? ⟨w.heap.size, 0, none⟩ = some (.slice oc S.cols.length cc) := by rw [← hW1]; simp [go_sem]
    have k1 : W1.cell? ⟨w.heap.size, 1, none⟩ = some (.slice ok S.key.length ck) := by rw [← hW1]; simp [go_sem]
    have k2 : W1.cell? ⟨w.heap.size, 2, none⟩ = some (.slice ou S.uqs.length cu) := by rw [← hW1]; simp [go_sem]
    have k3 : W1.cell? ⟨w.heap.size, 3, none⟩ = some (.map (some r)) := by rw [← hW1]; simp [go_sem]
    rw [hW1]
    have HB1 := Lib.hid hb1
    clear hW1 hb1
    go_loopw [30] (fun i wr => ∃ k : Nat, k ≤ S.cols.length ∧ i = .int .i64 k ∧ Hid (colsTo S.cols k = true) ∧ Hid (Below W1.heap.size W1 wr)) (fun i _ => S.cols.length - (intOf i).toNat)
    case atStart => exact ⟨0, Nat.zero_le _, rfl, Lib.hid rfl, Lib.hid (Below.refl _ _)⟩
    case round =>
      obtain ⟨k, hk, rfl, HK, HB⟩ := hrel
      have hsr := HB.out.size
      have hsw : w.heap.size < wr.heap.size := by omega
      have HBW := Lib.hid (HB1.out.trans (HB.out.mono HB1.out.size))
      have m0 : wr.cell? ⟨w.heap.size, 0, none⟩ = some (.slice oc S.cols.length cc) := cell_old k0 HB.out
      have m1 : wr.cell? ⟨w.heap.size, 1, none⟩ = some (.slice ok S.key.length ck) := cell_old k1 HB.out
      have m2 : wr.cell? ⟨w.heap.size, 2, none⟩ = some (.slice ou S.uqs.length cu) := cell_old k2 HB.out
      have m3 : wr.cell? ⟨w.heap.size, 3, none⟩ = some (.map (some r)) := cell_old k3 HB.out
      clear k0 k1 k2 k3
      by_cases hlt : k < S.cols.length
      · obtain ⟨a, rfl, hat⟩ := HC.out.keep HBW.out (Nat.le_refl _) k hlt
        obtain ⟨c, hc⟩ : ∃ c, S.cols[k] = c := ⟨_, rfl⟩
        rw [hc] at hat
        have hal := hat.lt
        obtain ⟨q0, q1, q2, q3⟩ := hat
        have HQ := Lib.hid (HNM.out c (hc ▸ List.getElem_mem hlt))
        have HMW := Lib.hid (heap_keep HM.out (HBW.out.alloc (by have := HBW.out.size; omega) (.cells #[.string c.n, .int .i64 c.t, .int .i64 c.z, .bool c.u] 43)))
        have HFC : Hid (∀ W', Below w.heap.size w W' → Calls Tryz.prog 31 #[.agg #[.slice (some a) S.cols.length cc, .slice ok S.key.length ck, .slice ou S.uqs.length cu, .map (some r)], .string c.n] W' fun e w' => e = .returned (.int .i64 (firstC S.cols c.n)) ∧ Below W'.heap.size W' w') := Lib.hid (fun W' hb => first_any (some a) cc S.cols ok S.key.length ck ou S.uqs.length cu (some r) c.n W' hcl (HC.out.keep hb (Nat.le_refl _)))
        have HCC := Lib.hid hc
        cases hok : colOk c
        · have HNO := Lib.hid (schOk_no (colsTo_no S.cols k c hlt hc (by rw [hok]; rfl)))
          have HOK := Lib.hid hok
          clear hok hc
          go_wp2_with (go_at_call 68; refine (Of_any _ _ _).mono ?_; rintro e w' ⟨rfl, rfl⟩)
          refine (column_bad c r _ HMW.out HQ.out HOK.out).mono ?_
          rintro e w3 ⟨b, rfl, hb, hcb, hb3⟩
          have HR := Lib.hid (show IsMis 2 w (.returned (.iface 132 (.pointer (some ⟨b, 0, none⟩)))) w3 from ⟨b, rfl, by have := HBW.out.size; simp at hb; omega, hcb, (HBW.out.alloc HBW.out.size _).trans (hb3.mono (by have := HBW.out.size; simp; omega))⟩)
          clear hb3 hcb
          go_wp2_with (go_at_call 68; refine (Of_any _ _ _).mono ?_; rintro e w' ⟨rfl, rfl⟩)
          go_ret
          exact .inr ⟨HNO.out, HR.out⟩
        · have HOK := Lib.hid hok
          by_cases hd : firstC S.cols c.n < (k : Int)
          · have HNO := Lib.hid (schOk_no (colsTo_no S.cols k c hlt hc (by rw [hok]; simp [hd])))
            generalize firstC S.cols c.n = fc at *
            clear hok hc
            go_wp2_with (go_at_call 68; refine (Of_any _ _ _).mono ?_; rintro e w' ⟨rfl, rfl⟩)
            refine (column_ok c r _ HMW.out HQ.out HOK.out).mono ?_
            rintro e w3 ⟨rfl, hb3⟩
            have HB3 := Lib.hid ((HBW.out.alloc HBW.out.size _).trans (hb3.mono (by have := HBW.out.size; simp; omega)))
            have hs3 := hb3.size
            have hsw3 : w.heap.size < w3.heap.size := by simp at hs3; omega
            have hsw4 : wr.heap.size < w3.heap.size := by simp at hs3; omega
            have n0 : w3.cell? ⟨w.heap.size, 0, none⟩ = some (.slice (some a) S.cols.length cc) := cell_old (cell_old m0 ((Below.refl _ _).alloc (Nat.le_refl _) _)) hb3
            have n1 : w3.cell? ⟨w.heap.size, 1, none⟩ = some (.slice ok S.key.length ck) := cell_old (cell_old m1 ((Below.refl _ _).alloc (Nat.le_refl _) _)) hb3
            have n2 : w3.cell? ⟨w.heap.size, 2, none⟩ = some (.slice ou S.uqs.length cu) := cell_old (cell_old m2 ((Below.refl _ _).alloc (Nat.le_refl _) _)) hb3
            have n3 : w3.cell? ⟨w.heap.size, 3, none⟩ = some (.map (some r)) := cell_old (cell_old m3 ((Below.refl _ _).alloc (Nat.le_refl _) _)) hb3
            have nc : w3.cell? ⟨wr.heap.size, 0, none⟩ = some (.string c.n) := cell_old (by simp [go_sem]) hb3
            clear hb3
            go_wp2_with (go_at_call 68; refine (Of_any _ _ _).mono ?_; rintro e w' ⟨rfl, rfl⟩)
            refine (HFC.out _ HB3.out).mono ?_
            rintro e w4 ⟨rfl, hb4⟩
            have HB4 := Lib.hid (HB3.out.trans (hb4.mono HB3.out.size))
            clear hb4
            go_wp2_with (go_at_call 68; refine (Of_any _ _ _).mono ?_; rintro e w' ⟨rfl, rfl⟩)
            refine (refuse_any _ _).mono ?_
            rintro e w5 ⟨b, rfl, hb, hcb, hb5⟩
            have HR := Lib.hid (show IsMis 2 w (.returned (.iface 132 (.pointer (some ⟨b, 0, none⟩)))) w5 from ⟨b, rfl, by have := HB4.out.size; omega, hcb, HB4.out.trans (hb5.mono HB4.out.size)⟩)
            clear hb5 hcb
            go_wp2_with (go_at_call 68; refine (Of_any _ _ _).mono ?_; rintro e w' ⟨rfl, rfl⟩)
            go_ret
            exact .inr ⟨HNO.out, HR.out⟩
          · have HNX := Lib.hid (show colsTo S.cols (k + 1) = true by rw [colsTo_succ S.cols k c hlt hc, HK.out, hok]; simp; omega)
            generalize firstC S.cols c.n = fc at *
            clear hok hc
            go_wp2_with (go_at_call 68; refine (Of_any _ _ _).mono ?_; rintro e w' ⟨rfl, rfl⟩)
            refine (column_ok c r _ HMW.out HQ.out HOK.out).mono ?_
            rintro e w3 ⟨rfl, hb3⟩
            have HB3 := Lib.hid ((HBW.out.alloc HBW.out.size _).trans (hb3.mono (by have := HBW.out.size; simp; omega)))
            have HB13 := Lib.hid ((HB.out.alloc HB.out.size _).trans (hb3.mono (by have := HB.out.size; simp; omega)))
            have hs3 := hb3.size
            have hsw3 : w.heap.size < w3.heap.size := by simp at hs3; omega
            have hsw4 : wr.heap.size < w3.heap.size := by simp at hs3; omega
            have n0 : w3.cell? ⟨w.heap.size, 0, none⟩ = some (.slice (some a) S.cols.length cc) := cell_old (cell_old m0 ((Below.refl _ _).alloc (Nat.le_refl _) _)) hb3
            have n1 : w3.cell? ⟨w.heap.size, 1, none⟩ = some (.slice ok S.key.length ck) := cell_old (cell_old m1 ((Below.refl _ _).alloc (Nat.le_refl _) _)) hb3
            have n2 : w3.cell? ⟨w.heap.size, 2, none⟩ = some (.slice ou S.uqs.length cu) := cell_old (cell_old m2 ((Below.refl _ _).alloc (Nat.le_refl _) _)) hb3
            have n3 : w3.cell? ⟨w.heap.size, 3, none⟩ = some (.map (some r)) := cell_old (cell_old m3 ((Below.refl _ _).alloc (Nat.le_refl _) _)) hb3
            have nc : w3.cell? ⟨wr.heap.size, 0, none⟩ = some (.string c.n) := cell_old (by simp [go_sem]) hb3
            clear hb3
            go_wp2_with (go_at_call 68; refine (Of_any _ _ _).mono ?_; rintro e w' ⟨rfl, rfl⟩)
            refine (HFC.out _ HB3.out).mono ?_
            rintro e w4 ⟨rfl, hb4⟩
            have HB14 := Lib.hid (HB13.out.trans (hb4.mono HB13.out.size))
            clear hb4
            go_wp2_with (go_at_call 68; refine (Of_any _ _ _).mono ?_; rintro e w' ⟨rfl, rfl⟩)
            go_roundw
            case rel => exact ⟨k + 1, by omega, by go_num, HNX, HB14⟩
            case measure => simp [intOf]; omega
      · obtain rfl : k = S.cols.length := by omega
        have HCS := Lib.hid (checkSets_any ⟨oc, cc, ok, ck, ou, cu⟩ S (some r) wr hul hcl (HS.out.keep HBW.out (Nat.le_refl _)))
        have HFI := Lib.hid (show schOk S = setsTo S (1 + S.uqs.length) by rw [HOKF.out, HK.out, Bool.true_and])
        clear HFI HOKF
        have HFI : Hid (schOk S = setsTo S (1 + S.uqs.length)) := Lib.hid (by unfold schOk; rw [HK.out]; simp [l1, l2, l3])
        go_wp2_with (go_at_call 68; refine (Of_any _ _ _).mono ?_; rintro e w' ⟨rfl, rfl⟩)
        refine HCS.out.mono ?_
        rintro e w3 (⟨hg, rfl, hb3⟩ | ⟨hg, b, rfl, hb, hcb, hb3⟩)
        · have HR := Lib.hid (show schOk S = true ∧ Below w.heap.size w w3 from ⟨by rw [HFI.out]; exact hg, HBW.out.trans (hb3.mono HBW.out.size)⟩)
          clear hg hb3
          go_wp2_with (go_at_call 68; refine (Of_any _ _ _).mono ?_; rintro e w' ⟨rfl, rfl⟩)
          go_ret
          exact .inl ⟨HR.out.1, rfl, HR.out.2⟩
        · have HR := Lib.hid (show schOk S = false ∧ IsMis 2 w (.returned (.iface 132 (.pointer (some ⟨b, 0, none⟩)))) w3 from ⟨by rw [HFI.out]; exact hg, b, rfl, by have := HBW.out.size; omega, hcb, HBW.out.trans (hb3.mono HBW.out.size)⟩)
          clear hg hb3 hcb
          go_wp2_with (go_at_call 68; refine (Of_any _ _ _).mono ?_; rintro e w' ⟨rfl, rfl⟩)
          go_ret
          exact .inr HR.out
  · have HNO := Lib.hid (show schOk S = false by
      unfold schOk
      rw [show (decide (1 ≤ S.cols.length) && (decide (S.cols.length ≤ 8) && decide (S.uqs.length ≤ 3))) = false by
        rw [Bool.eq_false_iff]; intro h; apply hlen; simpa [and_assoc] using h]
      rfl)
    have hdis : S.cols.length < 1 ∨ 8 < S.cols.length ∨ 3 < S.uqs.length := by omega
    clear hlen hm hnm hS
    go_enter Tryz.func33, Tryz.ntmps33
    go_wp2_with (first | (go_at_call 68; refine (Of_any _ _ _).mono ?_; rintro e w' ⟨rfl, rfl⟩) | (go_at_call 56; refine (refuse_any _ _).mono ?_; rintro e w5 ⟨b, rfl, hb, hcb, hb5⟩))
    all_goals first
      | (exfalso; omega)
      | (go_ret; exact .inr ⟨HNO.out, b, rfl, by simp at hb; omega, hcb, ((Below.refl _ _).alloc (Nat.le_refl _) _).trans (hb5.mono (by simp))⟩)
end Go.Proofs.YtjlhbpacecbfmaaGreatDoor
