/-
  swingbridgelaw04.CodecHolds: true.
-/
import Derived.Test.YtocmjlnhcloccaaGreatDoorCWks
import Derived.Test.YtocmjlnhcloccaaGreatDoorBelowQ
namespace Go.Proofs.YtocmjlnhcloccaaGreatDoor
open Go.RowKit

theorem fitN_nn (c : Col) (v : Vl) : 0 ≤ fitN c v ∧ fitN c v ≤ 1000 := by
  unfold fitN
  have h : 0 ≤ v.chk ∧ v.chk ≤ 3 := by
    unfold Vl.chk chk
    repeat (first | omega | split)
  repeat (first | omega | split)
theorem firstFit_nn : ∀ (cs : List Col) (vs : List Vl), 0 ≤ firstFit cs vs ∧ firstFit cs vs ≤ 1000
  | [], _ => by simp [firstFit]
  | _ :: _, [] => by simp [firstFit]
  | c :: cs, v :: vs => by
    unfold firstFit
    split
    · exact firstFit_nn cs vs
    · exact fitN_nn c v
theorem rowN_nn (S : Sch) (row : List Vl) : 0 ≤ rowN S row ∧ rowN S row ≤ 1000 := by
  unfold rowN
  have := firstFit_nn S.cols row
  repeat (first | omega | split)
theorem lists_zero : ∀ {l m : List Vl}, lists l m = 0 → l = m
  | [], [], _ => rfl
  | [], _ :: m, h => by
    unfold lists cmpI at h
    simp at h
  | _ :: l, [], h => by
    unfold lists cmpI at h
    simp at h
    omega
  | x :: l, y :: m, h => by
    unfold lists at h
    by_cases h0 : x.ord y = 0
    · rw [if_neg (by simp [h0])] at h
      rw [lists_zero h]
      have : x = y := by
        obtain ⟨k, i, u, s⟩ := x
        obtain ⟨k', i', u', s'⟩ := y
        unfold Vl.ord ord or4 at h0
        simp only at h0
        have e : ∀ a b : Int, cmpI a b = 0 → a = b := fun a b h => by unfold cmpI at h; split at h; (· cases h); (· split at h; (· cases h); (· omega))
        by_cases a1 : cmpI k k' ≠ 0
        · rw [if_pos a1] at h0; exact absurd h0 a1
        rw [if_neg a1] at h0
        by_cases a2 : cmpI i i' ≠ 0
        · rw [if_pos a2] at h0; exact absurd h0 a2
        rw [if_neg a2] at h0
        by_cases a3 : cmpI u u' ≠ 0
        · rw [if_pos a3] at h0; exact absurd h0 a3
        rw [if_neg a3] at h0
        have e1 := e _ _ (Classical.not_not.1 a1)
        have e2 := e _ _ (Classical.not_not.1 a2)
        have e3 := e _ _ (Classical.not_not.1 a3)
        subst e1 e2 e3
        unfold cmpS at h0
        split at h0
        · cases h0
        · split at h0
          · rename_i hb
            have hss : s = s' := ba_eq (by simpa using hb)
            subst hss
            rfl
          · cases h0
      rw [this]
    · rw [if_pos h0] at h; exact absurd h h0
theorem lists_same (l : List Vl) : lists l l = 0 := by
  induction l with
  | nil => simp [lists, cmpI]
  | cons x l ih =>
    unfold lists
    have : x.ord x = 0 := by
      unfold Vl.ord ord or4
      rw [cmpI_self, cmpI_self, cmpI_self]
      unfold cmpS
      rw [less_irrefl]
      simp
    rw [if_neg (by simp [this]), ih]
theorem lists_ne {l m : List Vl} (h : l ≠ m) : (lists l m == 0) = false := by
  rw [beq_eq_false_iff_ne]
  exact fun e => h (lists_zero e)
theorem str_ne {l m : List UInt8} (h : l ≠ m) : ((⟨l.toArray⟩ : ByteArray).toList == (⟨m.toArray⟩ : ByteArray).toList) = false := by
  rw [ByteArray.toList_eq, ByteArray.toList_eq, beq_eq_false_iff_ne]
  simpa using h
theorem BytesOf.some {w : World} {v : Value} {l : List UInt8} (h : BytesOf w v l) (h0 : l ≠ []) : ∃ a cap, v = .slice (some a) l.length cap ∧ l.length ≤ cap ∧ BytesAt w (.slice (some a) l.length cap) l := by
  rcases h with ⟨_, e⟩ | ⟨a, cap, rfl, hl, hc⟩
  · exact absurd e h0
  · exact ⟨a, cap, rfl, hl, _, cap, rfl, hl, fun j hj => ⟨a, rfl, hc j hj⟩⟩
theorem BytesAt.front {w : World} {a : Addr} {n cap : Nat} {l : List UInt8} (h : BytesAt w (.slice (some a) l.length cap) l) (hn : n ≤ l.length) : BytesAt w (.slice (some a) n cap) (l.take n) := by
  obtain ⟨oa, c, e, hl, hc⟩ := h
  cases e
  have hlen : (l.take n).length = n := by rw [List.length_take]; omega
  refine ⟨_, cap, by rw [hlen], by omega, fun j hj => ?_⟩
  rw [hlen] at hj
  obtain ⟨a', ha, hcell⟩ := hc j (by omega)
  exact ⟨a', ha, by rw [hcell, List.getElem_take]⟩

set_option maxRecDepth 100000 in
set_option maxHeartbeats 8000000 in
theorem lawCHolds_true (p : SchV) (S : Sch) (oa : Option Addr) (ca : Nat) (row : List Vl) (ob : Option Addr) (cb : Nat) (other : List Vl) (w : World) (hg : HasET w) (hS : SchIn w p S) (m0 : S.cols.length ≤ 9223372036854775807) (m1 : S.key.length ≤ 9223372036854775807) (m2 : S.uqs.length ≤ 9223372036854775807) (m3 : ∀ c ∈ S.cols, c.n.size ≤ 9223372036854775807) (m4 : ∀ l ∈ S.uqs, l.length ≤ 9223372036854775807)
    (hr : ValsIn w oa row) (n0 : row.length ≤ 9223372036854775807) (n1 : row.length ≤ ca) (n2 : ∀ v ∈ row, v.s.size ≤ 9223372036854775807 ∧ 0 ≤ v.u ∧ v.u < 18446744073709551616) (ho : ValsIn w ob other) (k0 : other.length ≤ 9223372036854775807) (k1 : other.length ≤ cb) (k2 : ∀ v ∈ other, v.s.size ≤ 9223372036854775807 ∧ 0 ≤ v.u ∧ v.u < 18446744073709551616) :
    Calls Tryz.prog 7 #[.agg #[.slice p.oc S.cols.length p.cc, .slice p.ok S.key.length p.ck, .slice p.ou S.uqs.length p.cu], .slice oa row.length ca, .slice ob other.length cb] w fun e w' => e = .returned (.bool true) ∧ Below w.heap.size w w' := by
  have HW : Hid (∀ W, Below w.heap.size w W → Calls Tryz.prog 10 #[] W fun e w' => e = .returned (.bool true) ∧ Below W.heap.size W w') := Lib.hid (fun W hb => cworks_true W (hg.below hb hg.lt))
  have HFW : Hid (∀ W, Below w.heap.size w W → Calls Tryz.prog 8 #[.agg #[.slice p.oc S.cols.length p.cc, .slice p.ok S.key.length p.ck, .slice p.ou S.uqs.length p.cu]] W fun e w' => e = .returned (.bool (fewOk S)) ∧ Below W.heap.size W w') := Lib.hid (fun W hb => few4_any p S W (hS.keep hb (Nat.le_refl _)) m0 m1 m2 m3 m4)
  have HS1 : Hid (∀ W, Below w.heap.size w W → Calls Tryz.prog 9 #[.slice oa row.length ca, .int .i64 12] W fun e w' => e = .returned (.bool (shortOk row 12)) ∧ W = w') := Lib.hid (fun W hb => short4_rows oa ca row W n0 (hr.keep hb (Nat.le_refl _)) (fun v hv => (n2 v hv).1))
  have HS2 : Hid (∀ W, Below w.heap.size w W → Calls Tryz.prog 9 #[.slice ob other.length cb, .int .i64 12] W fun e w' => e = .returned (.bool (shortOk other 12)) ∧ W = w') := Lib.hid (fun W hb => short4_rows ob cb other W k0 (ho.keep hb (Nat.le_refl _)) (fun v hv => (k2 v hv).1))
  cases hf : fewOk S
  · have HQ := Lib.hid hf
    clear hf hg hS m0 m1 m2 m3 m4 hr n0 n1 n2 ho k0 k1 k2
    go_enter Tryz.func7, Tryz.ntmps7
    go_wp2_with (first | (go_at_call 8; refine (HFW.out _ ((Below.refl _ _).alloc (Nat.le_refl _) _)).mono ?_; rintro e w1 ⟨he, hb1⟩; rw [HQ.out] at he; subst he; have hb := ((Below.refl w.heap.size w).alloc (Nat.le_refl _) (.cells #[.slice p.oc S.cols.length p.cc, .slice p.ok S.key.length p.ck, .slice p.ou S.uqs.length p.cu] 26)).trans (hb1.mono (by simp))) | (go_at_call 10; refine (HW.out _ hb).mono ?_; rintro e w2 ⟨rfl, hb2⟩))
    go_ret
    exact ⟨rfl, hb.trans (hb2.mono hb.size)⟩
  cases h1 : shortOk row 12
  · have HQ := Lib.hid hf
    have HQ1 := Lib.hid h1
    clear hf h1 hg hS m0 m1 m2 m3 m4 hr n0 n1 n2 ho k0 k1 k2
    go_enter Tryz.func7, Tryz.ntmps7
    go_wp2_with (first | (go_at_call 8; refine (HFW.out _ ((Below.refl _ _).alloc (Nat.le_refl _) _)).mono ?_; rintro e w1 ⟨he, hb1⟩; rw [HQ.out] at he; subst he; have hb := ((Below.refl w.heap.size w).alloc (Nat.le_refl _) (.cells #[.slice p.oc S.cols.length p.cc, .slice p.ok S.key.length p.ck, .slice p.ou S.uqs.length p.cu] 26)).trans (hb1.mono (by simp))) | (go_at_call 9; (with_reducible refine (HS1.out _ hb).mono ?_); rintro e w' ⟨he, rfl⟩; rw [HQ1.out] at he; subst he) | (go_at_call 10; refine (HW.out _ hb).mono ?_; rintro e w2 ⟨rfl, hb2⟩))
    go_ret
    exact ⟨rfl, hb.trans (hb2.mono hb.size)⟩
  cases h2 : shortOk other 12
  · have HQ := Lib.hid hf
    have HQ1 := Lib.hid h1
    have HQ2 := Lib.hid h2
    clear hf h1 h2 hg hS m0 m1 m2 m3 m4 hr n0 n1 n2 ho k0 k1 k2
    go_enter Tryz.func7, Tryz.ntmps7
    go_wp2_with (first | (go_at_call 8; refine (HFW.out _ ((Below.refl _ _).alloc (Nat.le_refl _) _)).mono ?_; rintro e w1 ⟨he, hb1⟩; rw [HQ.out] at he; subst he; have hb := ((Below.refl w.heap.size w).alloc (Nat.le_refl _) (.cells #[.slice p.oc S.cols.length p.cc, .slice p.ok S.key.length p.ck, .slice p.ou S.uqs.length p.cu] 26)).trans (hb1.mono (by simp))) | (go_at_call 9; (with_reducible refine (HS1.out _ hb).mono ?_); rintro e w' ⟨he, rfl⟩; rw [HQ1.out] at he; subst he) | (go_at_call 9; (with_reducible refine (HS2.out _ hb).mono ?_); rintro e w' ⟨he, rfl⟩; rw [HQ2.out] at he; subst he) | (go_at_call 10; refine (HW.out _ hb).mono ?_; rintro e w2 ⟨rfl, hb2⟩))
    go_ret
    exact ⟨rfl, hb.trans (hb2.mono hb.size)⟩
  have hfs := fewOk_spec hf
  have hs1 := shortOk_spec h1
  have hs2 := shortOk_spec h2
  have HE1 := Lib.hid (fun W (hb : Below w.heap.size w W) => Encode_any p S oa ca row W (hg.below hb hg.lt) m3 (by have := hfs.cols; omega) hfs.uqs (hS.keep hb (Nat.le_refl _)) (by have := hs1.1; omega) (hr.keep hb (Nat.le_refl _)) hs1.2 (fun v hv => (n2 v hv).2))
  have HE2 := Lib.hid (fun W (hb : Below w.heap.size w W) => Encode_any p S ob cb other W (hg.below hb hg.lt) m3 (by have := hfs.cols; omega) hfs.uqs (hS.keep hb (Nat.le_refl _)) (by have := hs2.1; omega) (ho.keep hb (Nat.le_refl _)) hs2.2 (fun v hv => (k2 v hv).2))
  have hrn := rowN_nn S row
  have hon := rowN_nn S other
  have HQ := Lib.hid hf
  have HQ1 := Lib.hid h1
  have HQ2 := Lib.hid h2
  have HR := Lib.hid hr
  have HO := Lib.hid ho
  have hrl : row.length ≤ 12 := hs1.1
  have hol : other.length ≤ 12 := hs2.1
  by_cases hz : rowN S row = 0 ∧ rowN S other = 0
  · obtain ⟨z1, z2⟩ := hz
    obtain ⟨hok, fit1⟩ := rowN_fit (fun v hv => (n2 v hv).2.1) z1
    obtain ⟨_, fit2⟩ := rowN_fit (fun v hv => (k2 v hv).2.1) z2
    have hlen := schOk_len hok
    have hl1 := fitAll_len fit1
    have hl2 := fitAll_len fit2
    have t1 : encL S row = rowB S.cols row := by unfold encL; rw [if_pos z1]
    have t2 : encL S other = rowB S.cols other := by unfold encL; rw [if_pos z2]
    have hlo : ∀ vs, FitAll S.cols vs → (rowB S.cols vs) ≠ [] := fun vs hfit e => by
      have h1 := readRow_rowB S.cols vs [] hfit
      rw [List.append_nil] at h1
      have h2 := (rowB_readRow S.cols _ vs _ (cols_sz hok) h1).2.1
      have h3 : S.cols.length ≤ 0 := by rw [e] at h2; exact h2
      omega
    have ne1 := hlo row fit1
    have ne2 := hlo other fit2
    have HPRE := Lib.hid (fun m (e : rowB S.cols other = rowB S.cols row ++ m) => rowB_pre fit1 fit2 e)
    obtain ⟨ar, ear, har⟩ := hr 0 (by omega)
    obtain ⟨ao, eao, hao⟩ := ho 0 (by omega)
    clear har hao
    subst ear eao
    have HSM : Hid (∀ W, Below w.heap.size w W → Calls Tryz.prog 17 #[.slice (some ar) row.length ca, .slice (some ao) other.length cb] W fun e w' => e = .returned (.bool (lists row other == 0)) ∧ Below W.heap.size W w') := Lib.hid (fun W hb => rSame_any _ _ row other W ((HR.out.keep hb (Nat.le_refl _)).sl n1) ((HO.out.keep hb (Nat.le_refl _)).sl k1) n0 k0)
    unfold EncPost at HE1 HE2
    rw [z1, t1] at HE1
    rw [z2, t2] at HE2
    clear hfs hs1 hs2 fit1 fit2 hl1 hl2 hlo
    generalize hA : rowB S.cols row = A at *
    generalize hB : rowB S.cols other = B at *
    clear z1 z2 hok hlen t1 t2 hrn hon hf h1 h2 hg hS m0 m1 m2 m3 m4 n0 n1 n2 k0 k1 k2
    have HNA := Lib.hid ne1
    have HNB := Lib.hid ne2
    have HDIS : row = other ∧ A = B ∨ row ≠ other ∧ A ≠ B := by
      by_cases e : row = other
      · exact .inl ⟨e, by rw [← hA, ← hB, e]⟩
      · exact .inr ⟨e, fun e' => e (HPRE.out [] (by rw [List.append_nil]; exact e'.symm))⟩
    clear hA hB ne1 ne2
    go_enter Tryz.func7, Tryz.ntmps7
    go_wp2_with (first | (go_at_call 8; refine (HFW.out _ ((Below.refl _ _).alloc (Nat.le_refl _) _)).mono ?_; rintro e w1 ⟨he, hb1⟩; rw [HQ.out] at he; subst he; have hb := ((Below.refl w.heap.size w).alloc (Nat.le_refl _) (.cells #[.slice p.oc S.cols.length p.cc, .slice p.ok S.key.length p.ck, .slice p.ou S.uqs.length p.cu] 26)).trans (hb1.mono (by simp)); have x0 : w1.cell? ⟨w.heap.size, 0, none⟩ = some (.slice p.oc S.cols.length p.cc) := cell_old (by simp [go_sem]) hb1; have x1 : w1.cell? ⟨w.heap.size, 1, none⟩ = some (.slice p.ok S.key.length p.ck) := cell_old (by simp [go_sem]) hb1; have x2 : w1.cell? ⟨w.heap.size, 2, none⟩ = some (.slice p.ou S.uqs.length p.cu) := cell_old (by simp [go_sem]) hb1) | (go_at_call 9; (with_reducible refine (HS1.out _ hb).mono ?_); rintro e w' ⟨he, rfl⟩; rw [HQ1.out] at he; subst he) | (go_at_call 9; (with_reducible refine (HS2.out _ hb).mono ?_); rintro e w' ⟨he, rfl⟩; rw [HQ2.out] at he; subst he))
    refine (HE1.out _ hb).mono ?_
    rintro e w2 ⟨va, rfl, hva, hb2⟩
    obtain ⟨aa, cpa, rfl, hca, hba⟩ := hva.some HNA.out
    have HB2 := Lib.hid (hb.trans (hb2.mono hb.size))
    have x0 : w2.cell? ⟨w.heap.size, 0, none⟩ = some (.slice p.oc S.cols.length p.cc) := cell_old x0 hb2
    have x1 : w2.cell? ⟨w.heap.size, 1, none⟩ = some (.slice p.ok S.key.length p.ck) := cell_old x1 hb2
    have x2 : w2.cell? ⟨w.heap.size, 2, none⟩ = some (.slice p.ou S.uqs.length p.cu) := cell_old x2 hb2
    have HBA := Lib.hid hba
    clear hva hb2 hba hb1 hb
    go_wp2_with fail
    refine (HE2.out _ HB2.out).mono ?_
    rintro e w3 ⟨vb, rfl, hvb, hb3⟩
    obtain ⟨ab, cpb, rfl, hcb, hbb⟩ := hvb.some HNB.out
    have HB3 := Lib.hid (HB2.out.trans (hb3.mono HB2.out.size))
    have HBA3 := Lib.hid (HBA.out.keep hb3 (Nat.le_refl _))
    have HBB := Lib.hid hbb
    clear hvb hb3 hbb x0 x1 x2
    go_wp2_with (first | (go_at_call 15; refine (l4num_any _ _).mono ?_; rintro e w' ⟨rfl, rfl⟩))
    refine (HSM.out _ HB3.out).mono ?_
    rintro e w4 ⟨rfl, hb4⟩
    have HB4 := Lib.hid (HB3.out.trans (hb4.mono HB3.out.size))
    have hA4 := HBA3.out.keep hb4 (Nat.le_refl _)
    have hB4 := HBB.out.keep hb4 (Nat.le_refl _)
    clear hb4
    have hca2 : (A.length : Int) ≤ (cpa : Int) := by omega
    have hcb2 : (B.length : Int) ≤ (cpb : Int) := by omega
    rcases HDIS with ⟨rfl, rfl⟩ | ⟨hne, hnab⟩
    · have cA : ∀ q : Later w4, (convert 31 9 (.slice (some aa) A.length cpa)).run Tryz.prog q.W = .ok (.string ⟨A.toArray⟩) q.W := fun q => bytes_string (hA4.keep q.h (Nat.le_refl _))
      have cB : ∀ q : Later w4, (convert 31 9 (.slice (some ab) A.length cpb)).run Tryz.prog q.W = .ok (.string ⟨A.toArray⟩) q.W := fun q => bytes_string (hB4.keep q.h (Nat.le_refl _))
      generalize (⟨A.toArray⟩ : ByteArray) = sA at cA cB
      rw [lists_same]
      have HAB : (sA.toList == sA.toList) = true := by simp
      clear hA4 hB4
      go_wp2_with fail
      refine wp_region_later (by kernel_rfl) (by kernel_rfl) ?_
      repeat (go_big_quiet_step ((first | (go_at_call 10; exact Calls.later (HW.out _ (HB4.out.trans ((Later.h _).mono HB4.out.size)))))))
      refine wpQuiet_nil ?_
      rintro w9 ⟨⟨W9, hb9⟩, rfl⟩
      go_wp2_with fail
      go_ret
      exact ⟨rfl, HB4.out.trans (hb9.mono HB4.out.size)⟩
    · have cA : ∀ q : Later w4, (convert 31 9 (.slice (some aa) A.length cpa)).run Tryz.prog q.W = .ok (.string ⟨A.toArray⟩) q.W := fun q => bytes_string (hA4.keep q.h (Nat.le_refl _))
      have cB : ∀ q : Later w4, (convert 31 9 (.slice (some ab) B.length cpb)).run Tryz.prog q.W = .ok (.string ⟨B.toArray⟩) q.W := fun q => bytes_string (hB4.keep q.h (Nat.le_refl _))
      have hab := str_ne hnab
      rw [lists_ne hne]
      by_cases hlen : B.length < A.length
      · have hgt : decide (B.length < A.length) = true := by simpa using hlen
        generalize (⟨A.toArray⟩ : ByteArray) = sA at cA hab
        generalize (⟨B.toArray⟩ : ByteArray) = sB at cB hab
        clear hA4 hB4 hne hnab
        go_wp2_with fail
        refine wp_region_later (by kernel_rfl) (by kernel_rfl) ?_
        repeat (go_big_quiet_step ((first | (go_at_call 10; exact Calls.later (HW.out _ (HB4.out.trans ((Later.h _).mono HB4.out.size)))))))
        refine wpQuiet_nil ?_
        rintro w9 ⟨⟨W9, hb9⟩, rfl⟩
        go_wp2_with fail
        go_ret
        exact ⟨rfl, HB4.out.trans (hb9.mono HB4.out.size)⟩
      · have hgt : decide (B.length < A.length) = false := by simpa using hlen
        have cT : ∀ q : Later w4, (convert 31 9 (.slice (some ab) A.length cpb)).run Tryz.prog q.W = .ok (.string ⟨(B.take A.length).toArray⟩) q.W := fun q => bytes_string ((hB4.front (by omega)).keep q.h (Nat.le_refl _))
        have hat : ((⟨(B.take A.length).toArray⟩ : ByteArray).toList == (⟨A.toArray⟩ : ByteArray).toList) = false := str_ne (fun e => hne (HPRE.out (B.drop A.length) (by have := List.take_append_drop A.length B; rw [e] at this; exact this.symm)))
        have hat2 : ((⟨(B.take A.length).toArray⟩ : ByteArray).toList != (⟨A.toArray⟩ : ByteArray).toList) = true := by rw [bne, hat]; rfl
        have b0 : (0 : Int) ≤ (A.length : Int) := by omega
        have b1 : (A.length : Int) ≤ (cpb : Int) := by omega
        generalize (⟨A.toArray⟩ : ByteArray) = sA at cA hab hat hat2
        generalize (⟨B.toArray⟩ : ByteArray) = sB at cB hab
        generalize (⟨(B.take A.length).toArray⟩ : ByteArray) = sT at cT hat hat2
        clear hA4 hB4 hne hnab
        go_wp2_with fail
        refine wp_region_later (by kernel_rfl) (by kernel_rfl) ?_
        repeat (go_big_quiet_step ((first | (go_at_call 10; exact Calls.later (HW.out _ (HB4.out.trans ((Later.h _).mono HB4.out.size)))))))
        refine wpQuiet_nil ?_
        rintro w9 ⟨⟨W9, hb9⟩, rfl⟩
        go_wp2_with fail
        go_ret
        exact ⟨rfl, HB4.out.trans (hb9.mono HB4.out.size)⟩
  · have hnz : ((rowN S row + rowN S other) != 0) = true := by rw [bne_iff_ne]; omega
    have hsum : 0 ≤ rowN S row + rowN S other := by omega
    have hsum2 : rowN S row + rowN S other ≤ 2000 := by omega
    clear hg hS m0 m1 m2 m3 m4 hr n0 n1 n2 ho k0 k1 k2 hf h1 h2 hfs hs1 hs2 hz
    unfold EncPost at HE1 HE2
    generalize rowN S row = r1 at *
    generalize rowN S other = r2 at *
    go_enter Tryz.func7, Tryz.ntmps7
    go_wp2_with (first | (go_at_call 8; refine (HFW.out _ ((Below.refl _ _).alloc (Nat.le_refl _) _)).mono ?_; rintro e w1 ⟨he, hb1⟩; rw [HQ.out] at he; subst he; have hb := ((Below.refl w.heap.size w).alloc (Nat.le_refl _) (.cells #[.slice p.oc S.cols.length p.cc, .slice p.ok S.key.length p.ck, .slice p.ou S.uqs.length p.cu] 26)).trans (hb1.mono (by simp)); have x0 : w1.cell? ⟨w.heap.size, 0, none⟩ = some (.slice p.oc S.cols.length p.cc) := cell_old (by simp [go_sem]) hb1; have x1 : w1.cell? ⟨w.heap.size, 1, none⟩ = some (.slice p.ok S.key.length p.ck) := cell_old (by simp [go_sem]) hb1; have x2 : w1.cell? ⟨w.heap.size, 2, none⟩ = some (.slice p.ou S.uqs.length p.cu) := cell_old (by simp [go_sem]) hb1) | (go_at_call 9; (with_reducible refine (HS1.out _ hb).mono ?_); rintro e w' ⟨he, rfl⟩; rw [HQ1.out] at he; subst he) | (go_at_call 9; (with_reducible refine (HS2.out _ hb).mono ?_); rintro e w' ⟨he, rfl⟩; rw [HQ2.out] at he; subst he))
    refine (HE1.out _ hb).mono ?_
    rintro e w2 ⟨va, rfl, hva, hb2⟩
    have HB2 := Lib.hid (hb.trans (hb2.mono hb.size))
    have x0 : w2.cell? ⟨w.heap.size, 0, none⟩ = some (.slice p.oc S.cols.length p.cc) := cell_old x0 hb2
    have x1 : w2.cell? ⟨w.heap.size, 1, none⟩ = some (.slice p.ok S.key.length p.ck) := cell_old x1 hb2
    have x2 : w2.cell? ⟨w.heap.size, 2, none⟩ = some (.slice p.ou S.uqs.length p.cu) := cell_old x2 hb2
    clear hva hb2 hb1 hb
    go_wp2_with fail
    refine (HE2.out _ HB2.out).mono ?_
    rintro e w3 ⟨vb, rfl, hvb, hb3⟩
    have HB3 := Lib.hid (HB2.out.trans (hb3.mono HB2.out.size))
    clear hvb hb3 x0 x1 x2
    go_wp2_with (first | (go_at_call 15; refine (l4num_any _ _).mono ?_; rintro e w' ⟨rfl, rfl⟩) | (go_at_call 10; refine (HW.out _ HB3.out).mono ?_; rintro e w4 ⟨rfl, hb4⟩))
    go_ret
    exact ⟨rfl, HB3.out.trans (hb4.mono HB3.out.size)⟩
end Go.Proofs.YtocmjlnhcloccaaGreatDoor
