/-
  swingbridgelaw04.CodecReads: true.
-/
import Derived.Test.YtocmjlnhcloccaaGreatDoorCRVl
import Derived.Test.YtocmjlnhcloccaaGreatDoorCLawHolds
namespace Go.Proofs.YtocmjlnhcloccaaGreatDoor
open Go.RowKit

theorem fit_bd {c : Col} {v : Vl} (hz : szOk c.t c.z = true) (h : fitN c v = 0) : v.s.size ≤ 300 ∧ v.u < 18446744073709551616 := by
  obtain ⟨n, t, z, u⟩ := c
  simp only at hz
  rcases fit_forms h with ⟨rfl, _⟩ | ⟨i, rfl, _⟩ | ⟨i, rfl, e, b1⟩ | ⟨i, rfl, _⟩ | ⟨s, rfl, _, _, b1⟩
  · exact ⟨by decide, by decide⟩
  · exact ⟨by simp [ByteArray.size], by simp⟩
  · simp only at e b1
    subst e
    refine ⟨by simp [ByteArray.size], ?_⟩
    rcases sz_num hz (.inr rfl) with rfl | rfl | rfl | rfl <;> simp [mostU] at b1 ⊢ <;> omega
  · exact ⟨by simp [ByteArray.size], by simp⟩
  · exact ⟨by simp only; omega, by simp⟩
theorem fitAll_bd : ∀ {cs : List Col} {vs : List Vl}, FitAll cs vs → ∀ v ∈ vs, v.s.size ≤ 300 ∧ 0 ≤ v.u ∧ v.u < 18446744073709551616
  | [], [], _, v, h => by cases h
  | [], _ :: _, h, _, _ => h.elim
  | _ :: _, [], h, _, _ => h.elim
  | c :: cs, x :: vs, h, v, hv => by
    rcases List.mem_cons.1 hv with rfl | hv
    · have := fit_bd h.1 h.2.1
      exact ⟨this.1, h.2.2.1, this.2⟩
    · exact fitAll_bd h.2.2.2 v hv
theorem decE_zero {S : Sch} {l : List UInt8} (h : decE S l = 0) : schOk S = true ∧ FitAll S.cols (decL S l) ∧ rowB S.cols (decL S l) = l := by
  unfold decE at h
  by_cases hs : schOk S = true
  · rw [if_pos hs] at h
    unfold decL
    rw [if_pos hs]
    cases hd : decR S l with
    | none => rw [hd] at h; cases h
    | some x =>
      obtain ⟨vs, k⟩ := x
      unfold decR wholeO at hd
      cases hr : readRow S.cols l with
      | none => rw [hr] at hd; cases hd
      | some y =>
        obtain ⟨ws, j⟩ := y
        rw [hr] at hd
        simp only at hd
        split at hd
        · rename_i hj
          simp only [Option.some.injEq, Prod.mk.injEq] at hd
          obtain ⟨rfl, rfl⟩ := hd
          obtain ⟨a1, _, _, a4⟩ := rowB_readRow S.cols l ws j (cols_sz hs) hr
          refine ⟨hs, a1, ?_⟩
          rw [← a4, List.take_of_length_le (by omega)]
        · cases hd
  · rw [if_neg hs] at h; cases h
theorem decE_no {S : Sch} {l : List UInt8} (h : decE S l ≠ 0) : decL S l = [] := by
  unfold decE at h
  unfold decL
  by_cases hs : schOk S = true
  · rw [if_pos hs] at h ⊢
    cases hd : decR S l with
    | none => rfl
    | some x => rw [hd] at h; exact absurd rfl h
  · rw [if_neg hs]
theorem SliceOf.some {w : World} {v : Value} {l : List Vl} (h : SliceOf w v l) (h0 : l ≠ []) : ∃ a cap, v = .slice (some a) l.length cap ∧ l.length ≤ cap ∧ ValsIn w (some a) l := by
  rcases h with ⟨_, e⟩ | ⟨a, cap, e, hc, hv⟩
  · exact absurd e h0
  · exact ⟨a, cap, e, hc, fun j hj => ⟨a, rfl, hv j hj⟩⟩

set_option maxRecDepth 100000 in
set_option maxHeartbeats 8000000 in
theorem lawCReads_true (p : SchV) (S : Sch) (oa : Option Addr) (ca : Nat) (bl : List UInt8) (w : World) (hg : HasET w) (hS : SchIn w p S) (m0 : S.cols.length ≤ 9223372036854775807) (m1 : S.key.length ≤ 9223372036854775807) (m2 : S.uqs.length ≤ 9223372036854775807) (m3 : ∀ c ∈ S.cols, c.n.size ≤ 9223372036854775807) (m4 : ∀ l ∈ S.uqs, l.length ≤ 9223372036854775807)
    (hb : BytesAt w (.slice oa bl.length ca) bl) (n0 : bl.length ≤ 9223372036854775807) :
    Calls Tryz.prog 4 #[.agg #[.slice p.oc S.cols.length p.cc, .slice p.ok S.key.length p.ck, .slice p.ou S.uqs.length p.cu], .slice oa bl.length ca] w fun e w' => e = .returned (.bool true) ∧ Below w.heap.size w w' := by
  have HW : Hid (∀ W, Below w.heap.size w W → Calls Tryz.prog 10 #[] W fun e w' => e = .returned (.bool true) ∧ Below W.heap.size W w') := Lib.hid (fun W hb => cworks_true W (hg.below hb hg.lt))
  have HFW : Hid (∀ W, Below w.heap.size w W → Calls Tryz.prog 8 #[.agg #[.slice p.oc S.cols.length p.cc, .slice p.ok S.key.length p.ck, .slice p.ou S.uqs.length p.cu]] W fun e w' => e = .returned (.bool (fewOk S)) ∧ Below W.heap.size W w') := Lib.hid (fun W hb => few4_any p S W (hS.keep hb (Nat.le_refl _)) m0 m1 m2 m3 m4)
  cases hf : fewOk S
  · have HQ := Lib.hid hf
    clear hf hg hS m0 m1 m2 m3 m4 hb
    go_enter Tryz.func4, Tryz.ntmps4
    go_wp2_with (first | (go_at_call 8; refine (HFW.out _ ((Below.refl _ _).alloc (Nat.le_refl _) _)).mono ?_; rintro e w1 ⟨he, hb1⟩; rw [HQ.out] at he; subst he; have hb := ((Below.refl w.heap.size w).alloc (Nat.le_refl _) (.cells #[.slice p.oc S.cols.length p.cc, .slice p.ok S.key.length p.ck, .slice p.ou S.uqs.length p.cu] 26)).trans (hb1.mono (by simp))) | (go_at_call 10; refine (HW.out _ hb).mono ?_; rintro e w2 ⟨rfl, hb2⟩))
    go_ret
    exact ⟨rfl, hb.trans (hb2.mono hb.size)⟩
  by_cases h2 : 2000 < bl.length
  · have HQ := Lib.hid hf
    clear hf hg hS m0 m1 m2 m3 m4 hb
    go_enter Tryz.func4, Tryz.ntmps4
    go_wp2_with (first | (go_at_call 8; refine (HFW.out _ ((Below.refl _ _).alloc (Nat.le_refl _) _)).mono ?_; rintro e w1 ⟨he, hb1⟩; rw [HQ.out] at he; subst he; have hb := ((Below.refl w.heap.size w).alloc (Nat.le_refl _) (.cells #[.slice p.oc S.cols.length p.cc, .slice p.ok S.key.length p.ck, .slice p.ou S.uqs.length p.cu] 26)).trans (hb1.mono (by simp))) | (go_at_call 10; refine (HW.out _ hb).mono ?_; rintro e w2 ⟨rfl, hb2⟩))
    go_ret
    exact ⟨rfl, hb.trans (hb2.mono hb.size)⟩
  have hfs := fewOk_spec hf
  have hcl : S.cols.length ≤ 1000 := by have := hfs.cols; omega
  have HD1 := Lib.hid (fun W (hW : Below w.heap.size w W) => Decode_any p S oa ca bl W (hg.below hW hg.lt) m3 hcl hfs.uqs (hS.keep hW (Nat.le_refl _)) (hb.keep hW (Nat.le_refl _)) (by omega))
  have HD2 := Lib.hid (fun W (hW : Below w.heap.size w W) => rDecode_any p S oa ca bl W m3 hcl (by have := hfs.uqs; omega) (by have := hfs.key; omega) (fun l hl => by have := hfs.places l hl; omega) (hS.keep hW (Nat.le_refl _)) (hb.keep hW (Nat.le_refl _)) (by omega))
  have HE := Lib.hid (fun W ob cap row (hW : Below w.heap.size w W) (h1 : row.length ≤ 1000) (hv : ValsIn W ob row) (h3 : ∀ v ∈ row, v.s.size ≤ 300) (h4 : ∀ v ∈ row, 0 ≤ v.u ∧ v.u < 18446744073709551616) => Encode_any p S ob cap row W (hg.below hW hg.lt) m3 hcl hfs.uqs (hS.keep hW (Nat.le_refl _)) h1 hv h3 h4)
  have HBB := Lib.hid (fun W (hW : Below w.heap.size w W) => bytes_string (hb.keep hW (Nat.le_refl _)))
  have HQ := Lib.hid hf
  have hl2 : bl.length ≤ 2000 := by omega
  have hn1 : (decE S bl != decE S bl) = false := by simp
  by_cases hz : decE S bl = 0
  · obtain ⟨hok, hfit, hrow⟩ := decE_zero hz
    have hlen := schOk_len hok
    have hl1 := fitAll_len hfit
    have t1 : encL S (decL S bl) = bl := by unfold encL; rw [if_pos (fit_rowN hok hfit), hrow]
    have t2 := fit_rowN hok hfit
    have hbd := fitAll_bd hfit
    have hne : decL S bl ≠ [] := fun e => by rw [e] at hl1; simp at hl1; omega
    have hlr : (decL S bl).length ≤ 1000 := by omega
    have HSM : Hid (∀ W v v', Below w.heap.size w W → SliceOf W v (decL S bl) → SliceOf W v' (decL S bl) → Calls Tryz.prog 17 #[v, v'] W fun e w' => e = .returned (.bool true) ∧ Below W.heap.size W w') := Lib.hid (fun W v v' hb hv hv' => (rSame_any _ _ _ _ W hv hv' (by omega) (by omega)).mono fun e w' ⟨he, hb'⟩ => ⟨by rw [he, lists_same]; rfl, hb'⟩)
    unfold DecPost at HD1 HD2
    rw [hz] at HD1 HD2 hn1
    have HE2 := Lib.hid (fun W ob cap (hW : Below w.heap.size w W) (hv : ValsIn W ob (decL S bl)) => HE.out W ob cap (decL S bl) hW hlr hv (fun v hv => (hbd v hv).1) (fun v hv => (hbd v hv).2))
    unfold EncPost at HE2
    rw [t1, t2] at HE2
    generalize decL S bl = row at *
    have HNE := Lib.hid hne
    clear HE hz hok hfit hrow hlen hl1 t1 t2 hbd hne hlr hn1 hf hfs hg hS m0 m1 m2 m3 m4 hb hcl
    go_enter Tryz.func4, Tryz.ntmps4
    go_wp2_with (first | (go_at_call 8; refine (HFW.out _ ((Below.refl _ _).alloc (Nat.le_refl _) _)).mono ?_; rintro e w1 ⟨he, hb1⟩; rw [HQ.out] at he; subst he; have hb := ((Below.refl w.heap.size w).alloc (Nat.le_refl _) (.cells #[.slice p.oc S.cols.length p.cc, .slice p.ok S.key.length p.ck, .slice p.ou S.uqs.length p.cu] 26)).trans (hb1.mono (by simp)); have x0 : w1.cell? ⟨w.heap.size, 0, none⟩ = some (.slice p.oc S.cols.length p.cc) := cell_old (by simp [go_sem]) hb1; have x1 : w1.cell? ⟨w.heap.size, 1, none⟩ = some (.slice p.ok S.key.length p.ck) := cell_old (by simp [go_sem]) hb1; have x2 : w1.cell? ⟨w.heap.size, 2, none⟩ = some (.slice p.ou S.uqs.length p.cu) := cell_old (by simp [go_sem]) hb1))
    refine (HD1.out _ hb).mono ?_
    rintro e w2 ⟨va, rfl, hva, hb2⟩
    obtain ⟨aa, cpa, rfl, hca, hvs⟩ := hva.some HNE.out
    have HB2 := Lib.hid (hb.trans (hb2.mono hb.size))
    have x0 : w2.cell? ⟨w.heap.size, 0, none⟩ = some (.slice p.oc S.cols.length p.cc) := cell_old x0 hb2
    have x1 : w2.cell? ⟨w.heap.size, 1, none⟩ = some (.slice p.ok S.key.length p.ck) := cell_old x1 hb2
    have x2 : w2.cell? ⟨w.heap.size, 2, none⟩ = some (.slice p.ou S.uqs.length p.cu) := cell_old x2 hb2
    have HA2 := Lib.hid hva
    have HV2 := Lib.hid hvs
    clear hva hb2 hb1 hb hvs
    go_wp2_with fail
    refine (HD2.out _ HB2.out).mono ?_
    rintro e w3 ⟨vb, rfl, hvb, hb3⟩
    have HB3 := Lib.hid (HB2.out.trans (hb3.mono HB2.out.size))
    have x0 : w3.cell? ⟨w.heap.size, 0, none⟩ = some (.slice p.oc S.cols.length p.cc) := cell_old x0 hb3
    have x1 : w3.cell? ⟨w.heap.size, 1, none⟩ = some (.slice p.ok S.key.length p.ck) := cell_old x1 hb3
    have x2 : w3.cell? ⟨w.heap.size, 2, none⟩ = some (.slice p.ou S.uqs.length p.cu) := cell_old x2 hb3
    have HA3 := Lib.hid (HA2.out.keep hb3 (Nat.le_refl _))
    have HV3 := Lib.hid (HV2.out.keep hb3 (Nat.le_refl _))
    have HC3 := Lib.hid hvb
    clear hvb hb3
    go_wp2_with fail
    refine (HSM.out _ _ _ HB3.out HA3.out HC3.out).mono ?_
    rintro e w4 ⟨rfl, hb4⟩
    have HB4 := Lib.hid (HB3.out.trans (hb4.mono HB3.out.size))
    have x0 : w4.cell? ⟨w.heap.size, 0, none⟩ = some (.slice p.oc S.cols.length p.cc) := cell_old x0 hb4
    have x1 : w4.cell? ⟨w.heap.size, 1, none⟩ = some (.slice p.ok S.key.length p.ck) := cell_old x1 hb4
    have x2 : w4.cell? ⟨w.heap.size, 2, none⟩ = some (.slice p.ou S.uqs.length p.cu) := cell_old x2 hb4
    have HV4 := Lib.hid (HV3.out.keep hb4 (Nat.le_refl _))
    clear hb4
    go_wp2_with (first | (go_at_call 15; refine (l4num_any _ _).mono ?_; rintro e w' ⟨rfl, rfl⟩))
    refine (HE2.out _ _ _ HB4.out HV4.out).mono ?_
    rintro e w5 ⟨vc, rfl, hvc, hb5⟩
    have HB5 := Lib.hid (HB4.out.trans (hb5.mono HB4.out.size))
    have cA := bytes_string hvc.at
    have cB := HBB.out w5 HB5.out
    generalize (⟨bl.toArray⟩ : ByteArray) = sA at cA cB
    have hss : (sA.toList == sA.toList) = true := by simp
    clear hb5 hvc x0 x1 x2
    go_wp2_with (first | (go_at_call 15; refine (l4num_any _ _).mono ?_; rintro e w' ⟨rfl, rfl⟩) | (go_at_call 10; refine (HW.out _ HB5.out).mono ?_; rintro e w8 ⟨rfl, hb8⟩))
    go_ret
    exact ⟨rfl, HB5.out.trans (hb8.mono HB5.out.size)⟩
  · have hne : (decE S bl != 0) = true := by simpa using hz
    have t1 := decE_no hz
    have HSM : Hid (∀ W v v', Below w.heap.size w W → SliceOf W v [] → SliceOf W v' [] → Calls Tryz.prog 17 #[v, v'] W fun e w' => e = .returned (.bool true) ∧ Below W.heap.size W w') := Lib.hid (fun W v v' hb hv hv' => (rSame_any _ _ [] [] W hv hv' (by simp) (by simp)).mono fun e w' ⟨he, hb'⟩ => ⟨by rw [he]; rfl, hb'⟩)
    unfold DecPost at HD1 HD2
    rw [t1] at HD1 HD2
    generalize decE S bl = n at *
    clear HE hz t1 hf hfs hg hS m0 m1 m2 m3 m4 hb hcl
    go_enter Tryz.func4, Tryz.ntmps4
    go_wp2_with (first | (go_at_call 8; refine (HFW.out _ ((Below.refl _ _).alloc (Nat.le_refl _) _)).mono ?_; rintro e w1 ⟨he, hb1⟩; rw [HQ.out] at he; subst he; have hb := ((Below.refl w.heap.size w).alloc (Nat.le_refl _) (.cells #[.slice p.oc S.cols.length p.cc, .slice p.ok S.key.length p.ck, .slice p.ou S.uqs.length p.cu] 26)).trans (hb1.mono (by simp)); have x0 : w1.cell? ⟨w.heap.size, 0, none⟩ = some (.slice p.oc S.cols.length p.cc) := cell_old (by simp [go_sem]) hb1; have x1 : w1.cell? ⟨w.heap.size, 1, none⟩ = some (.slice p.ok S.key.length p.ck) := cell_old (by simp [go_sem]) hb1; have x2 : w1.cell? ⟨w.heap.size, 2, none⟩ = some (.slice p.ou S.uqs.length p.cu) := cell_old (by simp [go_sem]) hb1))
    refine (HD1.out _ hb).mono ?_
    rintro e w2 ⟨va, rfl, hva, hb2⟩
    have HB2 := Lib.hid (hb.trans (hb2.mono hb.size))
    have x0 : w2.cell? ⟨w.heap.size, 0, none⟩ = some (.slice p.oc S.cols.length p.cc) := cell_old x0 hb2
    have x1 : w2.cell? ⟨w.heap.size, 1, none⟩ = some (.slice p.ok S.key.length p.ck) := cell_old x1 hb2
    have x2 : w2.cell? ⟨w.heap.size, 2, none⟩ = some (.slice p.ou S.uqs.length p.cu) := cell_old x2 hb2
    have HA2 := Lib.hid hva
    clear hva hb2 hb1 hb
    go_wp2_with fail
    refine (HD2.out _ HB2.out).mono ?_
    rintro e w3 ⟨vb, rfl, hvb, hb3⟩
    have HB3 := Lib.hid (HB2.out.trans (hb3.mono HB2.out.size))
    have HA3 := Lib.hid (HA2.out.keep hb3 (Nat.le_refl _))
    have HC3 := Lib.hid hvb
    clear hvb hb3 x0 x1 x2
    go_wp2_with fail
    refine (HSM.out _ _ _ HB3.out HA3.out HC3.out).mono ?_
    rintro e w4 ⟨rfl, hb4⟩
    have HB4 := Lib.hid (HB3.out.trans (hb4.mono HB3.out.size))
    clear hb4
    go_wp2_with (first | (go_at_call 15; refine (l4num_any _ _).mono ?_; rintro e w' ⟨rfl, rfl⟩) | (go_at_call 10; refine (HW.out _ HB4.out).mono ?_; rintro e w8 ⟨rfl, hb8⟩))
    go_ret
    exact ⟨rfl, HB4.out.trans (hb8.mono HB4.out.size)⟩
end Go.Proofs.YtocmjlnhcloccaaGreatDoor
