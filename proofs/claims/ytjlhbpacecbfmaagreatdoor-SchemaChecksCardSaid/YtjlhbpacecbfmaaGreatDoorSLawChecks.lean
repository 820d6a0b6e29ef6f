/-
  swingbridgelaw03.SchemaChecks: true.
-/
import Derived.Test.YtjlhbpacecbfmaaGreatDoorSEachC
namespace Go.Proofs.YtjlhbpacecbfmaaGreatDoor
open Go.RowKit Go.Shelf
attribute [local go_sem] Oper.semAt_some

theorem keep_fz {W W' : World} {a : Addr} (hb : Below W.heap.size W W') (hl : a.block < W.heap.size) (h : W.frozen? a = false) : W'.frozen? a = false := by
  rw [hb.frozen hl]
  exact h
set_option maxRecDepth 100000 in
set_option maxHeartbeats 8000000 in
theorem lawChecks_true (p : SchV) (S : Sch) (name : ByteArray) (many : Int) (w : World) (hg : HasET w) (hS : SchIn w p S) (m0 : S.cols.length ≤ 9223372036854775807) (m1 : S.key.length ≤ 9223372036854775807) (m2 : S.uqs.length ≤ 9223372036854775807) (m3 : ∀ c ∈ S.cols, c.n.size ≤ 9223372036854775807) (m4 : ∀ l ∈ S.uqs, l.length ≤ 9223372036854775807) (mn : name.size ≤ 9223372036854775807) (hm0 : -9223372036854775808 ≤ many) (hm1 : many ≤ 9223372036854775807) :
    Calls Tryz.prog 3 #[.agg #[.slice p.oc S.cols.length p.cc, .slice p.ok S.key.length p.ck, .slice p.ou S.uqs.length p.cu], .string name, .int .i64 many] w fun e w' => e = .returned (.bool true) ∧ Below w.heap.size w w' := by
  have HWK : Hid (∀ W, Below w.heap.size w W → Calls Tryz.prog 10 #[] W fun e w' => e = .returned (.bool true) ∧ Below W.heap.size W w') := Lib.hid (fun W hb => sworks_true W (hg.below hb hg.lt))
  have HFEW : Hid (∀ W, Below w.heap.size w W → Calls Tryz.prog 9 #[.agg #[.slice p.oc S.cols.length p.cc, .slice p.ok S.key.length p.ck, .slice p.ou S.uqs.length p.cu]] W fun e w' => e = .returned (.bool (fewOk S)) ∧ Below W.heap.size W w') := Lib.hid (fun W hb => few_any p S W (hS.keep hb (Nat.le_refl _)) m0 m1 m2 m3 m4)
  by_cases hsm : fewOk S = true ∧ name.size ≤ 40
  case neg =>
    clear hg hS m3 m4
    refine (callsIn_wide (n := 5)).1 ?_
    refine callsIn_of_wp_marks Tryz.func3 rfl trivial ?_ rfl
    simp only [Tryz.ntmps3, List.size_toArray, List.length_cons, List.length_nil, Nat.reduceAdd, Nat.reduceSub, Array.replicate_succ, Array.replicate_zero, List.push_toArray, List.append_toArray, List.nil_append, List.cons_append]
    refine wpIn_wide.2 ?_
    go_upto_region 1 with fail
    obtain ⟨W1, hW1⟩ : ∃ W1, ((w.alloc (.cells #[.slice p.oc S.cols.length p.cc, .slice p.ok S.key.length p.ck, .slice p.ou S.uqs.length p.cu] 26)).alloc (.cells #[.int .i64 many] 3)).alloc (.cells #[.bool false] 4) = W1 := ⟨_, rfl⟩
    have hb1 : Below w.heap.size w W1 := by rw [← hW1]; exact (((Below.refl _ _).alloc (Nat.le_refl _) _).alloc (by simp) _).alloc (by simp; omega) _
    have a0 : W1.cell? ⟨w.heap.size, 0, none⟩ = some (.slice p.oc S.cols.length p.cc) := by rw [← hW1]; simp [go_sem]
    have a1 : W1.cell? ⟨w.heap.size, 1, none⟩ = some (.slice p.ok S.key.length p.ck) := by rw [← hW1]; simp [go_sem]
    have a2 : W1.cell? ⟨w.heap.size, 2, none⟩ = some (.slice p.ou S.uqs.length p.cu) := by rw [← hW1]; simp [go_sem]
    have b0 : W1.cell? ⟨w.heap.size + 1 + 1, 0, none⟩ = some (.bool false) := by rw [← hW1]; simp [go_sem]
    have f0 : W1.frozen? ⟨w.heap.size + 1 + 1, 0, none⟩ = false := by rw [← hW1]; simp [go_sem]
    rw [hW1]
    have hz1 : W1.heap.size = w.heap.size + 3 := by rw [← hW1]; simp
    clear hW1
    have hB := hb1
    have g4 : W1.cell? ⟨w.heap.size, 0, none⟩ = some (.slice p.oc S.cols.length p.cc) := a0
    have hdis : fewOk S = false ∨ (fewOk S = true ∧ 40 < name.size) := by
      cases hf : fewOk S
      · exact .inl rfl
      · exact .inr ⟨rfl, by rw [hf] at hsm; simp at hsm; omega⟩
    clear hsm hb1
    rcases hdis with hf | ⟨hf, hn⟩
    · rw [hf] at HFEW
      clear hf
      go_wp2_with (first | (go_at_call 9; refine (HFEW.out _ hB).mono ?_; rintro e w2 ⟨rfl, hb⟩; replace a0 := keep_cellS hb a0; replace a1 := keep_cellS hb a1; replace a2 := keep_cellS hb a2; replace g4 := keep_cellS hb g4; replace f0 := keep_fz hb (World.block_lt_of_cell? _ ⟨w.heap.size + 1 + 1, 0, none⟩ b0) f0; replace b0 := keep_cellS hb b0; replace hB := hB.trans (hb.mono hB.size); clear hb) | (go_at_call 10; refine (HWK.out _ hB).mono ?_; rintro e w2 ⟨rfl, hb⟩; replace a0 := keep_cellS hb a0; replace a1 := keep_cellS hb a1; replace a2 := keep_cellS hb a2; replace g4 := keep_cellS hb g4; replace f0 := keep_fz hb (World.block_lt_of_cell? _ ⟨w.heap.size + 1 + 1, 0, none⟩ b0) f0; replace b0 := keep_cellS hb b0; replace hB := hB.trans (hb.mono hB.size); clear hb))
      refine ⟨_, by simp [results, Tryz.results3, go_sem, b0], rfl, hB.setCell (p := ⟨w.heap.size + 1 + 1, 0, none⟩) (by simp; omega) _⟩
    · rw [hf] at HFEW
      clear hf
      have hd : decide ((40 : Int) < (name.size : Int)) = true := decide_eq_true (by omega)
      go_wp2_with (first | (go_at_call 9; refine (HFEW.out _ hB).mono ?_; rintro e w2 ⟨rfl, hb⟩; replace a0 := keep_cellS hb a0; replace a1 := keep_cellS hb a1; replace a2 := keep_cellS hb a2; replace g4 := keep_cellS hb g4; replace f0 := keep_fz hb (World.block_lt_of_cell? _ ⟨w.heap.size + 1 + 1, 0, none⟩ b0) f0; replace b0 := keep_cellS hb b0; replace hB := hB.trans (hb.mono hB.size); clear hb) | (go_at_call 10; refine (HWK.out _ hB).mono ?_; rintro e w2 ⟨rfl, hb⟩; replace a0 := keep_cellS hb a0; replace a1 := keep_cellS hb a1; replace a2 := keep_cellS hb a2; replace g4 := keep_cellS hb g4; replace f0 := keep_fz hb (World.block_lt_of_cell? _ ⟨w.heap.size + 1 + 1, 0, none⟩ b0) f0; replace b0 := keep_cellS hb b0; replace hB := hB.trans (hb.mono hB.size); clear hb))
      refine ⟨_, by simp [results, Tryz.results3, go_sem, b0], rfl, hB.setCell (p := ⟨w.heap.size + 1 + 1, 0, none⟩) (by simp; omega) _⟩
  obtain ⟨hf, hn⟩ := hsm
  have hfw := fewOk_spec hf
  rw [hf] at HFEW
  have hnm : ∀ c ∈ S.cols, c.n.size ≤ 9223372036854775807 := m3
  have hcl : S.cols.length ≤ 1000 := by have := hfw.cols; omega
  have hul : S.uqs.length ≤ 6 := hfw.uqs
  have hkl : S.key.length ≤ 1000 := by have := hfw.key; omega
  have hpl : ∀ l ∈ S.uqs, l.length ≤ 1000 := fun l hl => by have := hfw.places l hl; omega
  have HCK : Hid (∀ W, Below w.heap.size w W → Calls Tryz.prog 15 #[.agg #[.slice p.oc S.cols.length p.cc, .slice p.ok S.key.length p.ck, .slice p.ou S.uqs.length p.cu]] W fun e w' => e = .returned (.int .i64 (schN S)) ∧ Below W.heap.size W w') := Lib.hid (fun W hb => SCheck_any p S W (hg.below hb hg.lt) hnm hcl hul (hS.keep hb (Nat.le_refl _)))
  have HRT : Hid (∀ W, Below w.heap.size w W → Calls Tryz.prog 16 #[.agg #[.slice p.oc S.cols.length p.cc, .slice p.ok S.key.length p.ck, .slice p.ou S.uqs.length p.cu]] W fun e w' => e = .returned (.bool (schOk S)) ∧ Below W.heap.size W w') := Lib.hid (fun W hb => rRight_any p S W hnm hcl (by omega) hkl hpl (hS.keep hb (Nat.le_refl _)))
  have HPL : Hid (∀ W, Below w.heap.size w W → Calls Tryz.prog 12 #[.agg #[.slice p.oc S.cols.length p.cc, .slice p.ok S.key.length p.ck, .slice p.ou S.uqs.length p.cu], .string name] W fun e w' => e = .returned (.tuple #[.int .i64 (max (firstC S.cols name) 0), .bool (decide (0 ≤ firstC S.cols name))]) ∧ Below W.heap.size W w') := Lib.hid (fun W hb => Place_any p S name W hcl (hS.keep hb (Nat.le_refl _)))
  have HRP : Hid (∀ W, Below w.heap.size w W → Calls Tryz.prog 17 #[.agg #[.slice p.oc S.cols.length p.cc, .slice p.ok S.key.length p.ck, .slice p.ou S.uqs.length p.cu], .string name] W fun e w' => e = .returned (.int .i64 (firstC S.cols name)) ∧ Below W.heap.size W w') := Lib.hid (fun W hb => rPlace_any p S name W hcl (hS.keep hb (Nat.le_refl _)))
  have HRS := Lib.hid (fun W (hb : Below w.heap.size w W) => r3Sets_any p S W hnm hcl hul hkl hpl (hS.keep hb (Nat.le_refl _)))
  have HSS := Lib.hid (fun W (hb : Below w.heap.size w W) => Sets_any p S W hnm hcl hul hkl hpl (hS.keep hb (Nat.le_refl _)))
  have hElen : (ownL S).length ≤ 7 := by
    unfold ownL
    split
    · simp; omega
    · simp
  have hEl : ∀ l ∈ ownL S, l.length ≤ 1000 := by
    unfold ownL
    split
    · intro l hl
      rcases List.mem_cons.1 hl with rfl | hl
      · exact hkl
      · exact hpl l hl
    · intro l hl; cases hl
  have hsn : (schOk S = true ∧ schN S = 0) ∨ (schOk S = false ∧ schN S = 2) := by
    unfold schN
    cases schOk S
    · exact .inr ⟨rfl, rfl⟩
    · exact .inl ⟨rfl, rfl⟩
  clear hg hS m3 m4 hnm hpl hfw hf
  generalize schOk S = ok at *
  generalize schN S = sn at *
  generalize ownL S = E at *
  generalize firstC S.cols name = fc at *
  obtain ⟨at', hat⟩ : ∃ m, max fc 0 = m := ⟨_, rfl⟩
  have hat2 : max 0 fc = at' := by omega
  rw [hat] at HPL
  refine (callsIn_wide (n := 5)).1 ?_
  refine callsIn_of_wp_marks Tryz.func3 rfl trivial ?_ rfl
  simp only [Tryz.ntmps3, List.size_toArray, List.length_cons, List.length_nil, Nat.reduceAdd, Nat.reduceSub, Array.replicate_succ, Array.replicate_zero, List.push_toArray, List.append_toArray, List.nil_append, List.cons_append]
  refine wpIn_wide.2 ?_
  go_upto_region 1 with fail
  obtain ⟨W1, hW1⟩ : ∃ W1, ((w.alloc (.cells #[.slice p.oc S.cols.length p.cc, .slice p.ok S.key.length p.ck, .slice p.ou S.uqs.length p.cu] 26)).alloc (.cells #[.int .i64 many] 3)).alloc (.cells #[.bool false] 4) = W1 := ⟨_, rfl⟩
  have hb1 : Below w.heap.size w W1 := by rw [← hW1]; exact (((Below.refl _ _).alloc (Nat.le_refl _) _).alloc (by simp) _).alloc (by simp; omega) _
  have a0 : W1.cell? ⟨w.heap.size, 0, none⟩ = some (.slice p.oc S.cols.length p.cc) := by rw [← hW1]; simp [go_sem]
  have a1 : W1.cell? ⟨w.heap.size, 1, none⟩ = some (.slice p.ok S.key.length p.ck) := by rw [← hW1]; simp [go_sem]
  have a2 : W1.cell? ⟨w.heap.size, 2, none⟩ = some (.slice p.ou S.uqs.length p.cu) := by rw [← hW1]; simp [go_sem]
  have g4 : W1.cell? ⟨w.heap.size + 1, 0, none⟩ = some (.int .i64 many) := by rw [← hW1]; simp [go_sem]
  have b0 : W1.cell? ⟨w.heap.size + 1 + 1, 0, none⟩ = some (.bool false) := by rw [← hW1]; simp [go_sem]
  have f0 : W1.frozen? ⟨w.heap.size + 1 + 1, 0, none⟩ = false := by rw [← hW1]; simp [go_sem]
  rw [hW1]
  have hz1 : W1.heap.size = w.heap.size + 3 := by rw [← hW1]; simp
  clear hW1
  have hB := hb1
  clear hb1
  have hd40 : decide ((40 : Int) < (name.size : Int)) = false := decide_eq_false (by omega)
  go_wp2_with (first | (go_at_call 9; refine (HFEW.out _ hB).mono ?_; rintro e w2 ⟨rfl, hb⟩; replace a0 := keep_cellS hb a0; replace a1 := keep_cellS hb a1; replace a2 := keep_cellS hb a2; replace g4 := keep_cellS hb g4; replace f0 := keep_fz hb (World.block_lt_of_cell? _ ⟨w.heap.size + 1 + 1, 0, none⟩ b0) f0; replace b0 := keep_cellS hb b0; replace hB := hB.trans (hb.mono hB.size); clear hb))
  refine (HRS.out _ hB).mono ?_
  rintro e w3 ⟨oo, co, hs, rfl, hsets, hb⟩
  replace a0 := keep_cellS hb a0; replace a1 := keep_cellS hb a1; replace a2 := keep_cellS hb a2; replace g4 := keep_cellS hb g4; replace f0 := keep_fz hb (World.block_lt_of_cell? _ ⟨w.heap.size + 1 + 1, 0, none⟩ b0) f0; replace b0 := keep_cellS hb b0; replace hB := hB.trans (hb.mono hB.size); clear hb
  have HWS := Lib.hid hsets
  clear hsets
  go_upto_region 4 with fail
  obtain ⟨W4, hW4⟩ : ∃ W4, w3.alloc (.cells #[.slice oo E.length co] 24) = W4 := ⟨_, rfl⟩
  have hb : Below w3.heap.size w3 W4 := by rw [← hW4]; exact (Below.refl _ _).alloc (Nat.le_refl _) _
  have d0 : W4.cell? ⟨w3.heap.size, 0, none⟩ = some (.slice oo E.length co) := by rw [← hW4]; simp [go_sem]
  have HWS4 := Lib.hid (HWS.out.keep hb (Nat.le_refl _))
  replace a0 := keep_cellS hb a0; replace a1 := keep_cellS hb a1; replace a2 := keep_cellS hb a2; replace g4 := keep_cellS hb g4; replace f0 := keep_fz hb (World.block_lt_of_cell? _ ⟨w.heap.size + 1 + 1, 0, none⟩ b0) f0; replace b0 := keep_cellS hb b0; replace hB := hB.trans (hb.mono hB.size); clear hb
  rw [hW4]
  clear hW4 HWS
  go_wp2_with (first | (go_at_call 12; refine (HPL.out _ hB).mono ?_; rintro e w5 ⟨rfl, hb⟩; replace d0 := keep_cellS hb d0; have HWS5 := Lib.hid (HWS4.out.keep hb (Nat.le_refl _)); replace a0 := keep_cellS hb a0; replace a1 := keep_cellS hb a1; replace a2 := keep_cellS hb a2; replace g4 := keep_cellS hb g4; replace f0 := keep_fz hb (World.block_lt_of_cell? _ ⟨w.heap.size + 1 + 1, 0, none⟩ b0) f0; replace b0 := keep_cellS hb b0; replace hB := hB.trans (hb.mono hB.size); clear hb))
  refine (HSS.out _ hB).mono ?_
  rintro e w6 ⟨cb, o6, c6, h6, rfl, hcb, hsets6, hb⟩
  replace d0 := keep_cellS hb d0
  have HWS6 := Lib.hid (HWS5.out.keep hb (Nat.le_refl _))
  replace a0 := keep_cellS hb a0; replace a1 := keep_cellS hb a1; replace a2 := keep_cellS hb a2; replace g4 := keep_cellS hb g4; replace f0 := keep_fz hb (World.block_lt_of_cell? _ ⟨w.heap.size + 1 + 1, 0, none⟩ b0) f0; replace b0 := keep_cellS hb b0; replace hB := hB.trans (hb.mono hB.size); clear hb
  have HCB := Lib.hid hcb
  have HO6 := Lib.hid hsets6
  clear hcb hsets6 HWS4 HWS5
  go_upto_region 6 with fail
  have hnf : ∀ W, (binOp .eql 33 (.func (.func 36) #[] #[.pointer (some ⟨cb, 0, none⟩)]) .nilFunc).run Tryz.prog W = .ok (.bool false) W := fun W => rfl
  go_cut [71] from 34 to 70 (fun s71 wx => s71 = .bool false ∧ Below w6.heap.size w6 wx)
  case first =>
    replace a0 := fun q => later_cell a0 q
    replace a1 := fun q => later_cell a1 q
    replace a2 := fun q => later_cell a2 q
    have hbt : (decide (0 ≤ fc) != decide (0 ≤ fc)) = false := by simp
    have hatn : (at' != at') = false := by simp
    clear hat
    rcases hsn with ⟨rfl, rfl⟩ | ⟨rfl, rfl⟩
    · refine wp_region_later (by kernel_rfl) (by kernel_rfl) ?_
      repeat (go_big_quiet_step ((first | (go_at_call 14; exact Calls.later_same (l3num_any _ _)) | (go_at_call 15; exact Calls.later (HCK.out _ (hB.trans ((Later.h _).mono hB.size)))) | (go_at_call 16; exact Calls.later (HRT.out _ (hB.trans ((Later.h _).mono hB.size)))) | (go_at_call 17; exact Calls.later (HRP.out _ (hB.trans ((Later.h _).mono hB.size)))))))
      refine wpQuiet_nil ?_
      rintro w7 ⟨⟨W7, hb⟩, rfl⟩
      all_goals go_wp2_with fail
      all_goals go_meet
      all_goals (refine ⟨?_, hb⟩; first | rfl | exact congrArg Value.bool (bne_eq_false_iff_eq.2 (by omega)) | (trace_state; done))
    · refine wp_region_later (by kernel_rfl) (by kernel_rfl) ?_
      repeat (go_big_quiet_step ((first | (go_at_call 14; exact Calls.later_same (l3num_any _ _)) | (go_at_call 15; exact Calls.later (HCK.out _ (hB.trans ((Later.h _).mono hB.size)))) | (go_at_call 16; exact Calls.later (HRT.out _ (hB.trans ((Later.h _).mono hB.size)))) | (go_at_call 17; exact Calls.later (HRP.out _ (hB.trans ((Later.h _).mono hB.size)))))))
      refine wpQuiet_nil ?_
      rintro w7 ⟨⟨W7, hb⟩, rfl⟩
      all_goals go_wp2_with fail
      all_goals go_meet
      all_goals (refine ⟨?_, hb⟩; first | rfl | exact congrArg Value.bool (bne_eq_false_iff_eq.2 (by omega)) | (trace_state; done))
  case rest =>
    obtain ⟨rfl, hb⟩ := hcut
    replace d0 := keep_cellS hb d0
    have HWS := Lib.hid (HWS6.out.keep hb (Nat.le_refl _))
    have HCB7 := Lib.hid (keep_cellS hb HCB.out)
    have HO7 := Lib.hid (HO6.out.keep hb (Nat.le_refl _))
    replace a0 := keep_cellS hb a0; replace a1 := keep_cellS hb a1; replace a2 := keep_cellS hb a2; replace g4 := keep_cellS hb g4; replace f0 := keep_fz hb (World.block_lt_of_cell? _ ⟨w.heap.size + 1 + 1, 0, none⟩ b0) f0; replace b0 := keep_cellS hb b0; replace hB := hB.trans (hb.mono hB.size); clear hb
    have HBW := Lib.hid hB
    have HG4 := Lib.hid g4
    have HD0 := Lib.hid d0
    have HB0c := Lib.hid b0
    have HF0c := Lib.hid f0
    have hzc : w.heap.size + 1 + 1 < wc.heap.size := World.block_lt_of_cell? _ _ b0
    have hzd : w3.heap.size < wc.heap.size := World.block_lt_of_cell? _ _ d0
    have HSEQ := Lib.hid (sets1_turns 4 (by decide) cb o6 c6 E h6 wc HCB7.out HO7.out (by omega) hEl)
    have HEL := Lib.hid hEl
    clear HWS6 HCB HO6 HCB7 HO7 a0 a1 a2 g4 d0 b0 f0 hB hEl HFEW HCK HRT HPL HRP HRS HSS hsn hat hat2
    go_wp2_with fail
    refine wp_loop_rounds 3 ?_
    rw [rounds_succ]
    go_wp2_with fail
    obtain ⟨W3, hW3⟩ : ∃ W3, (wc.alloc (.cells #[.int .i64 0] 3)).alloc (.cells #[.int .i64 0] 3) = W3 := ⟨_, rfl⟩
    have HB0 : Hid (Below wc.heap.size wc W3) := Lib.hid (by rw [← hW3]; exact ((Below.refl _ _).alloc (Nat.le_refl _) _).alloc (by simp) _)
    have hz3 : W3.heap.size = wc.heap.size + 1 + 1 := by rw [← hW3]; simp
    have hz13 : wc.heap.size + 1 < W3.heap.size := by omega
    have hzw2 : w.heap.size ≤ wc.heap.size := by omega
    have hzw : w.heap.size ≤ W3.heap.size := by omega
    have HT0 : Hid (W3.cell? ⟨wc.heap.size, 0, none⟩ = some (.int .i64 0)) := Lib.hid (by rw [← hW3]; simp [go_sem])
    have HEI0 : Hid (EI w W3 (wc.heap.size + 1) 0 W3) := Lib.hid ⟨Nat.le_refl _, fun _ _ _ => rfl, HBW.out.trans (HB0.out.mono hzw2), by rw [← hW3]; simp [go_sem], by rw [← hW3]; simp [go_sem]⟩
    rw [hW3]
    clear hW3
    refine (wpIn_wide (n := 5)).1 ?_
    refine wpIn_turnsX (F := Fence.wide) (G := fun k => k < wc.heap.size) (m := 0) rfl (by decide) (gf := 36) (fb := #[]) (lb := #[.pointer (some ⟨cb, 0, none⟩)]) rfl trivial (enters_of Tryz.func36 (by kernel_rfl) rfl)
      (HSEQ.out.up HB0.out) (fun k hk => by have := HB0.out.size; omega) (fun x => rfl)
      (fun pre W => EI w W3 (wc.heap.size + 1) pre.length W ∧ (pre = [] ∨ (pre.length : Int) < many))
      (fun c pre W => c = .exit 2 ∧ EI w W3 (wc.heap.size + 1) pre.length W ∧ (1 ≤ pre.length ∧ many ≤ pre.length ∧ (pre.length = 1 ∨ (pre.length : Int) - 1 < many)))
      (EI.still hz13 hzw (Z := fun pre => (pre = [] ∨ (pre.length : Int) < many)))
      (fun c => EI.stillX hz13 hzw)
      (fun x W l r o _ hx hl => ints_loop hx hl o)
      ⟨HEI0.out, .inl rfl⟩
      (fun x => { tmps := #[Value.agg #[Value.slice p.oc S.cols.length p.cc, Value.slice p.ok S.key.length p.ck, Value.slice p.ou S.uqs.length p.cu], Value.string name, Value.int .i64 many, Value.pointer (some { block := w.heap.size, off := 0 }), undef, Value.pointer (some { block := w.heap.size + 1, off := 0 }), Value.pointer (some { block := w.heap.size + 1 + 1, off := 0 }), Value.pointer (some { block := w3.heap.size, off := 0 }), Value.int .i64 at', Value.bool (decide (0 ≤ fc)), Value.func (.func 36) #[] #[Value.pointer (some { block := cb, off := 0 })], Value.pointer (some { block := wc.heap.size, off := 0 }), Value.pointer (some { block := wc.heap.size + 1, off := 0 }), .int .i64 (x.1 : Int), .slice x.2.1 (E.getD x.1 []).length x.2.2, Value.agg #[Value.slice p.oc S.cols.length p.cc, Value.slice p.ok S.key.length p.ck, Value.slice p.ou S.uqs.length p.cu], Value.bool true, Value.bool false, Value.bool false, Value.string name, Value.int .i64 ↑name.size, Value.bool false, Value.bool false, undef, Value.agg #[Value.slice p.oc S.cols.length p.cc, Value.slice p.ok S.key.length p.ck, Value.slice p.ou S.uqs.length p.cu], Value.slice oo E.length co, Value.tuple #[Value.int .i64 at', Value.bool (decide (0 ≤ fc))], Value.agg #[Value.slice p.oc S.cols.length p.cc, Value.slice p.ok S.key.length p.ck, Value.slice p.ou S.uqs.length p.cu], Value.string name, Value.tuple #[Value.int .i64 at', Value.bool (decide (0 ≤ fc))], Value.int .i64 at', Value.bool (decide (0 ≤ fc)), Value.agg #[Value.slice p.oc S.cols.length p.cc, Value.slice p.ok S.key.length p.ck, Value.slice p.ou S.uqs.length p.cu], Value.func (.func 36) #[] #[Value.pointer (some { block := cb, off := 0 })], u34, u35, u36, u37, u38, u39, u40, u41, u42, u43, u44, u45, u46, u47, u48, u49, u50, u51, u52, u53, u54, u55, u56, u57, u58, u59, u60, u61, u62, u63, u64, u65, u66, u67, u68, u69, u70, Value.bool false, Value.int .i64 0, Value.bool true, undef, undef, Value.func (.func 36) #[] #[Value.pointer (some { block := cb, off := 0 })], .int .i64 (x.1 : Int), .slice x.2.1 (E.getD x.1 []).length x.2.2, undef, undef, undef, undef, undef, undef, undef, undef, undef, undef, undef, undef, undef, undef, undef, undef, undef, undef, undef, undef, undef, undef, undef, undef, undef, undef, undef, undef, undef, undef, undef, undef, undef, undef, undef, undef, undef, undef, undef, undef, undef, undef, undef, undef, undef, undef, undef, undef, undef, undef], defers := [] }) ?assign0 ?body0 ?done0 ?stop0
    case assign0 =>
      intro l x W K hK
      simp only [encO]
      gi_wp2
      exact hK
    case body0 =>
      rintro l pre ⟨xn, xa, xc⟩ W ⟨hei, hq⟩ hsp hfx hszW
      obtain ⟨hlt, hx⟩ := spo_at hsp
      dsimp only at hx
      subst hx
      have hsz := HB0.out.size
      have up : ∀ q : Addr, q.block < wc.heap.size → W.cell? q = wc.cell? q := fun q hq => (hei.cell (by omega) (by omega)).trans (HB0.out.cell hq)
      have g4 : W.cell? ⟨w.heap.size + 1, 0, none⟩ = some (.int .i64 many) := (up _ (by simp; omega)).trans HG4.out
      have d0 : W.cell? ⟨w3.heap.size, 0, none⟩ = some (.slice oo E.length co) := (up _ (by simp; omega)).trans HD0.out
      have g11 : W.cell? ⟨wc.heap.size, 0, none⟩ = some (.int .i64 0) := (hei.cell (by simp; omega) (by simp)).trans HT0.out
      have g12 := hei.at13
      have g12F := hei.at13F
      have hLo : Lo wc W := ⟨by have := hei.size; omega, fun k hk => (hei.same k (by omega) (by omega)).trans (HB0.out.block k hk)⟩
      obtain ⟨aw, rfl, hcw0, hcapw, hiw⟩ := sets_lo hLo HWS.out pre.length hlt
      have hgd : E.getD pre.length [] = E[pre.length] := by rw [List.getD_eq_getElem?_getD, List.getElem?_eq_getElem hlt]; rfl
      have hfx2 : IntsIn W xa E[pre.length] := by rw [← hgd]; exact hfx
      have hle := HEL.out _ (List.getElem_mem hlt)
      have hd : decide ((E.length : Int) ≤ (pre.length : Int)) = false := by simp; omega
      have hlt2 : (pre.length : Int) < (E.length : Int) := by omega
      have hlen : (pre ++ [((pre.length, (xa, xc)) : NSl)]).length = pre.length + 1 := by simp
      dsimp only
      rw [hgd]
      have HINT := Lib.hid (Ints_any xa (hAt hs pre.length).1 xc (hAt hs pre.length).2 E[pre.length] E[pre.length] W hfx2 hiw hle hle)
      rw [show decide (E[pre.length] = E[pre.length]) = true by simp] at HINT
      have HEIB := Lib.hid hei
      have HQ := Lib.hid hq
      have HLEN := Lib.hid hlen
      generalize E[pre.length] = el at *
      clear hei hq up hfx hfx2 hiw hcapw hsp hlen hgd hLo hle
      have hnn : ((pre.length : Int) != (pre.length : Int)) = false := by simp
      gi_wp2_with fail
      refine ⟨trivial, ?_⟩
      refine (CallsIn.inRound l (callsIn_wide.2 HINT.out)).mono ?_
      rintro e w8 ⟨rfl, hb⟩
      replace g4 := keep_cellS hb g4
      replace g11 := keep_cellS hb g11
      replace g12F := keep_fz hb (World.block_lt_of_cell? _ ⟨wc.heap.size + 1, 0, none⟩ g12) g12F
      replace g12 := keep_cellS hb g12
      have HEI8 := Lib.hid ((EI.still hz13 hzw (Z := fun _ => True)).ext pre W w8 ⟨HEIB.out, trivial⟩ hb).1
      have HKP := Lib.hid (fun u => (KeepM.of_below (B := W3.heap.size) (m := 0 + 2) (G := fun k => k < wc.heap.size) hb).setCell (p := ⟨wc.heap.size + 1, 0, none⟩) (by show ¬ (W3.heap.size ≤ wc.heap.size + 1 ∧ _); omega) (by show ¬ (wc.heap.size + 1 < wc.heap.size); omega) u)
      clear hb HINT hcw0
      by_cases hmb : many ≤ (pre.length : Int) + 1
      · gi_wp2_with fail
        exact ⟨HKP.out _, rfl, by rw [HLEN.out]; exact HEI8.out.next (by omega), by rw [HLEN.out]; omega, by rw [HLEN.out]; omega, by rw [HLEN.out]; rcases HQ.out with h | h; (· left; rw [h]; rfl); (· right; omega)⟩
      · gi_wp2_with fail
        exact ⟨HKP.out _, by rw [HLEN.out]; exact HEI8.out.next (by omega), .inr (by rw [HLEN.out]; omega)⟩
    case done0 =>
      rintro xs Wa hxs ⟨hei, hq⟩ hD
      have hxl : xs.length = E.length := by have h := congrArg List.length hxs; simpa using h
      rw [hxl] at hei
      have hq2 : E = [] ∨ (E.length : Int) < many := by rcases hq with h | h; (· left; subst h; simp at hxl; exact List.eq_nil_of_length_eq_zero hxl.symm); (· right; omega)
      clear hxs hxl hq
      have hsz := HB0.out.size
      have up : ∀ q : Addr, q.block < wc.heap.size → Wa.cell? q = wc.cell? q := fun q hq => (hei.cell (by omega) (by omega)).trans (HB0.out.cell hq)
      have g4 : Wa.cell? ⟨w.heap.size + 1, 0, none⟩ = some (.int .i64 many) := (up _ (by simp; omega)).trans HG4.out
      have d0 : Wa.cell? ⟨w3.heap.size, 0, none⟩ = some (.slice oo E.length co) := (up _ (by simp; omega)).trans HD0.out
      have g11 : Wa.cell? ⟨wc.heap.size, 0, none⟩ = some (.int .i64 0) := (hei.cell (by simp; omega) (by simp)).trans HT0.out
      have g12 := hei.at13
      have g12F := hei.at13F
      have HEI := Lib.hid hei
      have HD := Lib.hid hD
      obtain ⟨M, hM⟩ : ∃ M, max (1 : Int) many = M := ⟨_, rfl⟩
      have hmn : min (E.length : Int) M = E.length := by rcases hq2 with h | h; (· subst h; simp; omega); (· omega)
      have hne : ((E.length : Int) != (E.length : Int)) = false := by simp
      clear up hei hD hq2
      go_wp2_with fail
      have HUP := Lib.hid (HEI.out.up HBW.out HB0.out (by omega))
      rw [rounds_succ]
      go_wp2_with fail
      obtain ⟨W4, hW4⟩ : ∃ W4, (Wa.alloc (.cells #[.int .i64 1] 3)).alloc (.cells #[.int .i64 0] 3) = W4 := ⟨_, rfl⟩
      have hzW : wc.heap.size + 1 < Wa.heap.size := by have := HEI.out.size; omega
      have HB1 : Hid (Below wc.heap.size wc W4) := Lib.hid (by rw [← hW4]; exact (HUP.out.alloc HUP.out.size _).alloc (by have := HUP.out.size; simp; omega) _)
      have hz4 : W4.heap.size = Wa.heap.size + 1 + 1 := by rw [← hW4]; simp
      have hz13 : Wa.heap.size + 1 < W4.heap.size := by omega
      have hzw : w.heap.size ≤ W4.heap.size := by omega
      have HT1 : Hid (W4.cell? ⟨Wa.heap.size, 0, none⟩ = some (.int .i64 1)) := Lib.hid (by rw [← hW4]; simp [go_sem])
      have HEI1 : Hid (EI w W4 (Wa.heap.size + 1) 0 W4) := Lib.hid ⟨Nat.le_refl _, fun _ _ _ => rfl, HBW.out.trans (HB1.out.mono hzw2), by rw [← hW4]; simp [go_sem], by rw [← hW4]; simp [go_sem]⟩
      have HD4 : Hid (W4.heap[W3.heap.size]? = some (.deferred (some []))) := Lib.hid (by rw [← hW4, Below.heap_alloc _ _ _ (by have := (Array.getElem?_eq_some_iff.1 HD.out).1; simp; omega), Below.heap_alloc _ _ _ (Array.getElem?_eq_some_iff.1 HD.out).1]; exact HD.out)
      try rw [hW4]
      refine (wpIn_wide (n := 5)).1 ?_
      refine wpIn_turnsX (F := Fence.wide) (G := fun k => k < wc.heap.size) (m := 0) rfl (by decide) (gf := 36) (fb := #[]) (lb := #[.pointer (some ⟨cb, 0, none⟩)]) rfl trivial (enters_of Tryz.func36 (by kernel_rfl) rfl)
        (HSEQ.out.up HB1.out) (fun k hk => by have := HB1.out.size; omega) (fun x => rfl)
        (fun pre W => EI w W4 (Wa.heap.size + 1) pre.length W ∧ True)
        (fun _ _ _ => False)
        (EI.still hz13 hzw (Z := fun pre => True))
        (fun _ => ⟨fun _ _ _ h _ => h, fun _ _ _ _ _ _ h _ => h⟩)
        (fun x W l r o _ hx hl => ints_loop hx hl o)
        ⟨HEI1.out, trivial⟩
        (fun x => { tmps := #[Value.agg #[Value.slice p.oc S.cols.length p.cc, Value.slice p.ok S.key.length p.ck, Value.slice p.ou S.uqs.length p.cu], Value.string name, Value.int .i64 many, Value.pointer (some { block := w.heap.size, off := 0 }), undef, Value.pointer (some { block := w.heap.size + 1, off := 0 }), Value.pointer (some { block := w.heap.size + 1 + 1, off := 0 }), Value.pointer (some { block := w3.heap.size, off := 0 }), Value.int .i64 at', Value.bool (decide (0 ≤ fc)), Value.func (.func 36) #[] #[Value.pointer (some { block := cb, off := 0 })], Value.pointer (some { block := Wa.heap.size, off := 0 }), Value.pointer (some { block := Wa.heap.size + 1, off := 0 }), .int .i64 (x.1 : Int), .slice x.2.1 (E.getD x.1 []).length x.2.2, Value.agg #[Value.slice p.oc S.cols.length p.cc, Value.slice p.ok S.key.length p.ck, Value.slice p.ou S.uqs.length p.cu], Value.bool true, Value.bool false, Value.bool false, Value.string name, Value.int .i64 ↑name.size, Value.bool false, Value.bool false, undef, Value.agg #[Value.slice p.oc S.cols.length p.cc, Value.slice p.ok S.key.length p.ck, Value.slice p.ou S.uqs.length p.cu], Value.slice oo E.length co, Value.tuple #[Value.int .i64 at', Value.bool (decide (0 ≤ fc))], Value.agg #[Value.slice p.oc S.cols.length p.cc, Value.slice p.ok S.key.length p.ck, Value.slice p.ou S.uqs.length p.cu], Value.string name, Value.tuple #[Value.int .i64 at', Value.bool (decide (0 ≤ fc))], Value.int .i64 at', Value.bool (decide (0 ≤ fc)), Value.agg #[Value.slice p.oc S.cols.length p.cc, Value.slice p.ok S.key.length p.ck, Value.slice p.ou S.uqs.length p.cu], Value.func (.func 36) #[] #[Value.pointer (some { block := cb, off := 0 })], u34, u35, u36, u37, u38, u39, u40, u41, u42, u43, u44, u45, u46, u47, u48, u49, u50, u51, u52, u53, u54, u55, u56, u57, u58, u59, u60, u61, u62, u63, u64, u65, u66, u67, u68, u69, u70, Value.bool false, Value.int .i64 1, Value.bool true, Value.int .i64 0, Value.int .i64 1, Value.func (.func 36) #[] #[Value.pointer (some { block := cb, off := 0 })], .int .i64 (x.1 : Int), .slice x.2.1 (E.getD x.1 []).length x.2.2, undef, undef, undef, undef, undef, undef, undef, undef, undef, undef, undef, undef, undef, undef, undef, undef, undef, undef, undef, undef, undef, undef, undef, undef, undef, undef, undef, Value.int .i64 0, Value.bool true, Value.bool true, Value.int .i64 ↑E.length, Value.slice oo E.length co, Value.int .i64 ↑E.length, Value.int .i64 many, Value.int .i64 M, Value.int .i64 ↑E.length, Value.bool false, Value.bool false, Value.bool false, Value.int .i64 0, Value.bool false, Value.bool false, undef, undef, undef, undef, Value.bool false, Value.bool false, Value.int .i64 0, undef], defers := [] }) ?assign1 ?body1 ?done1 ?stop1
      case assign1 =>
        intro l x W K hK
        simp only [encO]
        gi_wp2
        exact hK
      case body1 =>
        rintro l pre ⟨xn, xa, xc⟩ W ⟨hei, hq⟩ hsp hfx hszW
        obtain ⟨hlt, hx⟩ := spo_at hsp
        dsimp only at hx
        subst hx
        have hsz := HB1.out.size
        have up : ∀ q : Addr, q.block < wc.heap.size → W.cell? q = wc.cell? q := fun q hq => (hei.cell (by omega) (by omega)).trans (HB1.out.cell hq)
        have g4 : W.cell? ⟨w.heap.size + 1, 0, none⟩ = some (.int .i64 many) := (up _ (by simp; omega)).trans HG4.out
        have d0 : W.cell? ⟨w3.heap.size, 0, none⟩ = some (.slice oo E.length co) := (up _ (by simp; omega)).trans HD0.out
        have g11 : W.cell? ⟨Wa.heap.size, 0, none⟩ = some (.int .i64 1) := (hei.cell (by simp; omega) (by simp)).trans HT1.out
        have g12 := hei.at13
        have g12F := hei.at13F
        have hLo : Lo wc W := ⟨by have := hei.size; omega, fun k hk => (hei.same k (by omega) (by omega)).trans (HB1.out.block k hk)⟩
        obtain ⟨aw, rfl, hcw0, hcapw, hiw⟩ := sets_lo hLo HWS.out pre.length hlt
        have hgd : E.getD pre.length [] = E[pre.length] := by rw [List.getD_eq_getElem?_getD, List.getElem?_eq_getElem hlt]; rfl
        have hfx2 : IntsIn W xa E[pre.length] := by rw [← hgd]; exact hfx
        have hle := HEL.out _ (List.getElem_mem hlt)
        have hd : decide ((E.length : Int) ≤ (pre.length : Int)) = false := by simp; omega
        have hlt2 : (pre.length : Int) < (E.length : Int) := by omega
        have hlen : (pre ++ [((pre.length, (xa, xc)) : NSl)]).length = pre.length + 1 := by simp
        dsimp only
        rw [hgd]
        have HINT := Lib.hid (Ints_any xa (hAt hs pre.length).1 xc (hAt hs pre.length).2 E[pre.length] E[pre.length] W hfx2 hiw hle hle)
        rw [show decide (E[pre.length] = E[pre.length]) = true by simp] at HINT
        have HEIB := Lib.hid hei
        have HQ := Lib.hid hq
        have HLEN := Lib.hid hlen
        generalize E[pre.length] = el at *
        clear hei hq up hfx hfx2 hiw hcapw hsp hlen hgd hLo hle
        have hnn : ((pre.length : Int) != (pre.length : Int)) = false := by simp
        gi_wp2_with fail
        refine ⟨trivial, ?_⟩
        refine (CallsIn.inRound l (callsIn_wide.2 HINT.out)).mono ?_
        rintro e w8 ⟨rfl, hb⟩
        replace g4 := keep_cellS hb g4
        replace g11 := keep_cellS hb g11
        replace g12F := keep_fz hb (World.block_lt_of_cell? _ ⟨Wa.heap.size + 1, 0, none⟩ g12) g12F
        replace g12 := keep_cellS hb g12
        have HEI8 := Lib.hid ((EI.still hz13 hzw (Z := fun _ => True)).ext pre W w8 ⟨HEIB.out, trivial⟩ hb).1
        have HKP := Lib.hid (fun u => (KeepM.of_below (B := W4.heap.size) (m := 0 + 2) (G := fun k => k < wc.heap.size) hb).setCell (p := ⟨Wa.heap.size + 1, 0, none⟩) (by show ¬ (W4.heap.size ≤ Wa.heap.size + 1 ∧ _); omega) (by show ¬ (Wa.heap.size + 1 < wc.heap.size); omega) u)
        clear hb HINT hcw0
        gi_wp2_with fail
        exact ⟨HKP.out _, by rw [HLEN.out]; exact HEI8.out.next (by omega), trivial⟩
      case done1 =>
        rintro xs Wb hxs ⟨hei, _⟩ hD
        have hxl : xs.length = E.length := by have h := congrArg List.length hxs; simpa using h
        rw [hxl] at hei
        clear hxs hxl
        have hsz := HB1.out.size
        have up : ∀ q : Addr, q.block < wc.heap.size → Wb.cell? q = wc.cell? q := fun q hq => (hei.cell (by omega) (by omega)).trans (HB1.out.cell hq)
        have g4 : Wb.cell? ⟨w.heap.size + 1, 0, none⟩ = some (.int .i64 many) := (up _ (by simp; omega)).trans HG4.out
        have d0 : Wb.cell? ⟨w3.heap.size, 0, none⟩ = some (.slice oo E.length co) := (up _ (by simp; omega)).trans HD0.out
        have g11 : Wb.cell? ⟨Wa.heap.size, 0, none⟩ = some (.int .i64 1) := (hei.cell (by simp; omega) (by simp)).trans HT1.out
        have g12 := hei.at13
        have g12F := hei.at13F
        have HEIb := Lib.hid hei
        have HDb := Lib.hid hD
        have HUPb := Lib.hid (HEIb.out.up HBW.out HB1.out (by omega))
        have hne : ((E.length : Int) != (E.length : Int)) = false := by simp
        clear up hei hD
        go_wp2_with fail
        rw [rounds_succ]
        go_wp2_with fail
        refine (HWK.out _ (HBW.out.trans ((HUPb.out.alloc HUPb.out.size (.cells #[.int .i64 2] 3)).mono hzw2))).mono ?_
        rintro e w9 ⟨rfl, hb9⟩
        have HB9 := Lib.hid ((HUPb.out.alloc HUPb.out.size (.cells #[.int .i64 2] 3)).trans (hb9.mono (by have := HUPb.out.size; simp; omega)))
        have r0 : w9.cell? ⟨w.heap.size + 1 + 1, 0, none⟩ = some (.bool false) := by rw [HB9.out.cell (by simp; omega)]; exact HB0c.out
        have r0F : w9.frozen? ⟨w.heap.size + 1 + 1, 0, none⟩ = false := by rw [HB9.out.frozen (by simp; omega)]; exact HF0c.out
        have hlb := (Array.getElem?_eq_some_iff.1 HDb.out).1
        have hla := (Array.getElem?_eq_some_iff.1 HD4.out).1
        have D1 : w9.heap[W4.heap.size]? = some (.deferred (some [])) := (hb9.block _ (by simp; omega)).trans ((Below.heap_alloc _ _ _ hlb).trans HDb.out)
        have D0 : w9.heap[W3.heap.size]? = some (.deferred (some [])) := (hb9.block _ (by have := HEIb.out.size; simp; omega)).trans ((Below.heap_alloc _ _ _ (by have := HEIb.out.size; omega)).trans ((HEIb.out.same _ hla (by omega)).trans HD4.out))
        have HD1 := Lib.hid D1
        have HD0b := Lib.hid D0
        clear hb9 D1 D0
        go_wp2_with fail
        have e1 : (w9.setCell ⟨w.heap.size + 1 + 1, 0, none⟩ (.bool true)).heap[W4.heap.size]? = some (.deferred (some [])) := (Below.heap_setCell _ _ _ _ (by simp; omega)).trans HD1.out
        have e0 : (w9.setCell ⟨w.heap.size + 1 + 1, 0, none⟩ (.bool true)).heap[W3.heap.size]? = some (.deferred (some [])) := (Below.heap_setCell _ _ _ _ (by simp; omega)).trans HD0b.out
        rw [hz4] at e1
        rw [hz3] at e0
        refine ⟨by simp, .inl ⟨_, _, rfl, run_takeDeferred e1, ?_⟩⟩
        have e2 : ((w9.setCell ⟨w.heap.size + 1 + 1, 0, none⟩ (.bool true)).putObj (Wa.heap.size + 1 + 1) (.deferred none)).heap[wc.heap.size + 1 + 1]? = some (.deferred (some [])) := (World.putObj_heap_other (by omega)).trans e0
        refine ⟨by simp, .inl ⟨_, _, rfl, run_takeDeferred e2, ?_⟩⟩
        have hcell : (((w9.setCell ⟨w.heap.size + 1 + 1, 0, none⟩ (.bool true)).putObj (Wa.heap.size + 1 + 1) (.deferred none)).putObj (wc.heap.size + 1 + 1) (.deferred none)).cell? ⟨w.heap.size + 1 + 1, 0, none⟩ = some (.bool true) := cell_put (cell_put (World.cell?_setCell_same' _ _ _ (by rw [r0]; rfl)) e1 _) e2 _
        exact ⟨.bool true, by simp [results, Tryz.results3, go_sem, hcell], rfl, below_put (below_put ((HBW.out.trans (HB9.out.mono hzw2)).setCell (p := ⟨w.heap.size + 1 + 1, 0, none⟩) (by simp; omega) _) (by omega) _) (by omega) _⟩
      case stop1 =>
        intro c pre W _ hix
        exact hix.elim
    case stop0 =>
      rintro c pre Wa hsp ⟨rfl, hei, q1, q2, q3⟩ hD
      have hpl := spo_le hsp
      have hsz := HB0.out.size
      have up : ∀ q : Addr, q.block < wc.heap.size → Wa.cell? q = wc.cell? q := fun q hq => (hei.cell (by omega) (by omega)).trans (HB0.out.cell hq)
      have g4 : Wa.cell? ⟨w.heap.size + 1, 0, none⟩ = some (.int .i64 many) := (up _ (by simp; omega)).trans HG4.out
      have d0 : Wa.cell? ⟨w3.heap.size, 0, none⟩ = some (.slice oo E.length co) := (up _ (by simp; omega)).trans HD0.out
      have g11 : Wa.cell? ⟨wc.heap.size, 0, none⟩ = some (.int .i64 0) := (hei.cell (by simp; omega) (by simp)).trans HT0.out
      have g12 := hei.at13
      have g12F := hei.at13F
      have HEI := Lib.hid hei
      have HD := Lib.hid hD
      obtain ⟨M, hM⟩ : ∃ M, max (1 : Int) many = M := ⟨_, rfl⟩
      have hmn : min (E.length : Int) M = (pre.length : Int) := by omega
      have hne : ((pre.length : Int) != (pre.length : Int)) = false := by simp
      clear up hei hD hsp q1 q2 q3
      refine wpIn_wide.2 ?_
      go_wp2_with fail
      have HUP := Lib.hid (HEI.out.up HBW.out HB0.out (by omega))
      rw [rounds_succ]
      go_wp2_with fail
      obtain ⟨W4, hW4⟩ : ∃ W4, (Wa.alloc (.cells #[.int .i64 1] 3)).alloc (.cells #[.int .i64 0] 3) = W4 := ⟨_, rfl⟩
      have hzW : wc.heap.size + 1 < Wa.heap.size := by have := HEI.out.size; omega
      have HB1 : Hid (Below wc.heap.size wc W4) := Lib.hid (by rw [← hW4]; exact (HUP.out.alloc HUP.out.size _).alloc (by have := HUP.out.size; simp; omega) _)
      have hz4 : W4.heap.size = Wa.heap.size + 1 + 1 := by rw [← hW4]; simp
      have hz13 : Wa.heap.size + 1 < W4.heap.size := by omega
      have hzw : w.heap.size ≤ W4.heap.size := by omega
      have HT1 : Hid (W4.cell? ⟨Wa.heap.size, 0, none⟩ = some (.int .i64 1)) := Lib.hid (by rw [← hW4]; simp [go_sem])
      have HEI1 : Hid (EI w W4 (Wa.heap.size + 1) 0 W4) := Lib.hid ⟨Nat.le_refl _, fun _ _ _ => rfl, HBW.out.trans (HB1.out.mono hzw2), by rw [← hW4]; simp [go_sem], by rw [← hW4]; simp [go_sem]⟩
      have HD4 : Hid (W4.heap[W3.heap.size]? = some (.deferred (some []))) := Lib.hid (by rw [← hW4, Below.heap_alloc _ _ _ (by have := (Array.getElem?_eq_some_iff.1 HD.out).1; simp; omega), Below.heap_alloc _ _ _ (Array.getElem?_eq_some_iff.1 HD.out).1]; exact HD.out)
      try rw [hW4]
      refine (wpIn_wide (n := 5)).1 ?_
      refine wpIn_turnsX (F := Fence.wide) (G := fun k => k < wc.heap.size) (m := 0) rfl (by decide) (gf := 36) (fb := #[]) (lb := #[.pointer (some ⟨cb, 0, none⟩)]) rfl trivial (enters_of Tryz.func36 (by kernel_rfl) rfl)
        (HSEQ.out.up HB1.out) (fun k hk => by have := HB1.out.size; omega) (fun x => rfl)
        (fun pre W => EI w W4 (Wa.heap.size + 1) pre.length W ∧ True)
        (fun _ _ _ => False)
        (EI.still hz13 hzw (Z := fun pre => True))
        (fun _ => ⟨fun _ _ _ h _ => h, fun _ _ _ _ _ _ h _ => h⟩)
        (fun x W l r o _ hx hl => ints_loop hx hl o)
        ⟨HEI1.out, trivial⟩
        (fun x => { tmps := #[Value.agg #[Value.slice p.oc S.cols.length p.cc, Value.slice p.ok S.key.length p.ck, Value.slice p.ou S.uqs.length p.cu], Value.string name, Value.int .i64 many, Value.pointer (some { block := w.heap.size, off := 0 }), undef, Value.pointer (some { block := w.heap.size + 1, off := 0 }), Value.pointer (some { block := w.heap.size + 1 + 1, off := 0 }), Value.pointer (some { block := w3.heap.size, off := 0 }), Value.int .i64 at', Value.bool (decide (0 ≤ fc)), Value.func (.func 36) #[] #[Value.pointer (some { block := cb, off := 0 })], Value.pointer (some { block := Wa.heap.size, off := 0 }), Value.pointer (some { block := Wa.heap.size + 1, off := 0 }), .int .i64 (x.1 : Int), .slice x.2.1 (E.getD x.1 []).length x.2.2, Value.agg #[Value.slice p.oc S.cols.length p.cc, Value.slice p.ok S.key.length p.ck, Value.slice p.ou S.uqs.length p.cu], Value.bool true, Value.bool false, Value.bool false, Value.string name, Value.int .i64 ↑name.size, Value.bool false, Value.bool false, undef, Value.agg #[Value.slice p.oc S.cols.length p.cc, Value.slice p.ok S.key.length p.ck, Value.slice p.ou S.uqs.length p.cu], Value.slice oo E.length co, Value.tuple #[Value.int .i64 at', Value.bool (decide (0 ≤ fc))], Value.agg #[Value.slice p.oc S.cols.length p.cc, Value.slice p.ok S.key.length p.ck, Value.slice p.ou S.uqs.length p.cu], Value.string name, Value.tuple #[Value.int .i64 at', Value.bool (decide (0 ≤ fc))], Value.int .i64 at', Value.bool (decide (0 ≤ fc)), Value.agg #[Value.slice p.oc S.cols.length p.cc, Value.slice p.ok S.key.length p.ck, Value.slice p.ou S.uqs.length p.cu], Value.func (.func 36) #[] #[Value.pointer (some { block := cb, off := 0 })], u34, u35, u36, u37, u38, u39, u40, u41, u42, u43, u44, u45, u46, u47, u48, u49, u50, u51, u52, u53, u54, u55, u56, u57, u58, u59, u60, u61, u62, u63, u64, u65, u66, u67, u68, u69, u70, Value.bool false, Value.int .i64 1, Value.bool true, Value.int .i64 0, Value.int .i64 1, Value.func (.func 36) #[] #[Value.pointer (some { block := cb, off := 0 })], .int .i64 (x.1 : Int), .slice x.2.1 (E.getD x.1 []).length x.2.2, undef, undef, undef, undef, undef, undef, undef, undef, undef, undef, undef, undef, undef, undef, undef, undef, undef, undef, undef, undef, undef, undef, undef, undef, undef, undef, undef, Value.int .i64 0, Value.bool true, Value.bool true, Value.int .i64 ↑pre.length, Value.slice oo E.length co, Value.int .i64 ↑E.length, Value.int .i64 many, Value.int .i64 M, Value.int .i64 ↑pre.length, Value.bool false, Value.bool false, Value.bool false, Value.int .i64 0, Value.bool false, Value.bool false, undef, undef, undef, undef, Value.bool false, Value.bool false, Value.int .i64 0, undef], defers := [] }) ?assign1 ?body1 ?done1 ?stop1
      case assign1 =>
        intro l x W K hK
        simp only [encO]
        gi_wp2
        exact hK
      case body1 =>
        rintro l pre ⟨xn, xa, xc⟩ W ⟨hei, hq⟩ hsp hfx hszW
        obtain ⟨hlt, hx⟩ := spo_at hsp
        dsimp only at hx
        subst hx
        have hsz := HB1.out.size
        have up : ∀ q : Addr, q.block < wc.heap.size → W.cell? q = wc.cell? q := fun q hq => (hei.cell (by omega) (by omega)).trans (HB1.out.cell hq)
        have g4 : W.cell? ⟨w.heap.size + 1, 0, none⟩ = some (.int .i64 many) := (up _ (by simp; omega)).trans HG4.out
        have d0 : W.cell? ⟨w3.heap.size, 0, none⟩ = some (.slice oo E.length co) := (up _ (by simp; omega)).trans HD0.out
        have g11 : W.cell? ⟨Wa.heap.size, 0, none⟩ = some (.int .i64 1) := (hei.cell (by simp; omega) (by simp)).trans HT1.out
        have g12 := hei.at13
        have g12F := hei.at13F
        have hLo : Lo wc W := ⟨by have := hei.size; omega, fun k hk => (hei.same k (by omega) (by omega)).trans (HB1.out.block k hk)⟩
        obtain ⟨aw, rfl, hcw0, hcapw, hiw⟩ := sets_lo hLo HWS.out pre.length hlt
        have hgd : E.getD pre.length [] = E[pre.length] := by rw [List.getD_eq_getElem?_getD, List.getElem?_eq_getElem hlt]; rfl
        have hfx2 : IntsIn W xa E[pre.length] := by rw [← hgd]; exact hfx
        have hle := HEL.out _ (List.getElem_mem hlt)
        have hd : decide ((E.length : Int) ≤ (pre.length : Int)) = false := by simp; omega
        have hlt2 : (pre.length : Int) < (E.length : Int) := by omega
        have hlen : (pre ++ [((pre.length, (xa, xc)) : NSl)]).length = pre.length + 1 := by simp
        dsimp only
        rw [hgd]
        have HINT := Lib.hid (Ints_any xa (hAt hs pre.length).1 xc (hAt hs pre.length).2 E[pre.length] E[pre.length] W hfx2 hiw hle hle)
        rw [show decide (E[pre.length] = E[pre.length]) = true by simp] at HINT
        have HEIB := Lib.hid hei
        have HQ := Lib.hid hq
        have HLEN := Lib.hid hlen
        generalize E[pre.length] = el at *
        clear hei hq up hfx hfx2 hiw hcapw hsp hlen hgd hLo hle
        have hnn : ((pre.length : Int) != (pre.length : Int)) = false := by simp
        gi_wp2_with fail
        refine ⟨trivial, ?_⟩
        refine (CallsIn.inRound l (callsIn_wide.2 HINT.out)).mono ?_
        rintro e w8 ⟨rfl, hb⟩
        replace g4 := keep_cellS hb g4
        replace g11 := keep_cellS hb g11
        replace g12F := keep_fz hb (World.block_lt_of_cell? _ ⟨Wa.heap.size + 1, 0, none⟩ g12) g12F
        replace g12 := keep_cellS hb g12
        have HEI8 := Lib.hid ((EI.still hz13 hzw (Z := fun _ => True)).ext pre W w8 ⟨HEIB.out, trivial⟩ hb).1
        have HKP := Lib.hid (fun u => (KeepM.of_below (B := W4.heap.size) (m := 0 + 2) (G := fun k => k < wc.heap.size) hb).setCell (p := ⟨Wa.heap.size + 1, 0, none⟩) (by show ¬ (W4.heap.size ≤ Wa.heap.size + 1 ∧ _); omega) (by show ¬ (Wa.heap.size + 1 < wc.heap.size); omega) u)
        clear hb HINT hcw0
        gi_wp2_with fail
        exact ⟨HKP.out _, by rw [HLEN.out]; exact HEI8.out.next (by omega), trivial⟩
      case done1 =>
        rintro xs Wb hxs ⟨hei, _⟩ hD
        have hxl : xs.length = E.length := by have h := congrArg List.length hxs; simpa using h
        rw [hxl] at hei
        clear hxs hxl
        have hsz := HB1.out.size
        have up : ∀ q : Addr, q.block < wc.heap.size → Wb.cell? q = wc.cell? q := fun q hq => (hei.cell (by omega) (by omega)).trans (HB1.out.cell hq)
        have g4 : Wb.cell? ⟨w.heap.size + 1, 0, none⟩ = some (.int .i64 many) := (up _ (by simp; omega)).trans HG4.out
        have d0 : Wb.cell? ⟨w3.heap.size, 0, none⟩ = some (.slice oo E.length co) := (up _ (by simp; omega)).trans HD0.out
        have g11 : Wb.cell? ⟨Wa.heap.size, 0, none⟩ = some (.int .i64 1) := (hei.cell (by simp; omega) (by simp)).trans HT1.out
        have g12 := hei.at13
        have g12F := hei.at13F
        have HEIb := Lib.hid hei
        have HDb := Lib.hid hD
        have HUPb := Lib.hid (HEIb.out.up HBW.out HB1.out (by omega))
        have hne : ((E.length : Int) != (E.length : Int)) = false := by simp
        clear up hei hD
        go_wp2_with fail
        rw [rounds_succ]
        go_wp2_with fail
        refine (HWK.out _ (HBW.out.trans ((HUPb.out.alloc HUPb.out.size (.cells #[.int .i64 2] 3)).mono hzw2))).mono ?_
        rintro e w9 ⟨rfl, hb9⟩
        have HB9 := Lib.hid ((HUPb.out.alloc HUPb.out.size (.cells #[.int .i64 2] 3)).trans (hb9.mono (by have := HUPb.out.size; simp; omega)))
        have r0 : w9.cell? ⟨w.heap.size + 1 + 1, 0, none⟩ = some (.bool false) := by rw [HB9.out.cell (by simp; omega)]; exact HB0c.out
        have r0F : w9.frozen? ⟨w.heap.size + 1 + 1, 0, none⟩ = false := by rw [HB9.out.frozen (by simp; omega)]; exact HF0c.out
        have hlb := (Array.getElem?_eq_some_iff.1 HDb.out).1
        have hla := (Array.getElem?_eq_some_iff.1 HD4.out).1
        have D1 : w9.heap[W4.heap.size]? = some (.deferred (some [])) := (hb9.block _ (by simp; omega)).trans ((Below.heap_alloc _ _ _ hlb).trans HDb.out)
        have D0 : w9.heap[W3.heap.size]? = some (.deferred (some [])) := (hb9.block _ (by have := HEIb.out.size; simp; omega)).trans ((Below.heap_alloc _ _ _ (by have := HEIb.out.size; omega)).trans ((HEIb.out.same _ hla (by omega)).trans HD4.out))
        have HD1 := Lib.hid D1
        have HD0b := Lib.hid D0
        clear hb9 D1 D0
        go_wp2_with fail
        have e1 : (w9.setCell ⟨w.heap.size + 1 + 1, 0, none⟩ (.bool true)).heap[W4.heap.size]? = some (.deferred (some [])) := (Below.heap_setCell _ _ _ _ (by simp; omega)).trans HD1.out
        have e0 : (w9.setCell ⟨w.heap.size + 1 + 1, 0, none⟩ (.bool true)).heap[W3.heap.size]? = some (.deferred (some [])) := (Below.heap_setCell _ _ _ _ (by simp; omega)).trans HD0b.out
        rw [hz4] at e1
        rw [hz3] at e0
        refine ⟨by simp, .inl ⟨_, _, rfl, run_takeDeferred e1, ?_⟩⟩
        have e2 : ((w9.setCell ⟨w.heap.size + 1 + 1, 0, none⟩ (.bool true)).putObj (Wa.heap.size + 1 + 1) (.deferred none)).heap[wc.heap.size + 1 + 1]? = some (.deferred (some [])) := (World.putObj_heap_other (by omega)).trans e0
        refine ⟨by simp, .inl ⟨_, _, rfl, run_takeDeferred e2, ?_⟩⟩
        have hcell : (((w9.setCell ⟨w.heap.size + 1 + 1, 0, none⟩ (.bool true)).putObj (Wa.heap.size + 1 + 1) (.deferred none)).putObj (wc.heap.size + 1 + 1) (.deferred none)).cell? ⟨w.heap.size + 1 + 1, 0, none⟩ = some (.bool true) := cell_put (cell_put (World.cell?_setCell_same' _ _ _ (by rw [r0]; rfl)) e1 _) e2 _
        exact ⟨.bool true, by simp [results, Tryz.results3, go_sem, hcell], rfl, below_put (below_put ((HBW.out.trans (HB9.out.mono hzw2)).setCell (p := ⟨w.heap.size + 1 + 1, 0, none⟩) (by simp; omega) _) (by omega) _) (by omega) _⟩
      case stop1 =>
        intro c pre W _ hix
        exact hix.elim
end Go.Proofs.YtjlhbpacecbfmaaGreatDoor
