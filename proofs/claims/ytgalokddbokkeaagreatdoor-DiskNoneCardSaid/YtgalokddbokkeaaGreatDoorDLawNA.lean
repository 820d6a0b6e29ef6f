/-
  disk: the law of none.
-/
import Derived.Test.YtgalokddbokkeaaGreatDoorDLawN
namespace Go.Proofs.YtgalokddbokkeaaGreatDoor
open Go.RowKit

set_option maxRecDepth 100000 in
set_option maxHeartbeats 8000000 in
theorem lawNone_Nilbig (wh fi nn tn : Int) (oa : Option Addr) (n c : Nat) (w : World) (hET : HasET w) (hn : n ≤ 60) (hodd : Int.tmod nn 2 ≠ 0) (hup : 63 < fi) :
    Calls Tryz.prog 3 #[.agg #[.int .i64 wh, .int .i64 fi, .int .i64 nn, .int .i64 tn, .slice oa n c]] w fun e w' => e = .returned (.bool true) ∧ Below w.heap.size w w' := by
  refine (callsIn_wide (n := 5)).1 ?_
  refine callsIn_of_wp_marks Tryz.func3 rfl trivial ?_ rfl
  simp only [Tryz.ntmps3, List.size_toArray, List.length_cons, List.length_nil, Nat.reduceAdd, Nat.reduceSub, Array.replicate_succ, Array.replicate_zero, List.push_toArray, List.append_toArray, List.nil_append, List.cons_append]
  refine wpIn_wide.2 ?_
  go_wp2_with fail
  obtain ⟨W0, hW0⟩ : ∃ W0, (((w.alloc (.cells #[.int .i64 wh, .int .i64 fi, .int .i64 nn, .int .i64 tn, .slice oa n c] 24)).alloc (.cells #[.bool false] 4)).alloc (.cells #[.int .i64 wh, .int .i64 fi, .int .i64 nn, .int .i64 tn, .slice oa n c] 24)) = W0 := ⟨_, rfl⟩
  have hb0 : Below w.heap.size w W0 := by rw [← hW0]; exact (((Below.refl _ w).alloc (Nat.le_refl _) _).alloc (by simp) _).alloc (by simp; omega) _
  have hc2 : W0.cell? ⟨w.heap.size + 1 + 1, 4, none⟩ = some (.slice oa n c) := by rw [← hW0]; simp [go_sem]
  have hr : W0.cell? ⟨w.heap.size + 1, 0, none⟩ = some (.bool false) := by rw [← hW0]; simp [go_sem]
  have hrF : W0.frozen? ⟨w.heap.size + 1, 0, none⟩ = false := by rw [← hW0]; simp [go_sem]
  have hx1 : W0.cell? ⟨w.heap.size, 1, none⟩ = some (.int .i64 fi) := by rw [← hW0]; simp [go_sem]
  have hx2 : W0.cell? ⟨w.heap.size, 2, none⟩ = some (.int .i64 nn) := by rw [← hW0]; simp [go_sem]
  have hx3 : W0.cell? ⟨w.heap.size, 3, none⟩ = some (.int .i64 tn) := by rw [← hW0]; simp [go_sem]
  have hx4 : W0.cell? ⟨w.heap.size, 4, none⟩ = some (.slice oa n c) := by rw [← hW0]; simp [go_sem]
  have HF := few_one _ oa n c W0 hc2
  rw [decide_eq_true hn] at HF
  have hrl := World.block_lt_of_cell? W0 _ hr
  have hET0 := hET.below hb0 hET.lt
  have HB0 := Lib.hid hb0
  try rw [hW0]
  clear hW0 hc2
  refine HF.mono ?_
  rintro e w1 ⟨rfl, rfl⟩
  clear HF
  have HC := Lib.hid (fun (W : World) (hb : Below w1.heap.size w1 W) => (⟨(hb.cell (World.block_lt_of_cell? w1 _ hx1)).trans hx1, (hb.cell (World.block_lt_of_cell? w1 _ hx2)).trans hx2, (hb.cell (World.block_lt_of_cell? w1 _ hx3)).trans hx3, (hb.cell (World.block_lt_of_cell? w1 _ hx4)).trans hx4, (hb.cell hrl).trans hr, (hb.frozen hrl).trans hrF⟩ : W.cell? ⟨w.heap.size, 1, none⟩ = some (.int .i64 fi) ∧ W.cell? ⟨w.heap.size, 2, none⟩ = some (.int .i64 nn) ∧ W.cell? ⟨w.heap.size, 3, none⟩ = some (.int .i64 tn) ∧ W.cell? ⟨w.heap.size, 4, none⟩ = some (.slice oa n c) ∧ W.cell? ⟨w.heap.size + 1, 0, none⟩ = some (.bool false) ∧ W.frozen? ⟨w.heap.size + 1, 0, none⟩ = false))
  have HE : Hid (∀ W, Below w1.heap.size w1 W → HasET W) := Lib.hid fun W hb => hET0.below hb hET0.lt
  have hnf : ∀ b W, (binOp .eql 38 (.func (.func 24) #[] #[.pointer (some ⟨b, 0, none⟩)]) .nilFunc).run Tryz.prog W = .ok (.bool false) W := fun _ _ => rfl
  go_wp2_with fail
  obtain ⟨W1, hW1⟩ : ∃ W1, W1 = w1 := ⟨_, rfl⟩
  have hb1 : Below w1.heap.size w1 W1 := by rw [hW1]; exact Below.refl _ _
  have hN : NoDisk W1 (.pointer none) := .inl rfl
  try rw [← hW1]
  have HR : Hid (∀ W, Below W1.heap.size W1 W → Calls Tryz.prog 6 #[.pointer none, .int .i64 fi] W fun e w' => e = .returned (.tuple #[.slice none 0 0, .int .i64 1]) ∧ Below W1.heap.size W1 w') := Lib.hid fun W hb => (Read_no _ fi W (HE.out W (hb1.trans (hb.mono hb1.size))) (hN.keep hb)).mono fun _ _ ⟨e, h⟩ => ⟨e, hb.trans (h.mono hb.size)⟩
  have HFi : Hid (∀ W, Below W1.heap.size W1 W → Calls Tryz.prog 7 #[.pointer none] W fun e w' => (∃ b, e = .returned (.func (.func 24) #[] #[.pointer (some ⟨b, 0, none⟩)]) ∧ w'.cell? ⟨b, 0, none⟩ = some (.map none)) ∧ Below W1.heap.size W1 w') := Lib.hid fun W hb => (Files_no _ W (hN.keep hb)).mono fun _ _ ⟨⟨b, _, e, h0⟩, h⟩ => ⟨⟨b, e, h0⟩, hb.trans (h.mono hb.size)⟩
  have HB1 := Lib.hid hb1
  have HN1 := Lib.hid hN
  have hbr := Below.refl W1.heap.size W1
  clear hx1 hx2 hx3 hx4 hr hrF hb0 hN hrl hET0 hb1
  refine (HR.out _ hbr).mono ?_
  rintro e w2 ⟨rfl, hb2⟩
  clear hbr
  go_wp2_with fail
  refine (HFi.out _ hb2).mono ?_
  rintro e w3 ⟨⟨b, rfl, hb⟩, hb3⟩
  clear hb2
  go_wp2_with fail
  refine (wpIn_wide (n := 5)).1 ?_
  have HFc := Lib.hid (fun (W : World) (l : Nat) (h : Below w3.heap.size w3 W) => files1_nil l b W ((h.cell (World.block_lt_of_cell? w3 _ hb)).trans hb))
  clear hb
  refine wpIn_seqNone (by decide) (gf := 24) (fb := #[]) (lb := #[.pointer (some ⟨b, 0, none⟩)]) rfl (enters_of Tryz.func24 (by kernel_rfl) rfl) (fun W y l e h => by subst e; exact HFc.out W l h) ?_
  intro W4 hb4 hd
  replace hb4 := hb3.trans (hb4.mono hb3.size)
  have hd3 : W1.heap.size ≤ w3.heap.size := hb3.size
  clear hb3 HFc HR HFi
  go_wp2_with fail
  refine (run_new 9 W4 (by decide) (by decide)).mono ?_
  rintro e w5 ⟨p, rfl, hrun⟩
  obtain ⟨Φ, hD, hb5, hI⟩ := hrun
  have hdl := (Array.getElem?_eq_some_iff.1 hd).1
  have hd5 := (hb5.block _ hdl).trans hd
  replace hb5 := hb4.trans (hb5.mono hb4.size)
  clear hb4 hd
  obtain ⟨dl, hdl2⟩ : ∃ dl, w3.heap.size = dl := ⟨_, rfl⟩
  rw [hdl2] at hd5 hdl hd3
  try rw [hdl2]
  clear hdl2
  have hdl5 := (Array.getElem?_eq_some_iff.1 hd5).1
  have HC5 := Lib.hid (fun (W : World) (hb : Below w5.heap.size w5 W) => HC.out W (HB1.out.trans ((hb5.trans (hb.mono hb5.size)).mono HB1.out.size)))
  have HE5 := Lib.hid (fun (W : World) (hb : Below w5.heap.size w5 W) => HE.out W (HB1.out.trans ((hb5.trans (hb.mono hb5.size)).mono HB1.out.size)))
  have HN5 := Lib.hid (fun (W : World) (hb : Below w5.heap.size w5 W) => HN1.out.keep (hb5.trans (hb.mono hb5.size)))
  have HD5 := Lib.hid (fun (W : World) (hb : Below w5.heap.size w5 W) => (hb.block _ hdl5).trans hd5)
  have HK5 := Lib.hid (fun (W : World) (hb : Below w5.heap.size w5 W) => hD.below hb)
  have HRd : Hid (∀ W, Below w5.heap.size w5 W → Calls Tryz.prog 6 #[.pointer (some ⟨p, 0, none⟩), .int .i64 fi] W fun e w' => (∃ v, e = .returned (.tuple #[v, .int .i64 4])) ∧ Below W.heap.size W w') := Lib.hid fun W hb => (Read_bad (HK5.out W hb) (HE5.out W hb) fi (by unfold badFile; omega)).mono fun _ _ ⟨e, h⟩ => ⟨⟨_, e⟩, h⟩
  have HAp : Hid (∀ W, Below w5.heap.size w5 W → Calls Tryz.prog 10 #[.pointer none, .int .i64 fi, .slice oa n c] W fun e w' => e = .returned (.int .i64 1) ∧ Below W.heap.size W w') := Lib.hid fun W hb => (Append_no _ fi oa n c W (HE5.out W hb) (HN5.out W hb)).mono fun _ _ ⟨e, h⟩ => ⟨e, h⟩
  have HCu : Hid (∀ W, Below w5.heap.size w5 W → Calls Tryz.prog 11 #[.pointer none, .int .i64 fi, .int .i64 nn] W fun e w' => e = .returned (.int .i64 1) ∧ Below W.heap.size W w') := Lib.hid fun W hb => (Cut_no _ fi nn W (HE5.out W hb) (HN5.out W hb)).mono fun _ _ ⟨e, h⟩ => ⟨e, h⟩
  have HSy : Hid (∀ W, Below w5.heap.size w5 W → Calls Tryz.prog 12 #[.pointer none] W fun e w' => e = .returned (.int .i64 1) ∧ Below W.heap.size W w') := Lib.hid fun W hb => (Sync_no _ W (HE5.out W hb) (HN5.out W hb)).mono fun _ _ ⟨e, h⟩ => ⟨e, h⟩
  have HCr : Hid (∀ W, Below w5.heap.size w5 W → Calls Tryz.prog 13 #[.pointer none, .int .i64 nn, .int .i64 tn] W fun e w' => e = .returned (.int .i64 1) ∧ Below W.heap.size W w') := Lib.hid fun W hb => (Crash_no _ nn tn W (HE5.out W hb) (HN5.out W hb)).mono fun _ _ ⟨e, h⟩ => ⟨e, h⟩
  have HLo : Hid (∀ W, Below w5.heap.size w5 W → Calls Tryz.prog 14 #[.pointer none] W fun e w' => e = .returned (.int .i64 0) ∧ Below W.heap.size W w') := Lib.hid fun W hb => (Loose_no _ W (HN5.out W hb)).mono fun _ _ ⟨e, h⟩ => ⟨e, h⟩
  have HLe : Hid (∀ W, Below w5.heap.size w5 W → Calls Tryz.prog 15 #[.pointer none] W fun e w' => e = .returned (.int .i64 0) ∧ Below W.heap.size W w') := Lib.hid fun W hb => (Left_no _ W (HN5.out W hb)).mono fun _ _ ⟨e, h⟩ => ⟨e, h⟩
  have HCp : Hid (∀ W, Below w5.heap.size w5 W → Calls Tryz.prog 16 #[.pointer none] W fun e w' => e = .returned (.pointer none) ∧ Below W.heap.size W w') := Lib.hid fun W hb => (Copy_no _ W (HN5.out W hb)).mono fun _ _ ⟨e, h⟩ => ⟨e, h⟩
  have HSn : Hid (∀ W, Below w5.heap.size w5 W → Calls Tryz.prog 17 #[.pointer none, .pointer none] W fun e w' => e = .returned (.bool true) ∧ Below W.heap.size W w') := Lib.hid fun W hb => (Same_nn _ W (HN5.out W hb)).mono fun _ _ ⟨e, h⟩ => ⟨e, h⟩
  have HSd : Hid (∀ W, Below w5.heap.size w5 W → Calls Tryz.prog 17 #[.pointer (some ⟨p, 0, none⟩), .pointer none] W fun e w' => e = .returned (.bool false) ∧ Below W.heap.size W w') := Lib.hid fun W hb => by
    obtain ⟨mf, ms, V, U, lv, B, h⟩ := HK5.out W hb
    exact (Same_dn p mf _ W h.isDisk (HN5.out W hb)).mono fun _ _ ⟨e, h⟩ => ⟨e, h⟩
  have HW : Hid (∀ W, Below w5.heap.size w5 W → Calls Tryz.prog 5 #[] W fun e w' => e = .returned (.bool true) ∧ Below W.heap.size W w') := Lib.hid fun W hb => (works_trueD W (HE5.out W hb)).mono fun _ _ ⟨e, h⟩ => ⟨e, h⟩
  have hsz := Nat.le_trans HB1.out.size hb5.size
  have hwd : w.heap.size ≤ dl := Nat.le_trans HB0.out.size (Nat.le_trans HB1.out.size hd3)
  have HBA := Lib.hid (HB0.out.trans ((HB1.out.trans (hb5.mono HB1.out.size)).mono HB0.out.size))
  have hrl5 : w.heap.size + 1 < w5.heap.size := World.block_lt_of_cell? w5 _ (HC5.out w5 (Below.refl _ _)).2.2.2.2.1
  have hb6 := Below.refl w5.heap.size w5
  obtain ⟨hx1, hx2, hx3, hx4, hr, hrF⟩ := HC5.out w5 hb6
  clear hd5 hb5 hD hI hdl hdl5 HC HE HB1 HN1
  go_wp2_with (first | (go_at_call 6; refine (HRd.out _ hb6).mono ?_; rintro e w6 ⟨⟨v9, rfl⟩, hb7⟩; clear hb6))
  replace hx1 := fun p => later_cell ((hb7.cell (World.block_lt_of_cell? w5 _ hx1)).trans hx1) p
  replace hx2 := fun p => later_cell ((hb7.cell (World.block_lt_of_cell? w5 _ hx2)).trans hx2) p
  replace hx3 := fun p => later_cell ((hb7.cell (World.block_lt_of_cell? w5 _ hx3)).trans hx3) p
  replace hx4 := fun p => later_cell ((hb7.cell (World.block_lt_of_cell? w5 _ hx4)).trans hx4) p
  have HL := Lib.hid (fun (p : Later w6) => hb7.trans (p.h.mono hb7.size))
  have HR6 := Lib.hid (fun (p : Later w6) => And.intro ((p.h.cell (Nat.lt_of_lt_of_le hrl5 hb7.size)).trans ((hb7.cell hrl5).trans hr)) (And.intro ((p.h.frozen (Nat.lt_of_lt_of_le hrl5 hb7.size)).trans ((hb7.frozen hrl5).trans hrF)) (HD5.out p.W (hb7.trans (p.h.mono hb7.size)))))
  clear hr hrF hb7
  have hdn : decide (fi < 0) = false := decide_eq_false (by omega)
  have hdu : decide (63 < fi) = true := decide_eq_true (by omega)
  refine wp_region_lastN 84 (by kernel_rfl) (by kernel_rfl) (by kernel_rfl) ?_
  simp only [List.append, List.take_succ_cons, List.take_zero, List.drop_succ_cons, List.drop_zero]
  repeat (go_big_quiet_step ((first | (go_at_call 9; exact Calls.later_same (lnum_any _ _)) | (go_at_call 10; with_reducible exact Calls.later (HAp.out _ (HL.out _))) | (go_at_call 11; with_reducible exact Calls.later (HCu.out _ (HL.out _))) | (go_at_call 12; with_reducible exact Calls.later (HSy.out _ (HL.out _))) | (go_at_call 13; with_reducible exact Calls.later (HCr.out _ (HL.out _))) | (go_at_call 14; with_reducible exact Calls.later (HLo.out _ (HL.out _))) | (go_at_call 15; with_reducible exact Calls.later (HLe.out _ (HL.out _))) | (go_at_call 16; with_reducible exact Calls.later (HCp.out _ (HL.out _))) | (go_at_call 17; with_reducible exact Calls.later (HSn.out _ (HL.out _))) | (go_at_call 17; with_reducible exact Calls.later (HSd.out _ (HL.out _))) | (go_at_call 5; with_reducible exact Calls.later (HW.out _ (HL.out _))))))
  refine wpQuiet_nil ?_
  rintro w7 ⟨q7, rfl⟩
  obtain ⟨hr, hrF, hd7⟩ := HR6.out q7
  have HD7 := Lib.hid hd7
  clear hd7 hx1 hx2 hx3 hx4
  simp only [lastWp]
  go_wp2_with fail
  have hne : dl ≠ w.heap.size + 1 := fun e => by
    have h1 := HD7.out
    rw [e] at h1
    simp [World.cell?, h1] at hr
  have e1 : (q7.W.setCell ⟨w.heap.size + 1, 0, none⟩ (.bool true)).heap[dl]? = some (.deferred (some [])) := (Below.heap_setCell _ _ _ _ (by first | exact hne | exact fun e => hne e.symm | (simpa using hne))).trans HD7.out
  have hcell : ((q7.W.setCell ⟨w.heap.size + 1, 0, none⟩ (.bool true)).putObj dl (.deferred none)).cell? ⟨w.heap.size + 1, 0, none⟩ = some (.bool true) := cell_putN (World.cell?_setCell_same' _ _ _ (by rw [hr]; rfl)) e1 _
  refine ⟨by simp, .inl ⟨_, _, rfl, run_takeDeferred e1, ?_⟩⟩
  exact ⟨.bool true, by simp [results, Tryz.results3, go_sem, hcell], rfl, ((HBA.out.trans ((HL.out q7).mono HBA.out.size)).setCell (p := ⟨w.heap.size + 1, 0, none⟩) (by simp) _).trans ⟨rfl, rfl, rfl, by simp, fun k hk => World.putObj_heap_other (by omega)⟩⟩
end Go.Proofs.YtgalokddbokkeaaGreatDoor
