/-
  swingbridgelaw03.SchemaSame: true.
-/
import Derived.Test.YtjlhbpacecbfmaaGreatDoorSRSame
import Derived.Test.YtjlhbpacecbfmaaGreatDoorSFew
import Derived.Test.YtjlhbpacecbfmaaGreatDoorSWorks
namespace Go.Proofs.YtjlhbpacecbfmaaGreatDoor
open Go.RowKit

set_option maxRecDepth 100000 in
set_option maxHeartbeats 4000000 in
theorem lawSame_true (p : SchV) (S : Sch) (q : SchV) (T : Sch) (w : World) (hg : HasET w) (hS : SchIn w p S) (m0 : S.cols.length ≤ 9223372036854775807) (m1 : S.key.length ≤ 9223372036854775807) (m2 : S.uqs.length ≤ 9223372036854775807) (m3 : ∀ c ∈ S.cols, c.n.size ≤ 9223372036854775807) (m4 : ∀ l ∈ S.uqs, l.length ≤ 9223372036854775807)
    (hT : SchIn w q T) (n0 : T.cols.length ≤ 9223372036854775807) (n1 : T.key.length ≤ 9223372036854775807) (n2 : T.uqs.length ≤ 9223372036854775807) (n3 : ∀ c ∈ T.cols, c.n.size ≤ 9223372036854775807) (n4 : ∀ l ∈ T.uqs, l.length ≤ 9223372036854775807) :
    Calls Tryz.prog 7 #[.agg #[.slice p.oc S.cols.length p.cc, .slice p.ok S.key.length p.ck, .slice p.ou S.uqs.length p.cu], .agg #[.slice q.oc T.cols.length q.cc, .slice q.ok T.key.length q.ck, .slice q.ou T.uqs.length q.cu]] w fun e w' => e = .returned (.bool true) ∧ Below w.heap.size w w' := by
  have HW : Hid (∀ W, Below w.heap.size w W → Calls Tryz.prog 10 #[] W fun e w' => e = .returned (.bool true) ∧ Below W.heap.size W w') := Lib.hid (fun W hb => sworks_true W (hg.below hb hg.lt))
  have HFS : Hid (∀ W, Below w.heap.size w W → Calls Tryz.prog 9 #[.agg #[.slice p.oc S.cols.length p.cc, .slice p.ok S.key.length p.ck, .slice p.ou S.uqs.length p.cu]] W fun e w' => e = .returned (.bool (fewOk S)) ∧ Below W.heap.size W w') := Lib.hid (fun W hb => few_any p S W (hS.keep hb (Nat.le_refl _)) m0 m1 m2 m3 m4)
  have HFT : Hid (∀ W, Below w.heap.size w W → Calls Tryz.prog 9 #[.agg #[.slice q.oc T.cols.length q.cc, .slice q.ok T.key.length q.ck, .slice q.ou T.uqs.length q.cu]] W fun e w' => e = .returned (.bool (fewOk T)) ∧ Below W.heap.size W w') := Lib.hid (fun W hb => few_any q T W (hT.keep hb (Nat.le_refl _)) n0 n1 n2 n3 n4)
  have HBX := Lib.hid (((Below.refl w.heap.size w).alloc (Nat.le_refl _) (.cells #[.slice p.oc S.cols.length p.cc, .slice p.ok S.key.length p.ck, .slice p.ou S.uqs.length p.cu] 26)).alloc (by simp) (.cells #[.slice q.oc T.cols.length q.cc, .slice q.ok T.key.length q.ck, .slice q.ou T.uqs.length q.cu] 26))
  cases hf : fewOk S
  · have HQ := Lib.hid hf
    clear hf hg hS m0 m1 m2 m3 m4 hT n0 n1 n2 n3 n4
    go_enter Tryz.func7, Tryz.ntmps7
    go_wp2_with fail
    refine (HFS.out _ HBX.out).mono ?_
    rintro e w1 ⟨he, hb1⟩
    rw [HQ.out] at he
    subst he
    have HB1 := Lib.hid (HBX.out.trans (hb1.mono HBX.out.size))
    clear hb1
    go_wp2_with (first | (go_at_call 10; refine (HW.out _ HB1.out).mono ?_; rintro e w2 ⟨rfl, hb2⟩))
    go_ret
    exact ⟨rfl, HB1.out.trans (hb2.mono HB1.out.size)⟩
  cases hh : fewOk T
  · have HQ := Lib.hid hf
    have HQ2 := Lib.hid hh
    clear hf hh hg hS m0 m1 m2 m3 m4 hT n0 n1 n2 n3 n4
    go_enter Tryz.func7, Tryz.ntmps7
    go_wp2_with fail
    refine (HFS.out _ HBX.out).mono ?_
    rintro e w1 ⟨he, hb1⟩
    rw [HQ.out] at he
    subst he
    have HB1 := Lib.hid (HBX.out.trans (hb1.mono HBX.out.size))
    have y0 : w1.cell? ⟨w.heap.size + 1, 0, none⟩ = some (.slice q.oc T.cols.length q.cc) := cell_oldS (by simp [go_sem]) hb1
    have y1 : w1.cell? ⟨w.heap.size + 1, 1, none⟩ = some (.slice q.ok T.key.length q.ck) := cell_oldS (by simp [go_sem]) hb1
    have y2 : w1.cell? ⟨w.heap.size + 1, 2, none⟩ = some (.slice q.ou T.uqs.length q.cu) := cell_oldS (by simp [go_sem]) hb1
    clear hb1
    go_wp2_with fail
    refine (HFT.out _ HB1.out).mono ?_
    rintro e w2 ⟨he, hb2⟩
    rw [HQ2.out] at he
    subst he
    have HB2 := Lib.hid (HB1.out.trans (hb2.mono HB1.out.size))
    clear hb2 y0 y1 y2
    go_wp2_with (first | (go_at_call 10; refine (HW.out _ HB2.out).mono ?_; rintro e w3 ⟨rfl, hb3⟩))
    go_ret
    exact ⟨rfl, HB2.out.trans (hb3.mono HB2.out.size)⟩
  have hfs := fewOk_spec hf
  have hft := fewOk_spec hh
  have HAB : Hid (∀ W, Below w.heap.size w W → Calls Tryz.prog 27 #[.agg #[.slice p.oc S.cols.length p.cc, .slice p.ok S.key.length p.ck, .slice p.ou S.uqs.length p.cu], .agg #[.slice q.oc T.cols.length q.cc, .slice q.ok T.key.length q.ck, .slice q.ou T.uqs.length q.cu]] W fun e w' => e = .returned (.bool (sameB S T)) ∧ Below W.heap.size W w') := Lib.hid (fun W hb => Same_any p q S T W (by have := hfs.cols; omega) (by have := hft.cols; omega) (by have := hfs.key; omega) (by have := hft.key; omega) (by have := hfs.uqs; omega) (by have := hft.uqs; omega) (fun l hl => by have := hfs.places l hl; omega) (fun l hl => by have := hft.places l hl; omega) (hS.keep hb (Nat.le_refl _)) (hT.keep hb (Nat.le_refl _)))
  have HBA : Hid (∀ W, Below w.heap.size w W → Calls Tryz.prog 27 #[.agg #[.slice q.oc T.cols.length q.cc, .slice q.ok T.key.length q.ck, .slice q.ou T.uqs.length q.cu], .agg #[.slice p.oc S.cols.length p.cc, .slice p.ok S.key.length p.ck, .slice p.ou S.uqs.length p.cu]] W fun e w' => e = .returned (.bool (sameB T S)) ∧ Below W.heap.size W w') := Lib.hid (fun W hb => Same_any q p T S W (by have := hft.cols; omega) (by have := hfs.cols; omega) (by have := hft.key; omega) (by have := hfs.key; omega) (by have := hft.uqs; omega) (by have := hfs.uqs; omega) (fun l hl => by have := hft.places l hl; omega) (fun l hl => by have := hfs.places l hl; omega) (hT.keep hb (Nat.le_refl _)) (hS.keep hb (Nat.le_refl _)))
  have HAA : Hid (∀ W, Below w.heap.size w W → Calls Tryz.prog 27 #[.agg #[.slice p.oc S.cols.length p.cc, .slice p.ok S.key.length p.ck, .slice p.ou S.uqs.length p.cu], .agg #[.slice p.oc S.cols.length p.cc, .slice p.ok S.key.length p.ck, .slice p.ou S.uqs.length p.cu]] W fun e w' => e = .returned (.bool (sameB S S)) ∧ Below W.heap.size W w') := Lib.hid (fun W hb => Same_any p p S S W (by have := hfs.cols; omega) (by have := hfs.cols; omega) (by have := hfs.key; omega) (by have := hfs.key; omega) (by have := hfs.uqs; omega) (by have := hfs.uqs; omega) (fun l hl => by have := hfs.places l hl; omega) (fun l hl => by have := hfs.places l hl; omega) (hS.keep hb (Nat.le_refl _)) (hS.keep hb (Nat.le_refl _)))
  have HRR : Hid (∀ W, Below w.heap.size w W → Calls Tryz.prog 28 #[.agg #[.slice p.oc S.cols.length p.cc, .slice p.ok S.key.length p.ck, .slice p.ou S.uqs.length p.cu], .agg #[.slice q.oc T.cols.length q.cc, .slice q.ok T.key.length q.ck, .slice q.ou T.uqs.length q.cu]] W fun e w' => e = .returned (.bool (sameB S T)) ∧ Below W.heap.size W w') := Lib.hid (fun W hb => rSame3_any p q S T W (by have := hfs.cols; omega) (by have := hft.cols; omega) (by have := hfs.key; omega) (by have := hft.key; omega) (by have := hfs.uqs; omega) (by have := hft.uqs; omega) (fun l hl => by have := hfs.places l hl; omega) (fun l hl => by have := hft.places l hl; omega) (hS.keep hb (Nat.le_refl _)) (hT.keep hb (Nat.le_refl _)))
  rw [sameB_symm T S] at HBA
  rw [sameB_refl S] at HAA
  have HQ := Lib.hid hf
  have HQ2 := Lib.hid hh
  generalize sameB S T = b at *
  have hbb : (b == b) = true := by simp
  clear hf hh hfs hft hg hS m0 m1 m2 m3 m4 hT n0 n1 n2 n3 n4
  go_enter Tryz.func7, Tryz.ntmps7
  go_wp2_with fail
  refine (HFS.out _ HBX.out).mono ?_
  rintro e w1 ⟨he, hb1⟩
  rw [HQ.out] at he
  subst he
  have HB1 := Lib.hid (HBX.out.trans (hb1.mono HBX.out.size))
  have x0 : w1.cell? ⟨w.heap.size, 0, none⟩ = some (.slice p.oc S.cols.length p.cc) := cell_oldS (by simp [go_sem]) hb1
  have x1 : w1.cell? ⟨w.heap.size, 1, none⟩ = some (.slice p.ok S.key.length p.ck) := cell_oldS (by simp [go_sem]) hb1
  have x2 : w1.cell? ⟨w.heap.size, 2, none⟩ = some (.slice p.ou S.uqs.length p.cu) := cell_oldS (by simp [go_sem]) hb1
  have y0 : w1.cell? ⟨w.heap.size + 1, 0, none⟩ = some (.slice q.oc T.cols.length q.cc) := cell_oldS (by simp [go_sem]) hb1
  have y1 : w1.cell? ⟨w.heap.size + 1, 1, none⟩ = some (.slice q.ok T.key.length q.ck) := cell_oldS (by simp [go_sem]) hb1
  have y2 : w1.cell? ⟨w.heap.size + 1, 2, none⟩ = some (.slice q.ou T.uqs.length q.cu) := cell_oldS (by simp [go_sem]) hb1
  clear hb1
  go_wp2_with fail
  refine (HFT.out _ HB1.out).mono ?_
  rintro e w2 ⟨he, hb2⟩
  rw [HQ2.out] at he
  subst he
  have HB2 := Lib.hid (HB1.out.trans (hb2.mono HB1.out.size))
  have l0 : ∀ p' : Later w2, p'.W.cell? ⟨w.heap.size, 0, none⟩ = some (.slice p.oc S.cols.length p.cc) := later_cell (cell_oldS x0 hb2)
  have l1 : ∀ p' : Later w2, p'.W.cell? ⟨w.heap.size, 1, none⟩ = some (.slice p.ok S.key.length p.ck) := later_cell (cell_oldS x1 hb2)
  have l2 : ∀ p' : Later w2, p'.W.cell? ⟨w.heap.size, 2, none⟩ = some (.slice p.ou S.uqs.length p.cu) := later_cell (cell_oldS x2 hb2)
  have l3 : ∀ p' : Later w2, p'.W.cell? ⟨w.heap.size + 1, 0, none⟩ = some (.slice q.oc T.cols.length q.cc) := later_cell (cell_oldS y0 hb2)
  have l4 : ∀ p' : Later w2, p'.W.cell? ⟨w.heap.size + 1, 1, none⟩ = some (.slice q.ok T.key.length q.ck) := later_cell (cell_oldS y1 hb2)
  have l5 : ∀ p' : Later w2, p'.W.cell? ⟨w.heap.size + 1, 2, none⟩ = some (.slice q.ou T.uqs.length q.cu) := later_cell (cell_oldS y2 hb2)
  clear hb2 x0 x1 x2 y0 y1 y2
  cases b
  all_goals
    go_wp2_with fail
    refine wp_region_later (by kernel_rfl) (by kernel_rfl) ?_
    repeat (go_big_quiet_step ((first | (go_at_call 27; first | with_reducible exact Calls.later (HAB.out _ (HB2.out.trans ((Later.h _).mono HB2.out.size))) | with_reducible exact Calls.later (HBA.out _ (HB2.out.trans ((Later.h _).mono HB2.out.size))) | with_reducible exact Calls.later (HAA.out _ (HB2.out.trans ((Later.h _).mono HB2.out.size)))) | (go_at_call 28; exact Calls.later (HRR.out _ (HB2.out.trans ((Later.h _).mono HB2.out.size)))) | (go_at_call 10; exact Calls.later (HW.out _ (HB2.out.trans ((Later.h _).mono HB2.out.size)))))))
    refine wpQuiet_nil ?_
    rintro w3 ⟨⟨W3, hb3⟩, rfl⟩
    go_wp2_with fail
    go_ret
    exact ⟨rfl, HB2.out.trans (hb3.mono HB2.out.size)⟩
end Go.Proofs.YtjlhbpacecbfmaaGreatDoor
