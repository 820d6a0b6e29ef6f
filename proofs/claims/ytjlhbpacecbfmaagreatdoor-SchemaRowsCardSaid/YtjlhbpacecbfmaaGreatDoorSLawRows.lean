/-
  swingbridgeref03.Row; swingbridgelaw03.SchemaRows: true.
-/
import Derived.Test.YtjlhbpacecbfmaaGreatDoorRRowB
import Derived.Test.YtjlhbpacecbfmaaGreatDoorSFew
import Derived.Test.YtjlhbpacecbfmaaGreatDoorSWorks
namespace Go.Proofs.YtjlhbpacecbfmaaGreatDoor
open Go.RowKit

set_option maxRecDepth 100000 in
set_option maxHeartbeats 4000000 in
theorem lawRows_true (p : SchV) (S : Sch) (oa : Option Addr) (ca : Nat) (row : List Vl) (w : World) (hg : HasET w) (hS : SchIn w p S) (m0 : S.cols.length ≤ 9223372036854775807) (m1 : S.key.length ≤ 9223372036854775807) (m2 : S.uqs.length ≤ 9223372036854775807) (m3 : ∀ c ∈ S.cols, c.n.size ≤ 9223372036854775807) (m4 : ∀ l ∈ S.uqs, l.length ≤ 9223372036854775807)
    (hr : ValsIn w oa row) (n0 : row.length ≤ 9223372036854775807) (n2 : ∀ v ∈ row, v.s.size ≤ 9223372036854775807) :
    Calls Tryz.prog 5 #[.agg #[.slice p.oc S.cols.length p.cc, .slice p.ok S.key.length p.ck, .slice p.ou S.uqs.length p.cu], .slice oa row.length ca] w fun e w' => e = .returned (.bool true) ∧ Below w.heap.size w w' := by
  have HW : Hid (∀ W, Below w.heap.size w W → Calls Tryz.prog 10 #[] W fun e w' => e = .returned (.bool true) ∧ Below W.heap.size W w') := Lib.hid (fun W hb => sworks_true W (hg.below hb hg.lt))
  have HFW : Hid (∀ W, Below w.heap.size w W → Calls Tryz.prog 9 #[.agg #[.slice p.oc S.cols.length p.cc, .slice p.ok S.key.length p.ck, .slice p.ou S.uqs.length p.cu]] W fun e w' => e = .returned (.bool (fewOk S)) ∧ Below W.heap.size W w') := Lib.hid (fun W hb => few_any p S W (hS.keep hb (Nat.le_refl _)) m0 m1 m2 m3 m4)
  have HSH : Hid (∀ W, Below w.heap.size w W → Calls Tryz.prog 21 #[.slice oa row.length ca, .int .i64 12] W fun e w' => e = .returned (.bool (shortOk row 12)) ∧ W = w') := Lib.hid (fun W hb => short_rows oa ca row W n0 (hr.keep hb (Nat.le_refl _)) n2)
  cases hf : fewOk S
  · have HQ := Lib.hid hf
    clear hf hg hS m0 m1 m2 m3 m4 hr n0 n2
    go_enter Tryz.func5, Tryz.ntmps5
    go_wp2_with (first | (go_at_call 9; refine (HFW.out _ ((Below.refl _ _).alloc (Nat.le_refl _) _)).mono ?_; rintro e w1 ⟨he, hb1⟩; rw [HQ.out] at he; subst he; have hb := ((Below.refl w.heap.size w).alloc (Nat.le_refl _) (.cells #[.slice p.oc S.cols.length p.cc, .slice p.ok S.key.length p.ck, .slice p.ou S.uqs.length p.cu] 26)).trans (hb1.mono (by simp))) | (go_at_call 10; refine (HW.out _ hb).mono ?_; rintro e w2 ⟨rfl, hb2⟩))
    go_ret
    exact ⟨rfl, hb.trans (hb2.mono hb.size)⟩
  cases hsh : shortOk row 12
  · have HQ := Lib.hid hf
    have HQ2 := Lib.hid hsh
    clear hf hsh hg hS m0 m1 m2 m3 m4 hr n0 n2
    go_enter Tryz.func5, Tryz.ntmps5
    go_wp2_with (first | (go_at_call 9; refine (HFW.out _ ((Below.refl _ _).alloc (Nat.le_refl _) _)).mono ?_; rintro e w1 ⟨he, hb1⟩; rw [HQ.out] at he; subst he; have hb := ((Below.refl w.heap.size w).alloc (Nat.le_refl _) (.cells #[.slice p.oc S.cols.length p.cc, .slice p.ok S.key.length p.ck, .slice p.ou S.uqs.length p.cu] 26)).trans (hb1.mono (by simp))) | (go_at_call 21; refine (HSH.out _ hb).mono ?_; rintro e w' ⟨he, rfl⟩; rw [HQ2.out] at he; subst he) | (go_at_call 10; refine (HW.out _ hb).mono ?_; rintro e w2 ⟨rfl, hb2⟩))
    go_ret
    exact ⟨rfl, hb.trans (hb2.mono hb.size)⟩
  have hfs := fewOk_spec hf
  have hss := shortOk_spec hsh
  have HRO : Hid (∀ W, Below w.heap.size w W → Calls Tryz.prog 22 #[.agg #[.slice p.oc S.cols.length p.cc, .slice p.ok S.key.length p.ck, .slice p.ou S.uqs.length p.cu], .slice oa row.length ca] W fun e w' => e = .returned (.int .i64 (rowN S row)) ∧ Below W.heap.size W w') := Lib.hid (fun W hb => SRow_any p S oa ca row W (hg.below hb hg.lt) m3 (by have := hfs.cols; omega) hfs.uqs (hS.keep hb (Nat.le_refl _)) (by omega) (hr.keep hb (Nat.le_refl _)))
  have HRR : Hid (∀ W, Below w.heap.size w W → Calls Tryz.prog 23 #[.agg #[.slice p.oc S.cols.length p.cc, .slice p.ok S.key.length p.ck, .slice p.ou S.uqs.length p.cu], .slice oa row.length ca] W fun e w' => e = .returned (.int .i64 (rowN S row)) ∧ Below W.heap.size W w') := Lib.hid (fun W hb => rRow_any p S oa ca row W m3 (by have := hfs.cols; omega) (by have := hfs.uqs; omega) (by have := hfs.key; omega) (fun l hl => by have := hfs.places l hl; omega) (hS.keep hb (Nat.le_refl _)) (by omega) (hr.keep hb (Nat.le_refl _)))
  have HQ := Lib.hid hf
  have HQ2 := Lib.hid hsh
  generalize rowN S row = m at HRO HRR
  have hmm : (m == m) = true := by simp
  clear hf hsh hfs hss hg hS m0 m1 m2 m3 m4 hr n0 n2
  go_enter Tryz.func5, Tryz.ntmps5
  go_wp2_with fail
  refine (HFW.out _ ((Below.refl _ _).alloc (Nat.le_refl _) _)).mono ?_
  rintro e w1 ⟨he, hb1⟩
  rw [HQ.out] at he
  subst he
  have HB := Lib.hid (((Below.refl w.heap.size w).alloc (Nat.le_refl _) (.cells #[.slice p.oc S.cols.length p.cc, .slice p.ok S.key.length p.ck, .slice p.ou S.uqs.length p.cu] 26)).trans (hb1.mono (by simp)))
  have l0 : ∀ q : Later w1, q.W.cell? ⟨w.heap.size, 0, none⟩ = some (.slice p.oc S.cols.length p.cc) := later_cell (cell_old (by simp [go_sem]) hb1)
  have l1 : ∀ q : Later w1, q.W.cell? ⟨w.heap.size, 1, none⟩ = some (.slice p.ok S.key.length p.ck) := later_cell (cell_old (by simp [go_sem]) hb1)
  have l2 : ∀ q : Later w1, q.W.cell? ⟨w.heap.size, 2, none⟩ = some (.slice p.ou S.uqs.length p.cu) := later_cell (cell_old (by simp [go_sem]) hb1)
  clear hb1
  go_wp2_with fail
  refine (HSH.out _ HB.out).mono ?_
  rintro e w' ⟨he, rfl⟩
  rw [HQ2.out] at he
  subst he
  go_wp2_with fail
  refine wp_region_later (by kernel_rfl) (by kernel_rfl) ?_
  repeat (go_big_quiet_step ((first | (go_at_call 22; exact Calls.later (HRO.out _ (HB.out.trans ((Later.h _).mono HB.out.size)))) | (go_at_call 23; exact Calls.later (HRR.out _ (HB.out.trans ((Later.h _).mono HB.out.size)))) | (go_at_call 14; exact Calls.later_same (l3num_any _ _)) | (go_at_call 10; exact Calls.later (HW.out _ (HB.out.trans ((Later.h _).mono HB.out.size)))))))
  refine wpQuiet_nil ?_
  rintro w3 ⟨⟨W3, hb3⟩, rfl⟩
  go_wp2_with fail
  go_ret
  exact ⟨rfl, HB.out.trans (hb3.mono HB.out.size)⟩
end Go.Proofs.YtjlhbpacecbfmaaGreatDoor
