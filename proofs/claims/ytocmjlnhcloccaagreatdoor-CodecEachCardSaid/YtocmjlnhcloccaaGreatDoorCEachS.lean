/-
  codec.Each: what it answers, of a schema that may be and of another.
-/
import Derived.Test.YtocmjlnhcloccaaGreatDoorCEachI
import Derived.Test.YtocmjlnhcloccaaGreatDoorSSch
namespace Go.Proofs.YtocmjlnhcloccaaGreatDoor
open Go.RowKit Go.Shelf
attribute [local go_sem] Oper.semAt_some

set_option maxRecDepth 100000 in
set_option maxHeartbeats 2000000 in
theorem EachC_no (p : SchV) (S : Sch) (bv : Value) (w : World) (hg : HasET w) (hnm : ∀ c ∈ S.cols, c.n.size ≤ 9223372036854775807) (hcl : S.cols.length ≤ 1000) (hul : S.uqs.length ≤ 6) (hS : SchIn w p S) (hok : schOk S = false) :
    Calls Tryz.prog 21 #[.agg #[.slice p.oc S.cols.length p.cc, .slice p.ok S.key.length p.ck, .slice p.ou S.uqs.length p.cu], bv] w fun e w' => e = .returned (.func (.func 40) #[] #[]) ∧ Below w.heap.size w w' := by
  have HR := Lib.hid (fun W (hb : Below w.heap.size w W) => SCheck_any p S W (hg.below hb hg.lt) hnm hcl hul (hS.keep hb (Nat.le_refl _)))
  rw [show schN S = 2 by unfold schN; rw [hok]; rfl] at HR
  clear hg hnm hS hok
  go_enter Tryz.func21, Tryz.ntmps21
  go_wp2_with fail
  refine (HR.out _ ((Below.refl _ _).alloc (Nat.le_refl _) _)).mono ?_
  rintro e w1 ⟨rfl, hb1⟩
  go_wp2_with fail
  go_ret
  exact ⟨rfl, ((Below.refl _ _).alloc (Nat.le_refl _) _).trans (hb1.mono (by simp))⟩
set_option maxRecDepth 100000 in
theorem cEach1_any (y : Value) (w : World) : Calls Tryz.prog 40 #[y] w fun e w' => (∃ v, e = .returned v) ∧ Below w.heap.size w w' := by
  go_enter Tryz.func40, Tryz.ntmps40
  go_wp2_with fail
  go_end0
  exact ⟨⟨_, rfl⟩, Below.refl _ _⟩
def EachPost (cs : List Col) (bl : List UInt8) (w : World) (e : Ending) (w' : World) : Prop :=
  ∃ cl co, e = .returned (.func (.func 43) #[] #[.pointer (some ⟨co, 0, none⟩), .pointer (some ⟨cl, 0, none⟩)]) ∧ (∃ r oc cc oa cap, CapR w' cl co r oc cc cs oa cap bl) ∧ Below w.heap.size w w'
set_option maxRecDepth 100000 in
set_option maxHeartbeats 2000000 in
theorem EachC_ok (p : SchV) (S : Sch) (oa : Option Addr) (ca : Nat) (bl : List UInt8) (w : World) (hg : HasET w) (hnm : ∀ c ∈ S.cols, c.n.size ≤ 9223372036854775807) (hcl : S.cols.length ≤ 1000) (hul : S.uqs.length ≤ 6) (hS : SchIn w p S) (hok : schOk S = true) (hb : BytesOf w (.slice oa bl.length ca) bl) (hl : bl.length ≤ 900000) :
    Calls Tryz.prog 21 #[.agg #[.slice p.oc S.cols.length p.cc, .slice p.ok S.key.length p.ck, .slice p.ou S.uqs.length p.cu], .slice oa bl.length ca] w (EachPost S.cols bl w) := by
  have HR := Lib.hid (fun W (hb : Below w.heap.size w W) => SCheck_any p S W (hg.below hb hg.lt) hnm hcl hul (hS.keep hb (Nat.le_refl _)))
  rw [show schN S = 0 by unfold schN; rw [if_pos hok]] at HR
  have HCC := Lib.hid (fun W (hb : Below w.heap.size w W) => CloneC_any p.oc p.cc S.cols W (hS.cols.keep hb (Nat.le_refl _)) hcl)
  have HBC := Lib.hid (fun W (h : Below w.heap.size w W) => CloneBC_any _ bl W (hb.keep h (Nat.le_refl _)) hl)
  have hmf : ∀ (fn : Fn) (first cap : Array Value) (w : World), (Instr.makeFunc fn first cap).run Tryz.prog w = .ok (.func fn first cap) w := fun _ _ _ _ => rfl
  clear hg hnm hS hok hb
  obtain ⟨oc, cc, ok, ck, ou, cu⟩ := p
  simp only at *
  go_enter Tryz.func21, Tryz.ntmps21
  go_wp2_with fail
  refine (HR.out _ ((Below.refl _ _).alloc (Nat.le_refl _) _)).mono ?_
  rintro e w1 ⟨rfl, hb1⟩
  have HB1 := Lib.hid (((Below.refl w.heap.size w).alloc (Nat.le_refl _) (.cells #[.slice oc S.cols.length cc, .slice ok S.key.length ck, .slice ou S.uqs.length cu] 26)).trans (hb1.mono (by simp)))
  have k0 : w1.cell? ⟨w.heap.size, 0, none⟩ = some (.slice oc S.cols.length cc) := cell_old (by simp [go_sem]) hb1
  clear hb1
  go_wp2_with fail
  refine (HCC.out _ HB1.out).mono ?_
  rintro e w2 ⟨ob, cb, rfl, hc2⟩
  have HB2 := Lib.hid (HB1.out.trans (hc2.below.mono HB1.out.size))
  have HC2 := Lib.hid hc2.cols
  clear hc2
  go_wp2_with fail
  refine (layoutOf_any _ _ _ _).mono ?_
  rintro e w3 ⟨r, rfl, hm, hb3⟩
  have HB3 := Lib.hid (HB2.out.trans (hb3.mono HB2.out.size))
  have HC3 := Lib.hid (HC2.out.keep hb3 (Nat.le_refl _))
  have HM := Lib.hid hm
  clear hm hb3
  go_wp2_with fail
  obtain ⟨W4, hW4⟩ : ∃ W4, w3.alloc (.cells #[.slice ob S.cols.length cb, .map (some r)] 72) = W4 := ⟨_, rfl⟩
  have hb4 : Below w3.heap.size w3 W4 := by rw [← hW4]; exact (Below.refl _ _).alloc (Nat.le_refl _) _
  have l0 : W4.cell? ⟨w3.heap.size, 0, none⟩ = some (.slice ob S.cols.length cb) := by rw [← hW4]; simp [go_sem]
  have l1 : W4.cell? ⟨w3.heap.size, 1, none⟩ = some (.map (some r)) := by rw [← hW4]; simp [go_sem]
  have hB4 := HB3.out.trans (hb4.mono HB3.out.size)
  refine (HBC.out _ ?_).mono ?_
  · rw [hW4]; exact hB4
  rw [hW4]
  rintro e w5 ⟨od, cd, rfl, hn5⟩
  have HN5 := Lib.hid hn5
  clear hn5
  go_wp2_with fail
  go_ret
  have hb6 := (Below.refl w5.heap.size w5).alloc (Nat.le_refl _) (.cells #[.slice od bl.length cd] 31)
  have hb46 := HN5.out.below.trans (hb6.mono HN5.out.below.size)
  have hb36 := hb4.trans (hb46.mono hb4.size)
  refine ⟨w3.heap.size, w5.heap.size, rfl, ⟨r, ob, cb, od, cd, ?_⟩, hB4.trans (hb46.mono hB4.size)⟩
  refine ⟨cell_old l0 hb46, cell_old l1 hb46, by simp [go_sem], HC3.out.keep hb36 (Nat.le_refl _), (hb36.block _ (Array.getElem?_eq_some_iff.1 HM.out).1).trans HM.out, (HN5.out.bytes.keep hb6 (Nat.le_refl _)).at⟩
end Go.Proofs.YtocmjlnhcloccaaGreatDoor
