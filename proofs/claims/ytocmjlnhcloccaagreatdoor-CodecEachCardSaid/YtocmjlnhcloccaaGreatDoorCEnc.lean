/-
  codec: Encode, Decode, Width's layout: what they tell.
-/
import Derived.Test.YtocmjlnhcloccaaGreatDoorCLayA
import Derived.Test.YtocmjlnhcloccaaGreatDoorCTry
import Derived.Test.YtocmjlnhcloccaaGreatDoorSSch
namespace Go.Proofs.YtocmjlnhcloccaaGreatDoor
open Go.RowKit

theorem cols_sz {S : Sch} (h : schOk S = true) : ∀ c ∈ S.cols, szOk c.t c.z = true := fun c hc => by
  obtain ⟨k, hk, rfl⟩ := List.getElem_of_mem hc
  have := schOk_col h hk rfl
  unfold colOk at this
  rw [Bool.and_eq_true] at this
  exact this.1
theorem schOk_len {S : Sch} (h : schOk S = true) : 1 ≤ S.cols.length ∧ S.cols.length ≤ 8 := by
  unfold schOk at h
  simp only [Bool.and_eq_true, decide_eq_true_eq] at h
  exact ⟨h.1.1, h.1.2.1⟩
theorem firstFit_all : ∀ (cs : List Col) (vs : List Vl), (∀ c ∈ cs, szOk c.t c.z = true) → (∀ v ∈ vs, 0 ≤ v.u) → vs.length = cs.length → firstFit cs vs = 0 → FitAll cs vs
  | [], [], _, _, _, _ => trivial
  | [], _ :: _, _, _, h, _ => by simp at h
  | _ :: _, [], _, _, h, _ => by simp at h
  | c :: cs, v :: vs, hc, hu, hl, h => by
    unfold firstFit at h
    by_cases h0 : fitN c v = 0
    · rw [if_pos h0] at h
      exact ⟨hc c (List.mem_cons_self ..), h0, hu v (List.mem_cons_self ..), firstFit_all cs vs (fun c h => hc c (List.mem_cons_of_mem _ h)) (fun v h => hu v (List.mem_cons_of_mem _ h)) (by simpa using hl) h⟩
    · rw [if_neg h0] at h; exact absurd h h0
theorem fitAll_first : ∀ {cs : List Col} {vs : List Vl}, FitAll cs vs → firstFit cs vs = 0
  | [], [], _ => rfl
  | [], _ :: _, h => h.elim
  | _ :: _, [], h => h.elim
  | c :: cs, v :: vs, h => by
    unfold firstFit
    rw [if_pos h.2.1]
    exact fitAll_first h.2.2.2
theorem rowN_fit {S : Sch} {row : List Vl} (hu : ∀ v ∈ row, 0 ≤ v.u) (h : rowN S row = 0) : schOk S = true ∧ FitAll S.cols row := by
  unfold rowN at h
  by_cases hs : schOk S = true
  · rw [if_pos hs] at h
    by_cases hl : row.length = S.cols.length
    · rw [if_pos hl] at h
      exact ⟨hs, firstFit_all _ _ (cols_sz hs) hu hl h⟩
    · rw [if_neg hl] at h; cases h
  · rw [if_neg hs] at h; cases h
theorem fit_rowN {S : Sch} {row : List Vl} (hs : schOk S = true) (h : FitAll S.cols row) : rowN S row = 0 := by
  unfold rowN
  rw [if_pos hs, if_pos (fitAll_len h), fitAll_first h]

/-- a row's bytes, or none -/
def encL (S : Sch) (row : List Vl) : List UInt8 := if rowN S row = 0 then rowB S.cols row else []
/-- the row of bytes -/
def decR (S : Sch) (l : List UInt8) : Option (List Vl × Nat) := wholeO l.length (readRow S.cols l)
def decL (S : Sch) (l : List UInt8) : List Vl := if schOk S = true then (match decR S l with | some x => x.1 | none => []) else []
def decE (S : Sch) (l : List UInt8) : Int := if schOk S = true then (match decR S l with | some _ => 0 | none => 140) else 2
def EncPost (S : Sch) (row : List Vl) (w : World) (e : Ending) (w' : World) : Prop := ∃ v, e = .returned (.tuple #[v, .int .i64 (rowN S row)]) ∧ BytesOf w' v (encL S row) ∧ Below w.heap.size w w'
def DecPost (S : Sch) (l : List UInt8) (w : World) (e : Ending) (w' : World) : Prop := ∃ v, e = .returned (.tuple #[v, .int .i64 (decE S l)]) ∧ SliceOf w' v (decL S l) ∧ Below w.heap.size w w'

set_option maxRecDepth 100000 in
set_option maxHeartbeats 2000000 in
theorem Encode_any (p : SchV) (S : Sch) (oa : Option Addr) (ca : Nat) (row : List Vl) (w : World) (hg : HasET w) (hnm : ∀ c ∈ S.cols, c.n.size ≤ 9223372036854775807) (hcl : S.cols.length ≤ 1000) (hul : S.uqs.length ≤ 6) (hS : SchIn w p S) (hrl : row.length ≤ 1000) (hr : ValsIn w oa row) (hs : ∀ v ∈ row, v.s.size ≤ 300) (hu : ∀ v ∈ row, 0 ≤ v.u ∧ v.u < 18446744073709551616) :
    Calls Tryz.prog 11 #[.agg #[.slice p.oc S.cols.length p.cc, .slice p.ok S.key.length p.ck, .slice p.ou S.uqs.length p.cu], .slice oa row.length ca] w (EncPost S row w) := by
  have HR := Lib.hid (fun W (hb : Below w.heap.size w W) => SRow_any p S oa ca row W (hg.below hb hg.lt) hnm hcl hul (hS.keep hb (Nat.le_refl _)) hrl (hr.keep hb (Nat.le_refl _)))
  have HC := Lib.hid hS.cols
  have HV := Lib.hid hr
  have HS := Lib.hid hs
  have HU := Lib.hid hu
  clear hg hnm hul hS hr hs hu
  cases hn : (rowN S row == 0)
  · have hne : ¬ rowN S row = 0 := by simpa using hn
    have HL := Lib.hid (show encL S row = [] by unfold encL; rw [if_neg hne])
    unfold EncPost
    generalize rowN S row = m at hn hne HR ⊢
    clear hne
    have hn2 : (m != 0) = true := by simpa using hn
    go_enter Tryz.func11, Tryz.ntmps11
    go_wp2_with fail
    refine (HR.out _ ((Below.refl _ _).alloc (Nat.le_refl _) _)).mono ?_
    rintro e w1 ⟨rfl, hb1⟩
    go_wp2_with fail
    go_ret2
    exact ⟨_, rfl, by rw [HL.out]; exact .inl ⟨rfl, rfl⟩, ((Below.refl _ _).alloc (Nat.le_refl _) _).trans (hb1.mono (by simp))⟩
  · have h0 : rowN S row = 0 := by simpa using hn
    obtain ⟨hok, hfit⟩ := rowN_fit (fun v hv => (HU.out v hv).1) h0
    have HL := Lib.hid (show encL S row = rowB S.cols row by unfold encL; rw [if_pos h0])
    unfold EncPost
    rw [h0] at HR ⊢
    have HZ := Lib.hid (cols_sz hok)
    have HFL := Lib.hid (fitAll_len hfit)
    clear hok hfit h0 hn
    obtain ⟨oc, cc, ok, ck, ou, cu⟩ := p
    go_enter Tryz.func11, Tryz.ntmps11
    go_wp2_with fail
    refine (HR.out _ ((Below.refl _ _).alloc (Nat.le_refl _) _)).mono ?_
    rintro e w1 ⟨rfl, hb1⟩
    have HB1 := Lib.hid (((Below.refl w.heap.size w).alloc (Nat.le_refl _) (.cells #[.slice oc S.cols.length cc, .slice ok S.key.length ck, .slice ou S.uqs.length cu] 26)).trans (hb1.mono (by simp)))
    have k0 : w1.cell? ⟨w.heap.size, 0, none⟩ = some (.slice oc S.cols.length cc) := cell_old (by simp [go_sem]) hb1
    clear hb1
    go_wp2_with fail
    refine (layoutOf_any _ _ _ _).mono ?_
    rintro e w2 ⟨r, rfl, hm, hb2⟩
    have HB2 := Lib.hid (HB1.out.trans (hb2.mono HB1.out.size))
    have HY := Lib.hid (clay_any oc cc r S.cols oa ca row w2 hcl (HC.out.keep HB2.out (Nat.le_refl _)) hm (HV.out.keep HB2.out (Nat.le_refl _)) HZ.out HFL.out HS.out HU.out)
    clear hm hb2
    go_wp2_with fail
    refine HY.out.mono ?_
    rintro e w3 ⟨x, rfl, hx, hb3⟩
    have HX := Lib.hid hx
    clear hx
    go_wp2_with fail
    go_ret2
    exact ⟨_, rfl, by rw [HL.out]; exact HX.out, HB2.out.trans (hb3.mono HB2.out.size)⟩

/-- what whole tells -/
def WholePost (o : Option (List Vl × Nat)) (w : World) (e : Ending) (w' : World) : Prop :=
  match o with
  | some (vs, _) => ∃ b, e = .returned (.tuple #[.slice (some ⟨b, 0, none⟩) vs.length vs.length, .int .i64 0]) ∧ ValsIn w' (some ⟨b, 0, none⟩) vs ∧ Below w.heap.size w w'
  | none => e = .returned (.tuple #[.slice none 0 0, .int .i64 140]) ∧ Below w.heap.size w w'
theorem rd_at (w : World) (s : Value) : Rd (w.alloc (.cells #[s, .int .i64 0] 137)) w.heap.size s 0 := ⟨by simp [go_sem], by simp [go_sem], by simp [go_sem]⟩
theorem wv1_any (oc : Option Addr) (cc r : Nat) (cs : List Col) (oa : Option Addr) (cap : Nat) (l : List UInt8) (pb pr : Addr) (W : World) (hb : BytesAt W (.slice oa l.length cap) l) (hn : l.length ≤ 1000000) (hcl : cs.length ≤ 1000) (hC : ColsIn W oc cs) (hM : W.heap[r]? = some (.map mapCKinds 4)) (hz : ∀ c ∈ cs, szOk c.t c.z = true)
    (c0 : W.cell? pb = some (.slice oa l.length cap)) (c1 : W.cell? pr = some (.func (.func 35) #[.agg #[.slice oc cs.length cc, .map (some r)]] #[])) :
    Calls Tryz.prog 64 #[.pointer (some pb), .pointer (some pr)] W (WhP (wholeO l.length (readRow cs l)) W) := by
  have hcap : l.length ≤ cap := by obtain ⟨oa', cap', e, hc, _⟩ := hb; cases e; exact hc
  have b0 : Below W.heap.size W (W.alloc (.cells #[.slice oa l.length cap, .int .i64 0] 137)) := (Below.refl _ _).alloc (Nat.le_refl _) _
  have hread := lread_any oc cc r cs W.heap.size oa cap 0 l _ (rd_at W (.slice oa l.length cap)) (BelowAt.of hb rfl b0) hn hcap (Nat.zero_le _) hcl (fun W' hW => hC.keep (b0.trans hW) (Nat.le_refl _)) (fun W' hW => by
      rw [(b0.trans hW).block r (Array.getElem?_eq_some_iff.1 hM).1]
      exact hM) hz
  rw [List.drop_zero] at hread
  exact wholeV1_any oa l.length cap _ pb pr (readRow cs l) W (fun x hx => by
      obtain ⟨vs, k⟩ := x
      exact (rowB_readRow cs l vs k hz hx).2.2.1) c0 c1 hread
/-- a value that a call told -/
def QV (W : World) (vs : List Vl) (x : Value) (w' : World) : Prop := ∃ b, x = .slice (some ⟨b, 0, none⟩) vs.length vs.length ∧ W.heap.size < b ∧ ValsIn w' (some ⟨b, 0, none⟩) vs
set_option maxRecDepth 100000 in
set_option maxHeartbeats 2000000 in
theorem wholeV_any (oc : Option Addr) (cc r : Nat) (cs : List Col) (oa : Option Addr) (cap : Nat) (l : List UInt8) (w : World) (he : HasET w) (hb : BytesAt w (.slice oa l.length cap) l) (hn : l.length ≤ 1000000) (hcl : cs.length ≤ 1000) (hC : ColsIn w oc cs) (hM : w.heap[r]? = some (.map mapCKinds 4)) (hz : ∀ c ∈ cs, szOk c.t c.z = true) :
    Calls Tryz.prog 34 #[.slice oa l.length cap, .int .i64 140, .func (.func 35) #[.agg #[.slice oc cs.length cc, .map (some r)]] #[]] w (WholePost (wholeO l.length (readRow cs l)) w) := by
  obtain ⟨L, hL⟩ : ∃ L : Value, .agg #[.slice oc cs.length cc, .map (some r)] = L := ⟨_, rfl⟩
  have hbw : Below w.heap.size w ((w.alloc (.cells #[.slice oa l.length cap] 31)).alloc (.cells #[.func (.func 35) #[L] #[]] 81)) := ((Below.refl _ _).alloc (Nat.le_refl _) _).alloc (by simp) _
  have he1 := he.below hbw he.lt
  have hbw2 := hbw.alloc hbw.size C0
  have H := wv1_any oc cc r cs oa cap l ⟨w.heap.size, 0, none⟩ ⟨w.heap.size + 1, 0, none⟩ _ (hb.keep hbw2 (Nat.le_refl _)) hn hcl (hC.keep hbw2 (Nat.le_refl _)) (by rw [hbw2.block r (Array.getElem?_eq_some_iff.1 hM).1]; exact hM) hz (by simp [go_sem]) (by rw [hL]; simp [go_sem])
  have HA : Hid (Calls Tryz.prog 46 #[.func (.func 64) #[] #[.pointer (some ⟨w.heap.size, 0, none⟩), .pointer (some ⟨w.heap.size + 1, 0, none⟩)]] ((w.alloc (.cells #[.slice oa l.length cap] 31)).alloc (.cells #[.func (.func 35) #[L] #[]] 81))
      (match wholeO l.length (readRow cs l) with
        | some (vs, _) => AttYes ((w.alloc (.cells #[.slice oa l.length cap] 31)).alloc (.cells #[.func (.func 35) #[L] #[]] 81)) none (QV ((w.alloc (.cells #[.slice oa l.length cap] 31)).alloc (.cells #[.func (.func 35) #[L] #[]] 81)) vs)
        | none => AttNo (.slice none 0 0) ((w.alloc (.cells #[.slice oa l.length cap] 31)).alloc (.cells #[.func (.func 35) #[L] #[]] 81)) none)) := Lib.hid (by
    cases ho : wholeO l.length (readRow cs l) with
    | none =>
      rw [ho] at H
      exact attV_no _ _ _ none _ (by simp) (by simp) he1 (fun _ _ => rfl) (H.mono (fun e w' h => ⟨h.1, grown_below h.2 _⟩))
    | some x =>
      obtain ⟨vs, k⟩ := x
      rw [ho] at H
      refine attV_yes _ _ _ none _ _ (by simp) (fun _ _ => rfl) (H.mono ?_)
      rintro e w' ⟨b, rfl, hbl, hv, hb2⟩
      exact ⟨_, rfl, grown_below hb2 _, b, rfl, by simp at hbl ⊢; omega, hv⟩)
  have HW := Lib.hid hbw
  rw [hL]
  clear hb hC hM hz hL H he he1 hbw hbw2
  generalize wholeO l.length (readRow cs l) = o at HA ⊢
  go_enter Tryz.func34, Tryz.ntmps34
  go_wp2_with fail
  refine HA.out.mono ?_
  cases o with
  | none =>
    rintro e w1 ⟨n, hn0, rfl, hg⟩
    have HG := Lib.hid (show Below w.heap.size w w1 from HW.out.grown hg HW.out.size (by simp))
    have hd : (n != 0) = true := by simpa using hn0
    clear hg
    go_wp2_with fail
    go_ret2
    exact ⟨rfl, HG.out⟩
  | some x =>
    obtain ⟨vs, k⟩ := x
    rintro e w1 ⟨x, w2, rfl, ⟨b, rfl, hbl, hv⟩, hg, rfl⟩
    have HG := Lib.hid (show Below w.heap.size w w2 from HW.out.grown hg HW.out.size (by simp))
    have HV := Lib.hid hv
    have hbl2 : w.heap.size + 2 < b := by simpa using hbl
    clear hg hv hbl
    go_wp2_with fail
    go_ret2
    exact ⟨b, rfl, vals_set HV.out (by simp; omega), HG.out.setCell (by simp; omega) _⟩

set_option maxRecDepth 100000 in
set_option maxHeartbeats 2000000 in
theorem Decode_any (p : SchV) (S : Sch) (oa : Option Addr) (cap : Nat) (l : List UInt8) (w : World) (hg : HasET w) (hnm : ∀ c ∈ S.cols, c.n.size ≤ 9223372036854775807) (hcl : S.cols.length ≤ 1000) (hul : S.uqs.length ≤ 6) (hS : SchIn w p S) (hb : BytesAt w (.slice oa l.length cap) l) (hn : l.length ≤ 1000000) :
    Calls Tryz.prog 16 #[.agg #[.slice p.oc S.cols.length p.cc, .slice p.ok S.key.length p.ck, .slice p.ou S.uqs.length p.cu], .slice oa l.length cap] w (DecPost S l w) := by
  have HR := Lib.hid (fun W (hb : Below w.heap.size w W) => SCheck_any p S W (hg.below hb hg.lt) hnm hcl hul (hS.keep hb (Nat.le_refl _)))
  have HC := Lib.hid hS.cols
  have HE0 := Lib.hid hg
  have HB := Lib.hid hb
  clear hg hnm hul hS hb
  cases hok : schOk S
  · have HL := Lib.hid (show decL S l = [] by unfold decL; rw [hok]; rfl)
    have hN : schN S = 2 := by unfold schN; rw [hok]; rfl
    unfold DecPost
    rw [show decE S l = 2 by unfold decE; rw [hok]; rfl]
    rw [hN] at HR
    clear hok hN
    go_enter Tryz.func16, Tryz.ntmps16
    go_wp2_with fail
    refine (HR.out _ ((Below.refl _ _).alloc (Nat.le_refl _) _)).mono ?_
    rintro e w1 ⟨rfl, hb1⟩
    go_wp2_with fail
    go_ret2
    exact ⟨_, rfl, by rw [HL.out]; exact .inl ⟨rfl, rfl⟩, ((Below.refl _ _).alloc (Nat.le_refl _) _).trans (hb1.mono (by simp))⟩
  · have HL := Lib.hid (show decL S l = (match decR S l with | some x => x.1 | none => []) by unfold decL; rw [if_pos hok])
    have HE := Lib.hid (show decE S l = (match decR S l with | some _ => 0 | none => 140) by unfold decE; rw [if_pos hok])
    have hN : schN S = 0 := by unfold schN; rw [if_pos hok]
    have HZ := Lib.hid (cols_sz hok)
    rw [hN] at HR
    clear hok hN
    obtain ⟨oc, cc, ok, ck, ou, cu⟩ := p
    have hmf : ∀ (fn : Fn) (first cap : Array Value) (w : World), (Instr.makeFunc fn first cap).run Tryz.prog w = .ok (.func fn first cap) w := fun _ _ _ _ => rfl
    go_enter Tryz.func16, Tryz.ntmps16
    go_wp2_with fail
    refine (HR.out _ ((Below.refl _ _).alloc (Nat.le_refl _) _)).mono ?_
    rintro e w1 ⟨rfl, hb1⟩
    have HB1 := Lib.hid (((Below.refl w.heap.size w).alloc (Nat.le_refl _) (.cells #[.slice oc S.cols.length cc, .slice ok S.key.length ck, .slice ou S.uqs.length cu] 26)).trans (hb1.mono (by simp)))
    have k0 : w1.cell? ⟨w.heap.size, 0, none⟩ = some (.slice oc S.cols.length cc) := cell_old (by simp [go_sem]) hb1
    clear hb1
    go_wp2_with fail
    refine (layoutOf_any _ _ _ _).mono ?_
    rintro e w2 ⟨r, rfl, hm, hb2⟩
    have HB2 := Lib.hid (HB1.out.trans (hb2.mono HB1.out.size))
    have HY := Lib.hid (wholeV_any oc cc r S.cols oa cap l w2 (HE0.out.below HB2.out HE0.out.lt) (HB.out.keep HB2.out (Nat.le_refl _)) hn hcl (HC.out.keep HB2.out (Nat.le_refl _)) hm HZ.out)
    obtain ⟨o, ho⟩ : ∃ o, wholeO l.length (readRow S.cols l) = o := ⟨_, rfl⟩
    rw [ho] at HY
    have HO := Lib.hid (show decR S l = o from ho)
    clear hm hb2 ho
    go_wp2_with fail
    refine HY.out.mono ?_
    cases o with
    | none =>
      rintro e w3 ⟨rfl, hb3⟩
      go_wp2_with fail
      go_ret2
      exact ⟨_, by rw [HE.out, HO.out]; rfl, by rw [HL.out, HO.out]; exact .inl ⟨rfl, rfl⟩, HB2.out.trans (hb3.mono HB2.out.size)⟩
    | some x =>
      obtain ⟨vs, k⟩ := x
      rintro e w3 ⟨b, rfl, hv, hb3⟩
      have HV := Lib.hid hv
      clear hv
      go_wp2_with fail
      go_ret2
      refine ⟨_, by rw [HE.out, HO.out]; rfl, ?_, HB2.out.trans (hb3.mono HB2.out.size)⟩
      rw [HL.out, HO.out]
      exact .inr ⟨_, _, rfl, Nat.le_refl _, fun j hj => by
        obtain ⟨a, e, h⟩ := HV.out j hj
        cases e
        exact h⟩
end Go.Proofs.YtocmjlnhcloccaaGreatDoor
