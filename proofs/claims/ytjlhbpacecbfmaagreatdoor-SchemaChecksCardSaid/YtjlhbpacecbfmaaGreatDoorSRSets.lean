/-
  swingbridgeref03.Sets, Ints.
-/
import Derived.Test.YtjlhbpacecbfmaaGreatDoorSSetsB
import Derived.Test.YtjlhbpacecbfmaaGreatDoorRRow
namespace Go.Proofs.YtjlhbpacecbfmaaGreatDoor
open Go.RowKit

theorem Ints_any (oa ob : Option Addr) (ca cb : Nat) (l m : List Int) (w : World) (ha : IntsIn w oa l) (hb : IntsIn w ob m) (hl : l.length ≤ 1000) (hm : m.length ≤ 1000) :
    Calls Tryz.prog 18 #[.slice oa l.length ca, .slice ob m.length cb] w fun e w' => e = .returned (.bool (decide (l = m))) ∧ Below w.heap.size w w' := by
  by_cases hlen : l.length = m.length
  · have HA := Lib.hid ha
    have HB := Lib.hid hb
    have hn : ((l.length : Int) != (m.length : Int)) = false := by rw [hlen]; simp
    clear ha hb
    go_enter Tryz.func18, Tryz.ntmps18
    go_wp2_with fail
    go_loopw [5] (fun i wr => ∃ (k : Nat), k ≤ l.length ∧ i = .int .i64 k ∧ Hid (l.take k = m.take k) ∧ Below w.heap.size w wr) (fun i _ => l.length - (intOf i).toNat)
    case atStart => exact ⟨0, Nat.zero_le _, rfl, Lib.hid rfl, Below.refl _ _⟩
    case round =>
      obtain ⟨k, hk, rfl, HK, hbw⟩ := hrel
      by_cases hkl : k < l.length
      · have hkm : k < m.length := by omega
        obtain ⟨x, hx⟩ : ∃ v, l[k] = v := ⟨_, rfl⟩
        obtain ⟨y, hy⟩ : ∃ v, m[k] = v := ⟨_, rfl⟩
        obtain ⟨aa, rfl, hca⟩ := HA.out.keep hbw (Nat.le_refl _) k hkl
        obtain ⟨ab, rfl, hcb⟩ := HB.out.keep hbw (Nat.le_refl _) k hkm
        rw [hx] at hca
        rw [hy] at hcb
        by_cases e : x = y
        · have HK2 := Lib.hid (show l.take (k + 1) = m.take (k + 1) by rw [List.take_add_one, List.take_add_one, HK.out, List.getElem?_eq_getElem hkl, List.getElem?_eq_getElem hkm, hx, hy, e])
          have hxy : (x != y) = false := by simp [e]
          clear hx hy HA HB e
          go_wp2_with fail
          go_quiet (fail)
          have hbd := hbw.trans ((show Below wr.heap.size wr (wr.drewN nq) from ⟨rfl, rfl, rfl, Nat.le_refl _, fun _ _ => rfl⟩).mono hbw.size)
          go_wp2_with fail
          go_roundw
          case rel => exact ⟨k + 1, by omega, by go_num, HK2, hbd⟩
          case measure => simp [intOf]; omega
        · have HN := Lib.hid (show decide (l = m) = false by
            refine decide_eq_false (fun h => e ?_)
            subst h
            rw [← hx, ← hy])
          have hxy : (x != y) = true := by simpa using e
          clear hx hy HA HB e
          go_wp2_with fail
          go_quiet (fail)
          have hbd := hbw.trans ((show Below wr.heap.size wr (wr.drewN nq) from ⟨rfl, rfl, rfl, Nat.le_refl _, fun _ _ => rfl⟩).mono hbw.size)
          go_wp2_with fail
          go_ret
          exact ⟨by rw [HN.out]; rfl, hbd⟩
      · obtain rfl : k = l.length := by omega
        have HE := Lib.hid (show decide (l = m) = true by
          have h := HK.out
          rw [List.take_length, hlen, List.take_length] at h
          exact decide_eq_true h)
        go_wp2_with fail
        go_ret
        exact ⟨by rw [HE.out]; rfl, hbw⟩
  · have hn : ((l.length : Int) != (m.length : Int)) = true := by rw [bne_iff_ne]; omega
    have HN := Lib.hid (show decide (l = m) = false from decide_eq_false (fun h => hlen (by rw [h])))
    clear ha hb hlen
    go_enter Tryz.func18, Tryz.ntmps18
    go_wp2_with fail
    go_ret
    exact ⟨by rw [HN.out]; rfl, Below.refl _ _⟩
set_option maxRecDepth 100000 in
set_option maxHeartbeats 4000000 in
theorem r3Sets_any (p : SchV) (S : Sch) (w : World) (hnm : ∀ c ∈ S.cols, c.n.size ≤ 9223372036854775807) (hcl : S.cols.length ≤ 1000) (hul : S.uqs.length ≤ 6) (hkl : S.key.length ≤ 1000) (hpl : ∀ l ∈ S.uqs, l.length ≤ 1000) (hS : SchIn w p S) :
    Calls Tryz.prog 11 #[.agg #[.slice p.oc S.cols.length p.cc, .slice p.ok S.key.length p.ck, .slice p.ou S.uqs.length p.cu]] w fun e w' => ∃ oo co hs, e = .returned (.slice oo (ownL S).length co) ∧ SetsAt w' oo (ownL S) hs ∧ Below w.heap.size w w' := by
  have HR := Lib.hid (fun W (hb : Below w.heap.size w W) => rRight_any p S W hnm hcl (by omega) hkl hpl (hS.keep hb (Nat.le_refl _)))
  obtain ⟨hs, hU⟩ := hS.uqs.at
  have HK := Lib.hid hS.key
  have HKC := Lib.hid hS.kcap
  have HU := Lib.hid hU
  clear hS hnm hU hpl
  cases hok : schOk S
  · have HL := Lib.hid (show ownL S = [] by unfold ownL; rw [hok]; rfl)
    rw [hok] at HR
    clear hok
    go_enter Tryz.func11, Tryz.ntmps11
    go_wp2_with (first | (go_at_call 16; refine (HR.out _ ((Below.refl _ _).alloc (Nat.le_refl _) _)).mono ?_; rintro e w2 ⟨rfl, hb2⟩))
    go_ret
    refine ⟨none, 0, [], by rw [HL.out]; rfl, by rw [HL.out]; exact fun j hj => absurd hj (Nat.not_lt_zero j), ?_⟩
    exact ((Below.refl _ _).alloc (Nat.le_refl _) _).trans (hb2.mono (by simp))
  · have HL := Lib.hid (show ownL S = S.key :: S.uqs by unfold ownL; rw [hok]; rfl)
    rw [hok] at HR
    clear hok
    obtain ⟨i0, hi0, hz0, hz1, hz2⟩ := info_parts infoIs
    obtain ⟨cols, key, uqs⟩ := S
    obtain ⟨oc, cc, ok, ck, ou, cu⟩ := p
    dsimp only at *
    have ARM : ∀ w2, Below (w.alloc (.cells #[.slice oc cols.length cc, .slice ok key.length ck, .slice ou uqs.length cu] 26)).heap.size (w.alloc (.cells #[.slice oc cols.length cc, .slice ok key.length ck, .slice ou uqs.length cu] 26)) w2 → w2.cell? ⟨w.heap.size, 1, none⟩ = some (.slice ok key.length ck) ∧ w2.cell? ⟨w.heap.size, 2, none⟩ = some (.slice ou uqs.length cu) ∧ w.heap.size < w2.heap.size ∧ Below w.heap.size w w2 := fun w2 hb2 =>
      ⟨by rw [hb2.cell (by simp)]; simp [go_sem], by rw [hb2.cell (by simp)]; simp [go_sem], by have := hb2.size; simp at this; omega, ((Below.refl _ _).alloc (Nat.le_refl _) _).trans (hb2.mono (by simp))⟩
    have HARM := Lib.hid ARM
    clear ARM
    have hmade : ∀ W : World, (W.alloc (.cells #[.slice ok key.length ck] 23)).ownsRow W.heap.size 23 1 (.slice (some ⟨W.heap.size, 0, none⟩) 1 1) 1 [.slice ok key.length ck] := fun W => ⟨rfl, .inr ⟨W.heap.size, 1, #[.slice ok key.length ck], rfl, Nat.le_refl _, heap_alloc_at _ _, Nat.le_refl _, by decide, rfl, rfl⟩⟩
    have HMADE := Lib.hid hmade
    clear hmade
    cases ou with
    | none =>
      have hu : uqs = [] := by
        cases uqs with
        | nil => rfl
        | cons x l => obtain ⟨a, e, _⟩ := HU.out 0 (by simp); cases e
      subst hu
      go_enter Tryz.func11, Tryz.ntmps11
      go_wp2_with (first | (go_at_call 16; refine (HR.out _ ((Below.refl _ _).alloc (Nat.le_refl _) _)).mono ?_; rintro e w2 ⟨rfl, hb2⟩; obtain ⟨c1, c2, hz9, hb02⟩ := HARM.out _ hb2; clear hb2))
      have hmd := HMADE.out w2
      have hbT : Below w.heap.size w (w2.alloc (.cells #[.slice ok key.length ck] 23)) := hb02.alloc hb02.size _
      obtain ⟨oo, co, hv, hsets⟩ := ow_sets (es := [((ok, ck), key)]) (L := [key]) hmd rfl (fun e he => by
        obtain rfl : e = ((ok, ck), key) := by simpa using he
        exact ⟨HK.out.keep hbT (Nat.le_refl _), HKC.out⟩)
      have HST := Lib.hid hsets
      have HV := Lib.hid hv
      have HBT := Lib.hid hbT
      clear hmd hsets hv hbT hb02
      go_ret
      refine ⟨oo, co, _, by rw [HL.out]; exact congrArg Ending.returned HV.out, by rw [HL.out]; exact HST.out, HBT.out⟩
    | some ad =>
      obtain ⟨us, hus⟩ : ∃ us : List Ent, (List.range uqs.length).map (fun j => ((hAt hs j, uqs.getD j []) : Ent)) = us := ⟨_, rfl⟩
      have hul' : us.length = uqs.length := by rw [← hus]; simp
      have hu2 : us.map (·.2) = uqs := by
        rw [← hus, List.map_map]
        refine List.ext_getElem (by simp) (fun j h1 h2 => ?_)
        simp [List.getElem?_eq_getElem (show j < uqs.length from h2)]
      have huc : ∀ j u, (ecells us)[j]? = some u → ∃ h : j < uqs.length, u = .slice (hAt hs j).1 uqs[j].length (hAt hs j).2 := fun j u hj => by
        have hjl : j < us.length := by have := (List.getElem?_eq_some_iff.1 hj).1; simpa [ecells] using this
        have hjl' : j < uqs.length := by omega
        refine ⟨hjl', ?_⟩
        subst hus
        simp [ecells, hjl', List.getD_eq_getElem?_getD] at hj
        exact hj.symm
      have hue : ∀ e ∈ us, ∃ j, ∃ h : j < uqs.length, e = (hAt hs j, uqs[j]) := fun e he => by
        subst hus
        obtain ⟨j, hj, rfl⟩ := List.mem_map.1 he
        have hj' := List.mem_range.1 hj
        exact ⟨j, hj', by rw [List.getD_eq_getElem?_getD, List.getElem?_eq_getElem hj']; rfl⟩
      have HUS := Lib.hid (And.intro hul' (And.intro hu2 (And.intro huc hue)))
      have hul2 : (ecells us).length = uqs.length * 1 := by simp [ecells, hul']
      clear hus hu2 huc hue hul'
      go_enter Tryz.func11, Tryz.ntmps11
      go_wp2_with (first | (go_at_call 16; refine (HR.out _ ((Below.refl _ _).alloc (Nat.le_refl _) _)).mono ?_; rintro e w2 ⟨rfl, hb2⟩; obtain ⟨c1, c2, hz9, hb02⟩ := HARM.out _ hb2; clear hb2) | (at_builtin; refine wpList_append_own _ rfl _ _ 24 rfl w2.heap.size 23 i0 (.slice none 0 0) 1 24 Tryz.underlying24 hi0 hz0 hz1 hz2 rfl (by decide) _ 1 [.slice ok key.length ck] rfl (HMADE.out w2) ad uqs.length cu (ecells us) rfl hul2 ?e1 ?e2 ?e3 ?e4 ?e5 ?_))
      case e1 =>
        intro j u hj
        obtain ⟨h, rfl⟩ := HUS.out.2.2.1 j u hj
        obtain ⟨a, e, hc, _⟩ := (HU.out.keep (hb02.alloc hb02.size (.cells #[.slice ok key.length ck] 23)) (Nat.le_refl _)) j h
        cases e
        exact hc
      case e2 =>
        intro u hu
        simp only [ecells, List.mem_map] at hu
        obtain ⟨e, _, rfl⟩ := hu
        rfl
      case e3 => unfold maxLen; omega
      case e4 => omega
      case e5 => simp
      intro v7 w7 hown7 hg7 _
      have hb7 : Below w.heap.size w w7 := (hb02.alloc hb02.size (.cells #[.slice ok key.length ck] 23)).grown hg7 (by have := hb02.size; simp; omega) (fun k hk => by cases hk; exact hb02.size)
      obtain ⟨hul', hu2, huc, hue⟩ := HUS.out
      have hlen : (((ok, ck), key) :: us).length = 1 + uqs.length := by rw [List.length_cons, hul']; omega
      obtain ⟨oo, co, hv, hsets⟩ := ow_sets (es := ((ok, ck), key) :: us) (L := key :: uqs) (by rw [hlen]; exact hown7) (by rw [List.map_cons, hu2]) (fun e he => by
        rcases List.mem_cons.1 he with rfl | he
        · exact ⟨HK.out.keep hb7 (Nat.le_refl _), HKC.out⟩
        · obtain ⟨j, hj, rfl⟩ := hue e he
          obtain ⟨a, ea, hc, h1, h2⟩ := HU.out j hj
          exact ⟨h2.keep hb7 (Nat.le_refl _), h1⟩)
      have HST := Lib.hid hsets
      have HV := Lib.hid hv
      have HB7 := Lib.hid hb7
      clear hown7 hg7 hsets hv hb7 hue huc
      go_wp2_with fail
      go_ret
      refine ⟨oo, co, _, by rw [HL.out]; exact congrArg Ending.returned HV.out, by rw [HL.out]; exact HST.out, HB7.out⟩
end Go.Proofs.YtjlhbpacecbfmaaGreatDoor
