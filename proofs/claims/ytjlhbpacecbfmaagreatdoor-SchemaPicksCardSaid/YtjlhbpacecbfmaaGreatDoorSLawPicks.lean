/-
  swingbridgeref03.Pick; swingbridgelaw03.SchemaPicks: true.
-/
import Derived.Test.YtjlhbpacecbfmaaGreatDoorSFew
import Derived.Test.YtjlhbpacecbfmaaGreatDoorSWorks
import Derived.Test.YtjlhbpacecbfmaaGreatDoorVLists
namespace Go.Proofs.YtjlhbpacecbfmaaGreatDoor
open Go.RowKit

theorem bytesLess_irrefl : ∀ l : List UInt8, Op.bytesLess l l = false
  | [] => rfl
  | a :: l => by
    show (decide (a < a) || (a == a && Op.bytesLess l l)) = false
    rw [bytesLess_irrefl l]
    simp
theorem ord_refl (v : Vl) : v.ord v = 0 := by
  unfold Vl.ord ord or4
  rw [cmpI_self, cmpI_self, cmpI_self]
  unfold cmpS
  rw [bytesLess_irrefl]
  simp
theorem lists_refl : ∀ l : List Vl, lists l l = 0
  | [] => by simp [lists, cmpI]
  | x :: l => by
    unfold lists
    rw [if_neg (by rw [ord_refl]; simp), lists_refl l]

/-- the cells of values, one behind the other -/
def vc4 (v : Vl) : List Value := [.int .i64 v.k, .int .i64 v.i, .int .u64 v.u, .string v.s]
def vcells (l : List Vl) : List Value := l.flatMap vc4
theorem vcells_len : ∀ l : List Vl, (vcells l).length = l.length * 4
  | [] => rfl
  | x :: l => by
    show (vc4 x ++ vcells l).length = _
    rw [List.length_append, vcells_len l, List.length_cons]
    show 4 + _ = _
    omega
theorem vcells_at : ∀ (l : List Vl) (j : Nat) (h : j < l.length) (i : Nat), i < 4 → (vcells l)[j * 4 + i]? = (vc4 l[j])[i]?
  | x :: l, 0, _, i, hi => by
    show (vc4 x ++ vcells l)[0 * 4 + i]? = (vc4 x)[i]?
    rw [List.getElem?_append_left (by show 0 * 4 + i < 4; omega), show 0 * 4 + i = i by omega]
  | x :: l, j + 1, h, i, hi => by
    show (vc4 x ++ vcells l)[(j + 1) * 4 + i]? = (vc4 (x :: l)[j + 1])[i]?
    rw [List.getElem?_append_right (by show 4 ≤ (j + 1) * 4 + i; omega), show (j + 1) * 4 + i - (vc4 x).length = j * 4 + i by show (j + 1) * 4 + i - 4 = _; omega, vcells_at l j (by simpa using h) i hi]
    rfl
theorem slice_own {w : World} {base : Nat} {v : Value} {l : List Vl} (h : w.ownsRow base 47 4 v l.length (vcells l)) : SliceOf w v l := by
  have h0 := h
  rcases h.2 with ⟨e, hn⟩ | ⟨g, cap, cur, e, _, _, hnc, _⟩
  · exact .inl ⟨e, List.eq_nil_of_length_eq_zero hn⟩
  · subst e
    refine .inr ⟨_, cap, rfl, hnc, fun j hj => ?_⟩
    rw [add4]
    have q : ∀ i, i < 4 → w.cell? ⟨g, j * 4 + i, none⟩ = (vc4 l[j])[i]? := fun i hi => by
      rw [h0.cellAt (j * 4 + i) (by omega), vcells_at l j hj i hi]
    exact ⟨q 0 (by omega), q 1 (by omega), q 2 (by omega), q 3 (by omega)⟩
theorem pick_take (l : List Vl) (pl : List Int) (k : Nat) (x : Int) (c : Vl) (hk : k < pl.length) (hx : pl[k] = x) (hc : l.getD x.toNat val0 = c) :
    vcells (pickL val0 l (pl.take (k + 1))) = vcells (pickL val0 l (pl.take k)) ++ vc4 c := by
  have e : pl.take (k + 1) = pl.take k ++ [x] := by rw [List.take_add_one, List.getElem?_eq_getElem hk, hx]; rfl
  rw [e]
  unfold pickL vcells
  rw [List.map_append, List.flatMap_append, ← hc]
  simp

set_option maxRecDepth 100000 in
set_option maxHeartbeats 2000000 in
theorem rPick_any (oc : Option Addr) (cc : Nat) (l : List Vl) (ol : Option Addr) (cl : Nat) (pl : List Int) (w : World) (_hl : l.length ≤ 1000) (hp : pl.length ≤ 1000) (hc : ValsIn w oc l) (hi : IntsIn w ol pl) :
    Calls Tryz.prog 25 #[.slice oc l.length cc, .slice ol pl.length cl] w fun e w' =>
      (inAll l.length pl = true ∧ (∃ v, e = .returned (.tuple #[v, .int .i64 0]) ∧ SliceOf w' v (pickL val0 l pl)) ∧ Below w.heap.size w w') ∨
      (inAll l.length pl = false ∧ e = .returned (.tuple #[.slice none 0 0, .int .i64 4]) ∧ Below w.heap.size w w') := by
  obtain ⟨i0, hi0, hz0, hz1, hz2⟩ := info_parts infoV
  have HC := Lib.hid hc
  have HI := Lib.hid hi
  clear hc hi
  go_enter Tryz.func25, Tryz.ntmps25
  go_wp2_with fail
  go_loopw [6, 7] (fun v i wr => ∃ (k : Nat), k ≤ pl.length ∧ i = .int .i64 k ∧ Hid (∀ j (h : j < pl.length), j < k → 0 ≤ pl[j] ∧ pl[j] < l.length) ∧ Hid (wr.ownsRow w.heap.size 47 4 v k (vcells (pickL val0 l (pl.take k)))) ∧ Hid (Below w.heap.size w wr)) (fun _ i _ => pl.length - (intOf i).toNat)
  case atStart => exact ⟨0, by omega, rfl, Lib.hid (fun j _ h => absurd h (Nat.not_lt_zero j)), Lib.hid (World.ownsRow_nil _ _ _ _), Lib.hid (Below.refl _ _)⟩
  case round =>
    obtain ⟨k, hk, rfl, HK, HO, HB⟩ := hrel
    by_cases hkl : k < pl.length
    · obtain ⟨x, hx⟩ : ∃ v, pl[k] = v := ⟨_, rfl⟩
      obtain ⟨ai, rfl, hxc⟩ := HI.out.keep HB.out (Nat.le_refl _) k hkl
      rw [hx] at hxc
      by_cases h0 : 0 ≤ x
      · by_cases h1 : x < l.length
        · obtain ⟨m, rfl⟩ := Int.eq_ofNat_of_zero_le h0
          have hm : m < l.length := by omega
          obtain ⟨c, hcc⟩ : ∃ c, l[m] = c := ⟨_, rfl⟩
          obtain ⟨ac, rfl, hat⟩ := HC.out.keep HB.out (Nat.le_refl _) m hm
          rw [hcc] at hat
          have hal := hat.lt
          obtain ⟨c0, c1, c2, c3⟩ := hat
          have HV := Lib.hid (pick_take l pl k m c hkl hx (by rw [List.getD_eq_getElem?_getD]; simp [List.getElem?_eq_getElem hm, hcc]))
          have HK2 := Lib.hid (show ∀ j (h : j < pl.length), j < k + 1 → 0 ≤ pl[j] ∧ pl[j] < l.length from fun j h hj => by
            by_cases e : j = k
            · subst e; rw [hx]; omega
            · exact HK.out j h (by omega))
          clear hx hcc HC HI
          go_wp2_with (first | (at_builtin; refine wpList_append_own _ rfl _ _ 51 rfl w.heap.size 47 i0 (.agg #[.int .i64 0, .int .i64 0, .int .u64 0, .string ⟨#[]⟩]) 4 40 Tryz.underlying51 hi0 hz0 hz1 hz2 rfl (by decide) _ k (vcells (pickL val0 l (pl.take k))) rfl (HO.out.alloc _) ⟨wr.heap.size, 0, none⟩ 1 1 (vc4 c) rfl rfl ?e1 ?e2 ?e3 ?e4 ?e5 ?_))
          case e1 =>
            intro j' u' hj'
            match j', hj' with
            | 0, hj' => simp [vc4] at hj'; subst hj'; simp [Addr.add]
            | 1, hj' => simp [vc4] at hj'; subst hj'; simp [Addr.add]
            | 2, hj' => simp [vc4] at hj'; subst hj'; simp [Addr.add]
            | 3, hj' => simp [vc4] at hj'; subst hj'; simp [Addr.add]
          case e2 => intro u' hu'; simp [vc4] at hu'; rcases hu' with rfl | rfl | rfl | rfl <;> rfl
          case e3 => unfold maxLen; omega
          case e4 => omega
          case e5 => have := HB.out.size; simp; omega
          intro v4 w4 hown4 hg4 _
          have HB4 := Lib.hid (show Below w.heap.size w w4 from (HB.out.alloc HB.out.size _).grown hg4 (by have := HB.out.size; simp; omega) (fun x h => (HO.out.lt x h).1))
          rw [← HV.out] at hown4
          have HO4 := Lib.hid hown4
          clear hown4 hg4
          go_wp2_with fail
          go_roundw
          case rel => exact ⟨k + 1, by omega, by go_num, HK2, HO4, HB4⟩
          case measure => simp [intOf]; omega
        · have HN := Lib.hid (inAll_no (n := l.length) hkl (by omega))
          clear hx HC HI
          go_wp2_with fail
          go_ret2
          exact .inr ⟨HN.out, rfl, HB.out⟩
      · have HN := Lib.hid (inAll_no (n := l.length) hkl (by omega))
        clear hx HC HI
        go_wp2_with fail
        go_ret2
        exact .inr ⟨HN.out, rfl, HB.out⟩
    · obtain rfl : k = pl.length := by omega
      have HA := Lib.hid (show inAll l.length pl = true by
        unfold inAll
        rw [List.all_eq_true]
        intro x hx
        obtain ⟨j, hj, rfl⟩ := List.getElem_of_mem hx
        have := HK.out j hj hj
        simpa using this)
      have hlen : (pickL val0 l pl).length = pl.length := by simp [pickL]
      have hown := HO.out
      rw [List.take_length] at hown
      have HR := Lib.hid (slice_own (l := pickL val0 l pl) (by rw [hlen]; exact hown))
      clear hown hlen
      go_wp2_with fail
      go_ret2
      exact .inl ⟨HA.out, ⟨_, rfl, HR.out⟩, HB.out⟩

set_option maxRecDepth 100000 in
set_option maxHeartbeats 4000000 in
theorem lawPicks_true (oa : Option Addr) (ca : Nat) (row : List Vl) (ob : Option Addr) (cb : Nat) (pl : List Int) (w : World) (hg : HasET w) (hr : ValsIn w oa row) (n0 : row.length ≤ 9223372036854775807) (_n1 : row.length ≤ ca) (n2 : ∀ v ∈ row, v.s.size ≤ 9223372036854775807) (hi : IntsIn w ob pl) (k0 : pl.length ≤ 9223372036854775807) :
    Calls Tryz.prog 6 #[.slice oa row.length ca, .slice ob pl.length cb] w fun e w' => e = .returned (.bool true) ∧ Below w.heap.size w w' := by
  have HW : Hid (∀ W, Below w.heap.size w W → Calls Tryz.prog 10 #[] W fun e w' => e = .returned (.bool true) ∧ Below W.heap.size W w') := Lib.hid (fun W hb => sworks_true W (hg.below hb hg.lt))
  have HSH := Lib.hid (short_rows oa ca row w n0 hr n2)
  cases hsh : shortOk row 12
  · have HQ2 := Lib.hid hsh
    clear hsh hg hr n0 n2 hi
    go_enter Tryz.func6, Tryz.ntmps6
    go_wp2_with (first | (go_at_call 21; refine HSH.out.mono ?_; rintro e w' ⟨he, rfl⟩; rw [HQ2.out] at he; subst he) | (go_at_call 10; refine (HW.out _ (Below.refl _ _)).mono ?_; rintro e w2 ⟨rfl, hb2⟩))
    go_ret
    exact ⟨rfl, hb2⟩
  have hss := shortOk_spec hsh
  by_cases h12 : pl.length ≤ 12
  · have HQ2 := Lib.hid hsh
    have HP := Lib.hid (SPick_any oa ca row ob cb pl w hg (by omega) (by omega) hr hi)
    have HRP : Hid (∀ W, Below w.heap.size w W → _) := Lib.hid (fun W hb => rPick_any oa ca row ob cb pl W (by omega) (by omega) (hr.keep hb (Nat.le_refl _)) (hi.keep hb (Nat.le_refl _)))
    have hpl : (pickL val0 row pl).length = pl.length := by simp [pickL]
    clear hsh hg hr n0 n2 hi hss
    go_enter Tryz.func6, Tryz.ntmps6
    go_wp2_with (first | (go_at_call 21; refine HSH.out.mono ?_; rintro e w' ⟨he, rfl⟩; rw [HQ2.out] at he; subst he))
    refine HP.out.mono ?_
    rintro e w1 (⟨hin, ⟨b, rfl, hv⟩, hb1⟩ | ⟨hin, rfl, hb1⟩)
    · have HB1 := Lib.hid hb1
      have HV := Lib.hid hv
      have HIN := Lib.hid hin
      clear hb1 hv hin
      go_wp2_with fail
      refine (HRP.out _ HB1.out).mono ?_
      rintro e w2 (⟨hin, ⟨v, rfl, hv2⟩, hb2⟩ | ⟨hin, rfl, hb2⟩)
      · have HB2 := Lib.hid (HB1.out.trans (hb2.mono HB1.out.size))
        have hs1 : SliceOf w2 (.slice (some ⟨b, 0, none⟩) pl.length pl.length) (pickL val0 row pl) := .inr ⟨⟨b, 0, none⟩, pl.length, by rw [hpl], by omega, fun j hj => by
          obtain ⟨a, e, h⟩ := HV.out.keep hb2 (Nat.le_refl _) j hj
          cases e
          exact h⟩
        have HS := Lib.hid (rSame_any _ _ _ _ w2 hs1 hv2 (by omega) (by omega))
        have HLR := Lib.hid (lists_refl (pickL val0 row pl))
        clear hb2 hv2 hs1 hin
        go_wp2_with (first | (go_at_call 26; refine HS.out.mono ?_; rintro e w3 ⟨he, hb3⟩; rw [HLR.out] at he; subst he; have HB3 := Lib.hid (HB2.out.trans (hb3.mono HB2.out.size)); clear hb3) | (go_at_call 14; refine (l3num_any _ _).mono ?_; rintro e w' ⟨rfl, rfl⟩) | (go_at_call 10; refine (HW.out _ HB3.out).mono ?_; rintro e w4 ⟨rfl, hb4⟩))
        go_ret
        exact ⟨rfl, HB3.out.trans (hb4.mono HB3.out.size)⟩
      · rw [HIN.out] at hin; cases hin
    · have HB1 := Lib.hid hb1
      have HIN := Lib.hid hin
      clear hb1 hin
      go_wp2_with fail
      refine (HRP.out _ HB1.out).mono ?_
      rintro e w2 (⟨hin, _, _⟩ | ⟨hin, rfl, hb2⟩)
      · rw [HIN.out] at hin; cases hin
      · have HB2 := Lib.hid (HB1.out.trans (hb2.mono HB1.out.size))
        have hs1 : SliceOf w2 (.slice none 0 0) [] := .inl ⟨rfl, rfl⟩
        have HS := Lib.hid (rSame_any _ _ _ _ w2 hs1 hs1 (by simp) (by simp))
        have HLR := Lib.hid (lists_refl [])
        clear hb2 hs1 hin
        go_wp2_with (first | (go_at_call 26; refine HS.out.mono ?_; rintro e w3 ⟨he, hb3⟩; rw [HLR.out] at he; subst he; have HB3 := Lib.hid (HB2.out.trans (hb3.mono HB2.out.size)); clear hb3) | (go_at_call 14; refine (l3num_any _ _).mono ?_; rintro e w' ⟨rfl, rfl⟩) | (go_at_call 10; refine (HW.out _ HB3.out).mono ?_; rintro e w4 ⟨rfl, hb4⟩))
        go_ret
        exact ⟨rfl, HB3.out.trans (hb4.mono HB3.out.size)⟩
  · have HQ2 := Lib.hid hsh
    have hgt : (12 : Int) < (pl.length : Int) := by omega
    clear hsh hg hr n0 n2 hi hss
    go_enter Tryz.func6, Tryz.ntmps6
    go_wp2_with (first | (go_at_call 21; refine HSH.out.mono ?_; rintro e w' ⟨he, rfl⟩; rw [HQ2.out] at he; subst he) | (go_at_call 10; refine (HW.out _ (Below.refl _ _)).mono ?_; rintro e w2 ⟨rfl, hb2⟩))
    go_ret
    exact ⟨rfl, hb2⟩
end Go.Proofs.YtjlhbpacecbfmaaGreatDoor
