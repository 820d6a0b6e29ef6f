/-
  key.Encode, walked.
-/
import Derived.Test.YtcedeipmboekaaaGreatDoorKEnc
namespace Go.Proofs.YtcedeipmboekaaaGreatDoor
open Go.RowKit

set_option maxRecDepth 100000 in
set_option maxHeartbeats 2000000 in
theorem qEncode_any (oa : Option Addr) (cap : Nat) (vs : List Vl) (w : World) (hv : ValsK w oa vs) (hN : ∀ v ∈ vs, InN v) (hl : vs.length ≤ 9223372036854775807) (hg : HasET w) :
    Calls Tryz.prog 10 #[.slice oa vs.length cap] w fun e w' => e = .returned (.tuple #[.string (encTx vs), .int .i64 (encNo vs)]) ∧ Below w.heap.size w w' := by
  have HV := Lib.hid hv
  have HG := Lib.hid hg
  clear hv hg
  have hfd : ∀ (a b : Nat) (W : World), (Instr.field 60 (.agg #[.func (.func a) #[] #[], .func (.func b) #[] #[]]) 0).run Tryz.prog W = .ok (.func (.func a) #[] #[]) W := fun _ _ _ => rfl
  go_enter Tryz.func10, Tryz.ntmps10
  go_wp2_with fail
  go_loopw [13] (fun i wr => ∃ k : Nat, k ≤ vs.length ∧ i = .int .i64 k ∧ Hid (Below w.heap.size w wr) ∧ Hid (∀ j (h : j < vs.length), j < k → vs[j].chk = 0)) (fun i _ => vs.length - (intOf i).toNat)
  case atStart => exact ⟨0, Nat.zero_le _, rfl, Lib.hid (Below.refl _ _), Lib.hid (fun j h hj => by omega)⟩
  case round =>
    obtain ⟨k, hk, rfl, HB, H0⟩ := hrel
    by_cases hlt : k < vs.length
    · obtain ⟨a, rfl, hc⟩ := (HV.out.keep HB.out (Nat.le_refl _)) k hlt
      obtain ⟨c0, c1, c2, c3⟩ := hc
      have HC := Lib.hid (fun W (hb : Below wr.heap.size wr W) => Check_any vs[k].k vs[k].i vs[k].u vs[k].s W (HG.out.below (HB.out.trans (hb.mono HB.out.size)) HG.out.lt))
      obtain ⟨c, hcc⟩ : ∃ c, vs[k].chk = c := ⟨_, rfl⟩
      have HCC := Lib.hid hcc
      have hcc2 : chk vs[k].k vs[k].i vs[k].u vs[k].s = c := hcc
      rw [hcc2] at HC
      clear hcc hcc2
      by_cases h0 : c = 0
      · subst h0
        go_wp2_with fail
        refine (HC.out _ ((Below.refl _ _).alloc (Nat.le_refl _) _)).mono ?_
        rintro e w1 ⟨rfl, hb1⟩
        have HB1 := Lib.hid hb1
        clear hb1
        go_wp2_with fail
        go_roundw
        case rel =>
          refine ⟨k + 1, by omega, by go_num, Lib.hid ((HB.out.alloc (by exact HB.out.size) _).trans (HB1.out.mono (by have := HB.out.size; simp; omega))), Lib.hid (fun j h hj => ?_)⟩
          rcases Nat.lt_or_ge j k with h2 | h2
          · exact H0.out j h h2
          · obtain rfl : j = k := by omega
            exact HCC.out
        case measure => simp [intOf]; omega
      · have HE := Lib.hid (firstE_at hlt (fun j h => H0.out j (by omega) h) (by rw [HCC.out]; exact h0))
        go_wp2_with fail
        refine (HC.out _ ((Below.refl _ _).alloc (Nat.le_refl _) _)).mono ?_
        rintro e w1 ⟨rfl, hb1⟩
        have HB1 := Lib.hid hb1
        clear hb1
        go_wp2_with fail
        go_ret2
        have e1 : encNo vs = c := by unfold encNo; rw [HE.out, HCC.out, if_pos h0]
        have e2 : encTx vs = ⟨#[]⟩ := by unfold encTx; rw [e1, if_neg h0]
        rw [e1, e2]
        exact ⟨rfl, (HB.out.alloc (by exact HB.out.size) _).trans (HB1.out.mono (by have := HB.out.size; simp; omega))⟩
    · obtain rfl : k = vs.length := by omega
      have h00 := firstE_all (l := vs) (fun j h => H0.out j h h)
      have HOK := Lib.hid (fun v (hv : v ∈ vs) => (⟨firstE_zero h00 v hv, (hN v hv).i0, (hN v hv).i1, (hN v hv).u0, (hN v hv).u1⟩ : VOk v))
      have H00 := Lib.hid h00
      clear h00 H0
      go_wp2_with fail
      refine (qkinds_any _).mono ?_
      rintro e w1 ⟨rfl, hw1⟩
      have HM : Hid (w1.heap[wr.heap.size]? = some (.map keyKinds 5)) := Lib.hid (by rw [← hw1]; exact heap_alloc_at _ _)
      have HB1 : Hid (Below w.heap.size w w1) := Lib.hid (by rw [← hw1]; exact HB.out.alloc HB.out.size _)
      have hs1 : wr.heap.size < w1.heap.size := by rw [← hw1]; simp
      have hsw := HB.out.size
      obtain ⟨M, hM⟩ : ∃ M, wr.heap.size = M := ⟨_, rfl⟩
      rw [hM] at HM hs1 hsw ⊢
      clear hw1 hM HB
      go_wp2_with fail
      go_loopw [8, 26] (fun b i wx => ∃ k a7 n7 c7, k ≤ vs.length ∧ i = .int .i64 (k : Nat) ∧ b = .slice a7 n7 c7 ∧ n7 ≤ 2000 ∧ Hid (n7 = (keyL (vs.take k)).length) ∧ Hid (wx.ownsRow w.heap.size 5 1 (.slice a7 n7 c7) (keyL (vs.take k)).length (u8s (keyL (vs.take k)))) ∧ Hid (Below w.heap.size w wx) ∧ Hid (wx.heap[M]? = some (.map keyKinds 5))) (fun _ i _ => vs.length - (intOf i).toNat)
      case atStart => exact ⟨0, none, 0, 0, Nat.zero_le _, rfl, rfl, Nat.zero_le _, Lib.hid rfl, Lib.hid (World.ownsRow_nil _ _ _ _), HB1, HM⟩
      case round =>
        obtain ⟨k, a7, n7, c7, hk, rfl, rfl, hn7, HN7, HO, HB2, HM2⟩ := hrel
        by_cases hlt : k < vs.length
        · obtain ⟨a, rfl, hc⟩ := (HV.out.keep HB2.out (Nat.le_refl _)) k hlt
          obtain ⟨c0, c1, c2, c3⟩ := hc
          have hok := HOK.out _ (List.getElem_mem hlt)
          have HKT := Lib.hid (keyL_take hlt)
          have HKR := Lib.hid (keyB_rest hok)
          obtain ⟨hk0, hk4, _⟩ := key_head hok
          have HT := Lib.hid (fun W => qtellK_any vs[k].k vs[k].k.toNat 1 W (by rw [IntKind.wrap_u64]; omega) (by omega) (by decide) (by decide) (by rcases (show vs[k].k.toNat = 0 ∨ vs[k].k.toNat = 1 ∨ vs[k].k.toNat = 2 ∨ vs[k].k.toNat = 3 ∨ vs[k].k.toNat = 4 by omega) with h | h | h | h | h <;> rw [h] <;> decide))
          simp only [tell_one] at HT
          obtain ⟨f, g, hlook, hent, hlay⟩ := lay_in hok
          have HLK := Lib.hid hlook
          have HLY := Lib.hid hlay
          have hrl := keyRest_len hok
          clear hlook hlay hok
          go_wp2_with fail
          refine (HT.out _).mono ?_
          rintro e w3 ⟨x, rfl, hx, hb3⟩
          have HX := Lib.hid hx
          have HB3 : Hid (Below wr.heap.size wr w3) := Lib.hid (((Below.refl _ _).alloc (Nat.le_refl _) _).trans (hb3.mono (by simp)))
          have hz3 := HB3.out.size
          have hz2 := HB2.out.size
          have HM3 := Lib.hid ((HB3.out.block _ (Array.getElem?_eq_some_iff.1 HM2.out).1).trans HM2.out)
          have d0 : w3.cell? ⟨wr.heap.size, 0, none⟩ = some (.int .i64 vs[k].k) := (hb3.cell (by simp)).trans (by simp [go_sem])
          have d1 : w3.cell? ⟨wr.heap.size, 1, none⟩ = some (.int .i64 vs[k].i) := (hb3.cell (by simp)).trans (by simp [go_sem])
          have d2 : w3.cell? ⟨wr.heap.size, 2, none⟩ = some (.int .u64 vs[k].u) := (hb3.cell (by simp)).trans (by simp [go_sem])
          have d3 : w3.cell? ⟨wr.heap.size, 3, none⟩ = some (.string vs[k].s) := (hb3.cell (by simp)).trans (by simp [go_sem])
          have hzb : wr.heap.size < w3.heap.size := by have := hb3.size; simp at this; omega
          have HO3 := Lib.hid (own_keepK HO.out HB3.out)
          clear hx hb3 c0 c1 c2 c3
          go_wp2_with (at_builtin; refine wpList_append_bytes rfl _ _ rfl w.heap.size _ _ _ (keyL (vs.take k)) [UInt8.ofNat vs[k].k.toNat] rfl rfl HO3.out rfl HX.out ?e1 ?e2 ?_)
          case e1 => have := HN7.out; simp; omega
          case e2 => omega
          intro v4 w4 hown4 hg4
          have HB4 := Lib.hid (grown_belowK HO3.out hg4 (by omega))
          obtain ⟨a8, c8, rfl⟩ := own_slice hown4
          have HM4 := Lib.hid ((hg4.block M (Array.getElem?_eq_some_iff.1 HM3.out).1 (fun e => own_not_map HO3.out HM3.out e.symm)).trans HM3.out)
          have far : ∀ o, w4.cell? ⟨wr.heap.size, o, none⟩ = w3.cell? ⟨wr.heap.size, o, none⟩ := fun o => hg4.cell_far _ hzb (by
            intro e
            have := (HO.out.lt wr.heap.size e.symm).2
            omega)
          have HO4 := Lib.hid hown4
          have hs4 := hg4.size
          have hlk := HLK.out w4 M HM4.out
          have g0 := (far 0).trans d0
          have g1 := (far 1).trans d1
          have g2 := (far 2).trans d2
          have g3 := (far 3).trans d3
          obtain ⟨n8, hn8⟩ : ∃ n8, (keyL (vs.take k)).length + 1 = n8 := ⟨_, rfl⟩
          have HN8 := Lib.hid hn8
          rw [hn8] at HO4 ⊢
          clear far d0 d1 d2 d3 hown4 hg4 hn8 HX HT
          go_wp2_with fail
          refine (HLY.out _).mono ?_
          rintro e w5 ⟨x, rfl, hx, hb5⟩
          have HX5 := Lib.hid hx
          have HB5 := Lib.hid hb5
          have HO5 := Lib.hid (own_keepK HO4.out hb5)
          have HM5 := Lib.hid ((hb5.block M (Array.getElem?_eq_some_iff.1 HM4.out).1).trans HM4.out)
          have hs5 := hb5.size
          have hn81 : n8 ≤ 2001 := by have := HN7.out; have := HN8.out; omega
          clear hx hb5 hlk g0 g1 g2 g3
          obtain ⟨B8, hB8⟩ : ∃ B8, keyL (vs.take k) ++ [UInt8.ofNat vs[k].k.toNat] = B8 := ⟨_, rfl⟩
          have hb8 : B8.length = n8 := by rw [← hB8, ← HN8.out]; simp
          have HB8 := Lib.hid hB8
          rw [hB8, ← hb8] at HO5
          rw [← hb8]
          have HBL := Lib.hid hb8
          clear hB8 hb8 HO4
          go_wp2_with (at_builtin; refine wpList_append_bytes rfl _ _ rfl w.heap.size _ _ _ B8 (keyRest vs[k]) rfl rfl HO5.out rfl HX5.out ?e3 ?e4 ?_)
          case e3 => have := HBL.out; omega
          case e4 => omega
          intro v6 w6 hown6 hg6
          have HB6 := Lib.hid (grown_belowK HO5.out hg6 (by omega))
          obtain ⟨a9, c9, rfl⟩ := own_slice hown6
          have HM6 := Lib.hid ((hg6.block M (Array.getElem?_eq_some_iff.1 HM5.out).1 (fun e => own_not_map HO5.out HM5.out e.symm)).trans HM5.out)
          have hs6 := hg6.size
          have hkt : B8 ++ keyRest vs[k] = keyL (vs.take (k + 1)) := by rw [HKT.out, HKR.out, ← HB8.out, List.append_assoc]
          have HKK : Hid (B8.length + (keyRest vs[k]).length = (keyL (vs.take (k + 1))).length) := Lib.hid (by rw [← hkt, List.length_append])
          have HO6 := Lib.hid hown6
          rw [hkt] at HO6
          obtain ⟨n9, hn9⟩ : ∃ n9, B8.length + (keyRest vs[k]).length = n9 := ⟨_, rfl⟩
          rw [hn9] at HKK HO6 ⊢
          clear hn9 hkt hown6 hg6 HO5 HX5
          have HBW : Hid (Below w.heap.size w w6) := Lib.hid ((((HB2.out.trans (HB3.out.mono hz2)).trans HB4.out).trans (HB5.out.mono (by omega))).trans HB6.out)
          by_cases hbig : 2000 < n9
          · have hno : encNo vs = 3 := by
              unfold encNo
              have := keyL_le vs (k + 1)
              have := HKK.out
              rw [H00.out, if_neg (by simp), if_pos (by omega)]
            have htx : encTx vs = ⟨#[]⟩ := by unfold encTx; rw [hno, if_neg (by decide)]
            have HNO := Lib.hid hno
            have HTX := Lib.hid htx
            clear hno htx
            go_wp2_with fail
            go_ret2
            rw [HNO.out, HTX.out]
            exact ⟨rfl, HBW.out⟩
          · go_wp2_with fail
            go_roundw
            case rel => exact ⟨k + 1, a9, n9, c9, by omega, by go_num, rfl, by omega, HKK, by rw [← HKK.out]; exact HO6, HBW, HM6⟩
            case measure => simp [intOf]; omega
        · obtain rfl : k = vs.length := by omega
          have HO7 := HO.out
          rw [List.take_length] at HO7 HN7
          have hcv := bytes_string (BytesOf.own HO7).at
          have hno : encNo vs = 0 := by
            unfold encNo
            have := HN7.out
            rw [H00.out, if_neg (by simp), if_neg (by omega)]
          have htx : encTx vs = ⟨(keyL vs).toArray⟩ := by unfold encTx; rw [hno, if_pos rfl]
          have HNO := Lib.hid hno
          have HTX := Lib.hid htx
          clear HO HO7 hno htx
          go_wp2_with fail
          go_ret2
          rw [HNO.out, HTX.out]
          exact ⟨rfl, HB2.out⟩
end Go.Proofs.YtcedeipmboekaaaGreatDoor
