/-
  swingbridgelaw10.LogHolds: the law.
-/
import Derived.Test.YtbhgcioeibhjeaaDoorLLawH
namespace Go.Proofs.YtbhgcioeibhjeaaDoor
open Go.RowKit

theorem LRun.keepK {w W : World} {q p : Nat} {D : Dk} {f e t : Int} (h : LRun w W q p D f e t) : LK (fun _ => False) w w W q p D f e t := by
  obtain ⟨Φ, h1, h2, h3, h4, h5, h6⟩ := h
  exact ⟨Φ, h1, h2, h3, h4, h5, h6, fun k hk => hk.elim⟩
theorem RowsK.up {w W : World} {ob : Option Addr} {Hd : List (List UInt8)} (h : RowsK (fun _ => False) w w ob Hd) (hb : Below w.heap.size w W) : RowsK (fun _ => False) W W ob Hd := fun j hj => by
  obtain ⟨a, v, h1, h2, h3⟩ := h j hj
  rcases h2 with ⟨h4, h5⟩ | ⟨h4, _⟩
  · exact ⟨a, v, h1, .inl ⟨Nat.lt_of_lt_of_le h4 hb.size, (hb.cell (by rw [Addr.add_block]; exact h4)).trans h5⟩, h3.keep hb (Nat.le_refl _)⟩
  · exact h4.elim
/-- what abides between two turns -/
structure TS (L : List (List UInt8)) (W1 : World) (p k m q : Nat) (Hd : List (List UInt8)) (ob : Option Addr) (D : Dk) (Ψ : Nat → Prop) (V0 : World) (t : Int) (wr : World) : Prop where
  few : Hd.length ≤ 20 * (k + 1)
  short : ∀ b ∈ Hd, b.length ≤ 60
  first : k = 0 → Hd = L ∧ m = 0
  sd : SD Hd 0 m D
  lk : LK Ψ V0 W1 wr q p D 7 ((catR (Hd.take m)).length : Nat) t
  rows : RowsK Ψ V0 W1 ob Hd
set_option maxRecDepth 100000 in
set_option maxHeartbeats 8000000 in
theorem lawL_ok (ol : Option Addr) (cl : Nat) (L : List (List UInt8)) (sy k0 k1 t0 t1 : Nat) (w : World) (hET : HasET w) (hL : RowsK (fun _ => False) w w ol L) (hcl : ol = none → cl = 0) (hcap : L.length ≤ cl) (hlen : L.length ≤ 20) (hmax : maxL L ≤ 60) (hsy : sy ≤ L.length) (b0 : k0 ≤ 9223372036854775807) (b1 : k1 ≤ 9223372036854775807) (b2 : t0 ≤ 9223372036854775807) (b3 : t1 ≤ 9223372036854775807) :
    Calls Tryd.prog 4 #[.slice ol L.length cl, .int .i64 sy, .agg #[.int .i64 k0, .int .i64 k1], .agg #[.int .i64 t0, .int .i64 t1]] w fun e w' => e = .returned (.bool true) ∧ Below w.heap.size w w' := by
  have HL := Lib.hid hL
  have HET := Lib.hid hET
  have HW := Lib.hid (fun (W : World) (hb : Below w.heap.size w W) => (works_trueL W (hET.below hb hET.lt)).mono (fun e w' h => And.intro h.1 (hb.trans (h.2.mono hb.size))))
  have HMX := Lib.hid hmax
  have HCL := Lib.hid hcl
  have HCP := Lib.hid hcap
  clear hL hET hcl hcap
  go_enter Tryd.func4, Tryd.ntmps4
  go_wp2_with fail
  obtain ⟨W1, hW1⟩ : ∃ W1, (w.alloc (.cells #[.int .i64 k0, .int .i64 k1] 41)).alloc (.cells #[.int .i64 t0, .int .i64 t1] 41) = W1 := ⟨_, rfl⟩
  have hb1 : Below w.heap.size w W1 := by rw [← hW1]; exact ((Below.refl _ w).alloc (Nat.le_refl _) _).alloc (by simp) _
  have hz1 : W1.heap.size = w.heap.size + 2 := by rw [← hW1]; simp
  have hK : W1.cell? ⟨w.heap.size, 0, none⟩ = some (.int .i64 k0) ∧ W1.cell? ⟨w.heap.size, 1, none⟩ = some (.int .i64 k1) ∧ W1.cell? ⟨w.heap.size + 1, 0, none⟩ = some (.int .i64 t0) ∧ W1.cell? ⟨w.heap.size + 1, 1, none⟩ = some (.int .i64 t1) := by rw [← hW1]; exact pair_cells w _ _ _ _ _
  have HB1 := Lib.hid hb1
  have HZ1 := Lib.hid hz1
  have HK := Lib.hid hK
  have HL1 := Lib.hid (HL.out.up hb1)
  have HET1 := Lib.hid (HET.out.below hb1 HET.out.lt)
  rw [hW1]
  clear hW1 hb1 hK hz1
  go_loopw [9, 10] (fun x i wr => ∃ k : Nat, wr = W1 ∧ k ≤ L.length ∧ x = .int .i64 (maxL (L.take k) : Nat) ∧ i = .int .i64 k) (fun _ i _ => 30 - (intOf i).toNat)
  case atStart => exact ⟨0, rfl, Nat.zero_le _, rfl, rfl⟩
  case round =>
    obtain ⟨k, hwr, h1, rfl, rfl⟩ := hrel
    have hwr' := hwr.symm
    clear hwr
    subst hwr'
    by_cases hk : k < L.length
    · obtain ⟨a, v, hol, hcell, hB⟩ := HL.out.at HB1.out (fun k hk => hk.elim) k hk
      have hmx := Lib.hid (maxL_take hk)
      obtain ⟨vo, vc, hvf⟩ := hB.form
      subst hvf hol
      have hbl := World.block_lt_of_cell? _ _ hcell
      have hk20 : k ≤ 20 := by omega
      generalize hml : maxL (L.take k) = ml at *
      generalize hll : L[k].length = ll at *
      clear hB
      go_wp2_with fail
      go_roundw
      case rel => exact ⟨k + 1, trivial, by omega, by rw [hmx.out]; go_num, by go_num⟩
      case measure => simp [intOf]; omega
    · obtain rfl : k = L.length := by omega
      rw [List.take_length]
      obtain ⟨q0, q1, q2, q3⟩ := HK.out
      have hm60 : ¬ 60 < maxL L := by omega
      have HN : Hid (Calls Tryd.prog 8 #[.int .i64 5000] W1 fun e w' => ∃ p, e = .returned (.tuple #[.pointer (some ⟨p, 0, none⟩), .int .i64 0]) ∧ Hid (Run W1 w' p (newD 5000))) := Lib.hid (by
        refine (run_new 5000 W1 (by decide) (by decide)).mono ?_
        rintro e w' ⟨p, e0, h⟩
        exact ⟨p, e0, Lib.hid h⟩)
      have HO : Hid (∀ W p, Run W1 W p (newD 5000) → Calls Tryd.prog 9 #[.pointer (some ⟨p, 0, none⟩), .int .i64 7] W fun x W' => ∃ q, x = .returned (.tuple #[.pointer (some ⟨q, 0, none⟩), .int .i64 0]) ∧ Hid (TS L W1 p 0 0 q L ol (newD 5000) (fun _ => False) W1 0 W')) := Lib.hid fun W p h => by
        have h1 := r_open_whole h 7 (by decide) (by decide +kernel)
        refine h1.mono ?_
        rintro x W' ⟨q, e0, h2, _⟩
        exact ⟨q, e0, Lib.hid ⟨by omega, maxL_le HMX.out, fun _ => ⟨rfl, rfl⟩, SD.new L, h2.keepK, HL1.out⟩⟩
      have HSL := Lib.hid (maxL_le HMX.out)
      generalize hml : maxL L = ml at *
      clear hml
      have d0 : decide ((20 : Int) < (L.length : Int)) = false := by rw [decide_eq_false_iff_not]; omega
      have d1 : decide ((60 : Int) < (ml : Int)) = false := by rw [decide_eq_false_iff_not]; omega
      have d2 : decide ((sy : Int) < 0) = false := by rw [decide_eq_false_iff_not]; omega
      have d3 : decide ((L.length : Int) < (sy : Int)) = false := by rw [decide_eq_false_iff_not]; omega
      have d4 : decide ((k0 : Int) < 0) = false := by rw [decide_eq_false_iff_not]; omega
      have d5 : decide ((k1 : Int) < 0) = false := by rw [decide_eq_false_iff_not]; omega
      have d6 : decide ((t0 : Int) < 0) = false := by rw [decide_eq_false_iff_not]; omega
      have d7 : decide ((t1 : Int) < 0) = false := by rw [decide_eq_false_iff_not]; omega
      go_upto_region 15 with (first
        | (go_at_call 8; with_reducible refine HN.out.mono ?_; rintro e w2 ⟨p, rfl, HR2⟩)
        | (go_at_call 11; refine (lnum10_any _ _).mono ?_; rintro e wx ⟨rfl, rfl⟩)
        | (go_at_call 9; with_reducible refine (HO.out _ _ HR2.out).mono ?_; rintro e w3 ⟨q, rfl, HTS⟩))
      clear HN HO HR2 HL HMX q0 q1 q2 q3
      go_loopw [13, 14, 15, 16, 17] (fun g f hv le tn W => ∃ (k m q : Nat) (Hd : List (List UInt8)) (ob : Option Addr) (cb : Nat) (D : Dk) (Ψ : Nat → Prop) (V0 : World) (t : Int), f = .int .i64 0 ∧ tn = .int .i64 k ∧ k ≤ 2 ∧ g = .pointer (some ⟨q, 0, none⟩) ∧ hv = .slice ob Hd.length cb ∧ le = .int .i64 m ∧ m ≤ Hd.length ∧ Hid (ob = none → cb = 0) ∧ Hd.length ≤ cb ∧ Hid (TS L W1 p k m q Hd ob D Ψ V0 t W)) (fun _ _ _ _ tn _ => 2 - (intOf tn).toNat)
      case atStart => exact ⟨0, 0, q, L, ol, cl, _, _, _, _, rfl, rfl, by omega, rfl, rfl, rfl, Nat.zero_le _, HCL, HCP.out, HTS⟩
      case round =>
        clear HTS
        obtain ⟨k, m, q, Hd, ob, cb, D, Ψ, V0, t, rfl, rfl, hk2, rfl, rfl, rfl, hm, HOB, hcb, HTS⟩ := hrel
        by_cases hk : k < 2
        · obtain ⟨wo, hwo⟩ : ∃ wo, wr = wo := ⟨_, rfl⟩
          subst hwo
          have hkd : decide ((k : Int) < 2) = true := by rw [decide_eq_true_iff]; omega
          have hlen40 : Hd.length ≤ 40 := by have := HTS.out.few; omega
          go_wp2_with fail
          go_loopw [18] (fun i W => ∃ (j lo : Nat) (D2 : Dk), i = .int .i64 j ∧ m ≤ j ∧ j ≤ Hd.length ∧ Hid (k = 0 → sy < j → sy ≤ lo) ∧ Hid (SD Hd lo j D2) ∧ Hid (LK Ψ V0 W1 W q p D2 7 ((catR (Hd.take j)).length : Nat) t)) (fun i _ => Hd.length - (intOf i).toNat)
          case atStart => exact ⟨m, 0, D, rfl, Nat.le_refl _, hm, Lib.hid (fun h0 h1 => by have := (HTS.out.first h0).2; omega), Lib.hid HTS.out.sd, Lib.hid HTS.out.lk⟩
          case round =>
            obtain ⟨j, lo, D2, rfl, hmj, hj, HLO, HSD, HLK⟩ := hrel
            by_cases hjl : j < Hd.length
            · obtain ⟨a, v, hoa, hcv, hbv⟩ := HTS.out.rows j hjl
              obtain ⟨vo, vc, hvf⟩ := hbv.form
              subst hvf hoa
              have HEL : Hid (∀ (W : World) (D' : Dk) (e : Int), LK Ψ V0 W1 W q p D' 7 e t → W.cell? (a.add j) = some (.slice vo Hd[j].length vc) ∧ (a.add j).block < W.heap.size ∧ BytesOf W (.slice vo Hd[j].length vc) Hd[j]) := Lib.hid fun W D' e h => by
                have hc : W.cell? (a.add j) = some (.slice vo Hd[j].length vc) := by
                  rcases hcv with ⟨h4, h5⟩ | ⟨h4, h5⟩
                  · exact (h.bel.cell (by rw [Addr.add_block]; exact h4)).trans h5
                  · exact (World.cell?_of_block (by rw [Addr.add_block]; exact (h.frame _ h4).2)).trans h5
                exact ⟨hc, World.block_lt_of_cell? _ _ hc, hbv.keep h.bel (Nat.le_refl _)⟩
              have hb60 : Hd[j].length ≤ 60 := HTS.out.short _ (List.getElem_mem hjl)
              have HAP : Hid (∀ (W : World) (D' : Dk) (lo' : Nat), SD Hd lo' j D' → LK Ψ V0 W1 W q p D' 7 ((catR (Hd.take j)).length : Nat) t → Calls Tryd.prog 10 #[.pointer (some ⟨q, 0, none⟩), .slice vo Hd[j].length vc] W fun x W' => x = .returned (.tuple #[.int .i64 ((catR (Hd.take j)).length : Nat), .int .i64 0]) ∧ Hid (SD Hd lo' (j + 1) (D'.app 7 (recL Hd[j]))) ∧ Hid (LK Ψ V0 W1 W' q p (D'.app 7 (recL Hd[j])) 7 ((catR (Hd.take (j + 1))).length : Nat) t)) := Lib.hid fun W D' lo' hs h => by
                obtain ⟨hok, hs2⟩ := hs.app h.inv hjl hlen40 HTS.out.short
                have hcl := catR_len (Hd.take j) (fun b hb => HTS.out.short b (List.mem_of_mem_take hb))
                rw [List.length_take] at hcl
                refine (k_append h HET1.out (by have := hs.few; omega) (by omega) _ _ (HEL.out W D' _ h).2.2 (by omega) hok).mono ?_
                rintro x W' ⟨e0, h2⟩
                have e1 : (catR (Hd.take j)).length + 8 + Hd[j].length = (catR (Hd.take (j + 1))).length := by rw [catR_take hjl, List.length_append, recL_length]; omega
                rw [e1] at h2
                exact ⟨e0, Lib.hid hs2, Lib.hid h2⟩
              generalize Hd[j].length = nl at *
              by_cases hs : j = sy
              · subst hs
                have HSY : Hid (Calls Tryd.prog 13 #[.pointer (some ⟨p, 0, none⟩)] wr fun x W' => x = .returned (.int .i64 0) ∧ Hid (LK Ψ V0 W1 W' q p D2.synced 7 ((catR (Hd.take j)).length : Nat) t)) := Lib.hid (by
                  refine (k_sync HLK.out).mono ?_
                  rintro x W' ⟨e0, h⟩
                  exact ⟨e0, Lib.hid h⟩)
                have HSD2 := Lib.hid HSD.out.sync
                clear HSD HLK hcv hbv
                go_wp2_with (first
                  | (go_at_call 13; with_reducible refine HSY.out.mono ?_; rintro e W4 ⟨rfl, HL4⟩; obtain ⟨hc4, hb4, _⟩ := HEL.out _ _ _ HL4.out; have HA4 := Lib.hid (HAP.out _ _ _ HSD2.out HL4.out))
                  | (go_at_call 11; refine (lnum10_any _ _).mono ?_; rintro e wx ⟨rfl, rfl⟩)
                  | (go_at_call 10; with_reducible refine HA4.out.mono ?_; rintro e W5 ⟨rfl, HS5, HL5⟩))
                go_roundw
                case rel => exact ⟨j + 1, j, _, by go_num, by omega, by omega, Lib.hid (fun _ _ => Nat.le_refl _), HS5, HL5⟩
                case measure => simp [intOf]; omega
              · have hsd : ¬ ((j : Int) = (sy : Int)) := by omega
                obtain ⟨hc4, hb4, _⟩ := HEL.out _ _ _ HLK.out
                have HA4 := Lib.hid (HAP.out _ _ _ HSD.out HLK.out)
                clear HSD HLK hcv hbv
                go_wp2_with (first
                  | (go_at_call 11; refine (lnum10_any _ _).mono ?_; rintro e wx ⟨rfl, rfl⟩)
                  | (go_at_call 10; with_reducible refine HA4.out.mono ?_; rintro e W5 ⟨rfl, HS5, HL5⟩))
                go_roundw
                case rel => exact ⟨j + 1, lo, _, by go_num, by omega, by omega, Lib.hid (fun h0 h1 => HLO.out h0 (by omega)), HS5, HL5⟩
                case measure => simp [intOf]; omega
            · obtain rfl : j = Hd.length := by omega
              obtain ⟨kk, tt, hkk, htt, hck, hct⟩ : ∃ kk tt : Nat, kk ≤ 9223372036854775807 ∧ tt ≤ 9223372036854775807 ∧ W1.cell? ⟨w.heap.size, k, none⟩ = some (.int .i64 kk) ∧ W1.cell? ⟨w.heap.size + 1, k, none⟩ = some (.int .i64 tt) := by
                rcases (by omega : k = 0 ∨ k = 1) with rfl | rfl
                · exact ⟨k0, t0, b0, b2, HK.out.1, HK.out.2.2.1⟩
                · exact ⟨k1, t1, b1, b3, HK.out.2.1, HK.out.2.2.2⟩
              have HCE : Hid (∀ W : World, Below W1.heap.size W1 W → W.cell? ⟨w.heap.size, k, none⟩ = some (.int .i64 kk) ∧ W.cell? ⟨w.heap.size + 1, k, none⟩ = some (.int .i64 tt)) := Lib.hid fun W hb => by
                have := HZ1.out
                exact ⟨(hb.cell (by show w.heap.size < W1.heap.size; omega)).trans hck, (hb.cell (by show w.heap.size + 1 < W1.heap.size; omega)).trans hct⟩
              obtain ⟨⟨m2, tl, hlo2, hm2, hF, htl⟩, _⟩ := HSD.out.crash kk tt
              have hsh : ∀ b ∈ Hd.take m2, b.length ≤ 60000 := fun b hb => by have := HTS.out.short b (List.mem_of_mem_take hb); omega
              have HCR : Hid (Calls Tryd.prog 14 #[.pointer (some ⟨p, 0, none⟩), .int .i64 kk, .int .i64 tt] wr.drew fun x W' => x = .returned (.int .i64 0) ∧ Hid (LK Ψ V0 W1 W' q p (D2.crashed (min kk D2.L.length) tt) 7 ((catR (Hd.take Hd.length)).length : Nat) t)) := Lib.hid (by
                refine (k_crash (HLK.out.below ((Below.refl _ wr).drew)) kk tt hkk htt).mono ?_
                rintro x W' ⟨e0, h⟩
                exact ⟨e0, Lib.hid h⟩)
              have HOP : Hid (∀ W, LK Ψ V0 W1 W q p (D2.crashed (min kk D2.L.length) tt) 7 ((catR (Hd.take Hd.length)).length : Nat) t → Calls Tryd.prog 9 #[.pointer (some ⟨p, 0, none⟩), .int .i64 7] W fun x W' => ∃ (q' : Nat) (D3 : Dk) (t' : Int), x = .returned (.tuple #[.pointer (some ⟨q', 0, none⟩), .int .i64 0]) ∧ Hid (LK Ψ V0 W1 W' q' p D3 7 ((catR (Hd.take m2)).length : Nat) t') ∧ Hid (∀ Hd2 : List (List UInt8), Hd2.take m2 = Hd.take m2 → SD Hd2 0 m2 D3)) := Lib.hid fun W h => by
                by_cases htn : tl = []
                · subst htn
                  rw [List.append_nil] at hF
                  refine (k_open_whole h 7 (by decide) (by
                    have h1 := wholeN_cat (Hd.take m2) [] hsh torn_nil
                    rw [List.append_nil] at h1
                    show wholeN ((D2.crashed (min kk D2.L.length) tt).F 7) = ((D2.crashed (min kk D2.L.length) tt).F 7).length
                    rw [hF, h1])).mono ?_
                  rintro x W' ⟨q', e0, h2, _⟩
                  rw [hF] at h2
                  exact ⟨q', _, _, e0, Lib.hid h2, Lib.hid fun Hd2 h3 => HSD.out.opened kk tt hF h3⟩
                · have h1 := wholeN_cat (Hd.take m2) tl hsh htl
                  rw [← hF] at h1
                  refine (k_open_torn h HET1.out (by show ([] : List Th).length < 900; simp) 7 (by decide) (by
                    show wholeN ((D2.crashed (min kk D2.L.length) tt).F 7) < ((D2.crashed (min kk D2.L.length) tt).F 7).length
                    rw [h1, hF, List.length_append]
                    have := List.length_pos_iff.2 htn
                    omega)).mono ?_
                  rintro x W' ⟨q', e0, h2⟩
                  rw [h1] at h2
                  exact ⟨q', _, _, e0, Lib.hid h2, Lib.hid fun Hd2 h3 => HSD.out.cut HLK.out.inv kk tt hF htl h3⟩
              have HTO : Hid (∀ (W : World) (q' : Nat) (D3 : Dk) (t' : Int), LK Ψ V0 W1 W q' p D3 7 ((catR (Hd.take m2)).length : Nat) t' → SD Hd 0 m2 D3 → Calls Tryd.prog 15 #[.pointer (some ⟨q', 0, none⟩), .slice ob Hd.length cb] W fun x W' => x = .returned (.tuple #[.int .i64 m2, .bool true]) ∧ Hid (Below W.heap.size W W')) := Lib.hid fun W q' D3 t' h hs => by
                have hrow := HTS.out.rows.rows h.bel h.frame
                obtain ⟨Φ, h1, h2, h3, h4, _⟩ := id h
                have hrl : RL (D3.F 7) 0 = recsAt 0 (Hd.take m2) := by rw [hs.f7]; exact RL_cat _ hsh
                have hlen2 : (RL (D3.F 7) 0).length = m2 := by rw [hrl, recs_len, List.length_take]; omega
                refine (told_any h1 h3 h4 (by decide : 7 < 64) Hd ob cb hrow (by omega)).mono ?_
                rintro x W' ⟨e0, hb⟩
                rw [toldV_yes (by rw [hrl, bsR_recs]; exact List.take_prefix _ _), hlen2] at e0
                exact ⟨e0, Lib.hid hb⟩
              have HM0 : Hid (k = 0 → sy < L.length → sy ≤ m2) := Lib.hid fun h0 h1 => by
                have hl := (HTS.out.first h0).1
                exact Nat.le_trans (HLO.out h0 (by rw [hl]; exact h1)) hlo2
              have hS : wr.cell? ⟨w.heap.size, k, none⟩ = some (.int .i64 kk) ∧ wr.cell? ⟨w.heap.size + 1, k, none⟩ = some (.int .i64 tt) := HCE.out wr HLK.out.bel
              clear HSD HLK hF htl hsh hck hct hkk htt HLO hmj hj hjl
              generalize D2.crashed (min kk D2.L.length) tt = E at *
              go_upto_region 25 with fail
              have i0 : (0 : Int) ≤ (k : Int) := by omega
              have i1 : (k : Int) < 2 := by omega
              have i2 : (k : Int) ≤ 1 := by omega
              have i3 : k ≤ 1 := by omega
              go_region_held3 (fun X => X.cell? ⟨w.heap.size, k, none⟩ = some (.int .i64 kk) ∧ X.cell? ⟨w.heap.size + 1, k, none⟩ = some (.int .i64 tt)) (first | exact hS | assumption)
                (first | (go_at_call 11; refine (lnum10_any _ _).mono ?_; rintro e wx ⟨rfl, rfl⟩) | (go_at_call 14; with_reducible refine HCR.out.mono ?_; rintro x W5 ⟨rfl, HL5⟩; have hS5 := HCE.out W5 HL5.out.bel))
              go_upto_region 29 with (first
                | (go_at_call 9; with_reducible refine (HOP.out _ HL5.out).mono ?_; rintro x W6 ⟨q6, D3, t6, rfl, HL6, HS6⟩; have HTO6 := Lib.hid (HTO.out _ _ _ _ HL6.out (HS6.out Hd rfl)))
                | (go_at_call 15; with_reducible refine HTO6.out.mono ?_; rintro x W7 ⟨rfl, HB7⟩))
              have hlk7 := HL6.out.below HB7.out
              obtain ⟨v1, W8, v2, W9, ob2, cb2, r1, r2, e2, hn2, hcap2, hb9, hrow9, hfr9⟩ := had_next HTS.out.rows hlk7.bel hlk7.frame HL1.out m2 hm2 cb cl HOB.out HCL.out (by omega) (by omega)
              subst e2
              have R1 := Lib.hid r1
              have R2 := Lib.hid r2
              clear r1 r2
              have htk : (Hd.take m2 ++ L).take m2 = Hd.take m2 := by
                have hl : (Hd.take m2).length = m2 := by rw [List.length_take]; omega
                rw [List.take_append_of_le_length (by omega), List.take_of_length_le (by omega)]
              have HFIN : Hid (∃ Ψ2, Hid (TS L W1 p (k + 1) m2 q6 (Hd.take m2 ++ L) ob2 D3 Ψ2 W9 t6 W9)) := Lib.hid ⟨_, Lib.hid ⟨by
                have := HTS.out.few
                rw [List.length_append, List.length_take]
                have : min m2 Hd.length ≤ Hd.length := Nat.min_le_right _ _
                omega, fun b hb => by
                  rcases List.mem_append.1 hb with hb | hb
                  · exact HTS.out.short b (List.mem_of_mem_take hb)
                  · exact HSL.out b hb, fun h => absurd h (Nat.succ_ne_zero k), HS6.out _ htk, by rw [htk]; exact hlk7.other hb9 hfr9, hrow9⟩⟩
              have HML : Hid (m2 ≤ (Hd.take m2 ++ L).length) := Lib.hid (by rw [List.length_append, List.length_take]; omega)
              have HN2 := Lib.hid hn2
              have HLN : Hid ((Hd.take m2 ++ L).length = m2 + L.length) := Lib.hid (by rw [List.length_append, List.length_take]; omega)
              have HZ0 : Hid (ob = none → Hd.length = 0) := Lib.hid fun hn => by
                rcases Nat.eq_zero_or_pos Hd.length with h | h
                · exact h
                · obtain ⟨a, _, ha, _⟩ := HTS.out.rows 0 h
                  rw [hn] at ha
                  cases ha
              clear hlk7 htk hb9 hrow9 hfr9 hn2
              have im2 : (m2 : Int) ≤ (cb : Int) := by omega
              by_cases hkz : k = 0
              · subst hkz
                by_cases hsl : sy < L.length
                · have hms : ¬ m2 < sy := by have := HM0.out rfl hsl; omega
                  go_upto_region 31 with (go_at_call 11; refine (lnum10_any _ _).mono ?_; rintro e wx ⟨rfl, rfl⟩)
                  cases ob with
                  | none =>
                    have h0 : Hd.length = 0 := HZ0.out rfl
                    obtain rfl : Hd = [] := List.length_eq_zero_iff.1 h0
                    obtain rfl : cb = 0 := HOB.out rfl
                    obtain rfl : m2 = 0 := by omega
                    clear h0
                    go_wp2_with (first | (at_builtin; refine wpList_append_run rfl _ _ _ rfl _ _ _ _ rfl rfl R1.out ?_; clear R1) | (at_builtin; refine wpList_append_run rfl _ _ _ rfl _ _ _ _ rfl rfl R2.out ?_))
                    go_roundw
                    case rel => exact HFIN.out.elim (fun Ψ2 h => ⟨0 + 1, 0, q6, _, ob2, cb2, D3, Ψ2, W9, t6, rfl, by go_num, by omega, rfl, rfl, rfl, by simp, HN2, hcap2, h⟩)
                    case measure => simp [intOf] <;> omega
                  | some a =>
                    go_wp2_with (first | (at_builtin; refine wpList_append_run rfl _ _ _ rfl _ _ _ _ rfl rfl R1.out ?_; clear R1) | (at_builtin; refine wpList_append_run rfl _ _ _ rfl _ _ _ _ rfl rfl R2.out ?_))
                    go_roundw
                    case rel => exact HFIN.out.elim (fun Ψ2 h => ⟨0 + 1, m2, q6, _, ob2, cb2, D3, Ψ2, W9, t6, rfl, by go_num, by omega, rfl, by rw [HLN.out], rfl, HML.out, HN2, hcap2, h⟩)
                    case measure => simp [intOf] <;> omega
                · skip
                  go_upto_region 31 with (go_at_call 11; refine (lnum10_any _ _).mono ?_; rintro e wx ⟨rfl, rfl⟩)
                  cases ob with
                  | none =>
                    have h0 : Hd.length = 0 := HZ0.out rfl
                    obtain rfl : Hd = [] := List.length_eq_zero_iff.1 h0
                    obtain rfl : cb = 0 := HOB.out rfl
                    obtain rfl : m2 = 0 := by omega
                    clear h0
                    go_wp2_with (first | (at_builtin; refine wpList_append_run rfl _ _ _ rfl _ _ _ _ rfl rfl R1.out ?_; clear R1) | (at_builtin; refine wpList_append_run rfl _ _ _ rfl _ _ _ _ rfl rfl R2.out ?_))
                    go_roundw
                    case rel => exact HFIN.out.elim (fun Ψ2 h => ⟨0 + 1, 0, q6, _, ob2, cb2, D3, Ψ2, W9, t6, rfl, by go_num, by omega, rfl, rfl, rfl, by simp, HN2, hcap2, h⟩)
                    case measure => simp [intOf] <;> omega
                  | some a =>
                    go_wp2_with (first | (at_builtin; refine wpList_append_run rfl _ _ _ rfl _ _ _ _ rfl rfl R1.out ?_; clear R1) | (at_builtin; refine wpList_append_run rfl _ _ _ rfl _ _ _ _ rfl rfl R2.out ?_))
                    go_roundw
                    case rel => exact HFIN.out.elim (fun Ψ2 h => ⟨0 + 1, m2, q6, _, ob2, cb2, D3, Ψ2, W9, t6, rfl, by go_num, by omega, rfl, by rw [HLN.out], rfl, HML.out, HN2, hcap2, h⟩)
                    case measure => simp [intOf] <;> omega
              · have hkzi : ¬ ((k : Int) = 0) := by omega
                go_upto_region 31 with (go_at_call 11; refine (lnum10_any _ _).mono ?_; rintro e wx ⟨rfl, rfl⟩)
                cases ob with
                | none =>
                  have h0 : Hd.length = 0 := HZ0.out rfl
                  obtain rfl : Hd = [] := List.length_eq_zero_iff.1 h0
                  obtain rfl : cb = 0 := HOB.out rfl
                  obtain rfl : m2 = 0 := by omega
                  clear h0
                  go_wp2_with (first | (at_builtin; refine wpList_append_run rfl _ _ _ rfl _ _ _ _ rfl rfl R1.out ?_; clear R1) | (at_builtin; refine wpList_append_run rfl _ _ _ rfl _ _ _ _ rfl rfl R2.out ?_))
                  go_roundw
                  case rel => exact HFIN.out.elim (fun Ψ2 h => ⟨k + 1, 0, q6, _, ob2, cb2, D3, Ψ2, W9, t6, rfl, by go_num, by omega, rfl, rfl, rfl, by simp, HN2, hcap2, h⟩)
                  case measure => simp [intOf] <;> omega
                | some a =>
                  go_wp2_with (first | (at_builtin; refine wpList_append_run rfl _ _ _ rfl _ _ _ _ rfl rfl R1.out ?_; clear R1) | (at_builtin; refine wpList_append_run rfl _ _ _ rfl _ _ _ _ rfl rfl R2.out ?_))
                  go_roundw
                  case rel => exact HFIN.out.elim (fun Ψ2 h => ⟨k + 1, m2, q6, _, ob2, cb2, D3, Ψ2, W9, t6, rfl, by go_num, by omega, rfl, by rw [HLN.out], rfl, HML.out, HN2, hcap2, h⟩)
                  case measure => simp [intOf] <;> omega
        · obtain rfl : k = 2 := by omega
          have HW9 := Lib.hid (HW.out wr (HB1.out.trans (HTS.out.lk.bel.mono HB1.out.size)))
          go_wp2_with (first | (go_at_call 5; with_reducible refine HW9.out.mono ?_; rintro e w9 ⟨rfl, hb9⟩))
          go_ret
          exact ⟨rfl, hb9⟩
end Go.Proofs.YtbhgcioeibhjeaaDoor
