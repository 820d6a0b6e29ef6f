/-
  swingbridgeref03.Same.
-/
import Derived.Test.YtjlhbpacecbfmaaGreatDoorSSame
namespace Go.Proofs.YtjlhbpacecbfmaaGreatDoor
open Go.RowKit

set_option maxRecDepth 100000 in
set_option maxHeartbeats 4000000 in
theorem rSame3_any (p q : SchV) (S T : Sch) (w : World) (c0 : S.cols.length ≤ 1000) (_c1 : T.cols.length ≤ 1000) (k0 : S.key.length ≤ 1000) (k1 : T.key.length ≤ 1000) (u0 : S.uqs.length ≤ 1000) (_u1 : T.uqs.length ≤ 1000) (l0 : ∀ l ∈ S.uqs, l.length ≤ 1000) (l1 : ∀ l ∈ T.uqs, l.length ≤ 1000) (hS : SchIn w p S) (hT : SchIn w q T) :
    Calls Tryz.prog 28 #[.agg #[.slice p.oc S.cols.length p.cc, .slice p.ok S.key.length p.ck, .slice p.ou S.uqs.length p.cu], .agg #[.slice q.oc T.cols.length q.cc, .slice q.ok T.key.length q.ck, .slice q.ou T.uqs.length q.cu]] w fun e w' => e = .returned (.bool (sameB S T)) ∧ Below w.heap.size w w' := by
  have HK := Lib.hid (fun W (hb : Below w.heap.size w W) => rInts_any p.ok q.ok p.ck q.ck S.key T.key W k0 k1 (hS.key.keep hb (Nat.le_refl _)) (hT.key.keep hb (Nat.le_refl _)))
  have HC := Lib.hid hS.cols
  have HD := Lib.hid hT.cols
  have HU := Lib.hid hS.uqs
  have HV := Lib.hid hT.uqs
  have HL0 := Lib.hid l0
  have HL1 := Lib.hid l1
  clear k0 k1 l0 l1 hS hT
  obtain ⟨oc, cc, ok, ck, ou, cu⟩ := p
  obtain ⟨qc, dc, qk, dk, qu, du⟩ := q
  simp only at HK HC HD HU HV ⊢
  by_cases hlc : S.cols.length = T.cols.length
  · by_cases hlu : S.uqs.length = T.uqs.length
    · have hne1 : ((S.cols.length : Int) != (T.cols.length : Int)) = false := by rw [hlc]; simp
      have hne2 : ((S.uqs.length : Int) != (T.uqs.length : Int)) = false := by rw [hlu]; simp
      have HLC := Lib.hid hlc
      have HLU := Lib.hid hlu
      clear hlc hlu
      cases hkk : intsB S.key T.key
      · have HN := Lib.hid (show sameB S T = false by unfold sameB; rw [hkk, Bool.false_and, Bool.and_false])
        rw [hkk] at HK
        clear hkk
        go_enter Tryz.func28, Tryz.ntmps28
        go_wp2_with (first | (go_at_call 18; refine (HK.out _ (((Below.refl _ _).alloc (Nat.le_refl _) _).alloc (by simp) _)).mono ?_; rintro e w1 ⟨rfl, hb1⟩))
        go_ret
        exact ⟨by rw [HN.out]; rfl, (((Below.refl _ _).alloc (Nat.le_refl _) _).alloc (by simp) _).trans (hb1.mono (by simp; omega))⟩
      · have HKK := Lib.hid hkk
        rw [hkk] at HK
        clear hkk
        go_enter Tryz.func28, Tryz.ntmps28
        go_wp2_with fail
        refine (HK.out _ (((Below.refl _ _).alloc (Nat.le_refl _) _).alloc (by simp) _)).mono ?_
        rintro e w1 ⟨rfl, hb1⟩
        have HB1 := Lib.hid ((((Below.refl w.heap.size w).alloc (Nat.le_refl _) (.cells #[.slice oc S.cols.length cc, .slice ok S.key.length ck, .slice ou S.uqs.length cu] 26)).alloc (by simp) (.cells #[.slice qc T.cols.length dc, .slice qk T.key.length dk, .slice qu T.uqs.length du] 26)).trans (hb1.mono (by simp; omega)))
        have a0 : w1.cell? ⟨w.heap.size, 0, none⟩ = some (.slice oc S.cols.length cc) := cell_oldS (by simp [go_sem]) hb1
        have a2 : w1.cell? ⟨w.heap.size, 2, none⟩ = some (.slice ou S.uqs.length cu) := cell_oldS (by simp [go_sem]) hb1
        have b0 : w1.cell? ⟨w.heap.size + 1, 0, none⟩ = some (.slice qc T.cols.length dc) := cell_oldS (by simp [go_sem]) hb1
        have b2 : w1.cell? ⟨w.heap.size + 1, 2, none⟩ = some (.slice qu T.uqs.length du) := cell_oldS (by simp [go_sem]) hb1
        have HA0 := Lib.hid a0
        have HA2 := Lib.hid a2
        have HB0 := Lib.hid b0
        have HB2 := Lib.hid b2
        clear hb1 a0 a2 b0 b2
        go_wp2_with fail
        go_loopw [5] (fun i wr => ∃ k : Nat, k ≤ S.cols.length ∧ i = .int .i64 k ∧ Hid (ERel colB S.cols T.cols k) ∧ Hid (Below w1.heap.size w1 wr)) (fun i _ => S.cols.length - (intOf i).toNat)
        case atStart => exact ⟨0, Nat.zero_le _, rfl, Lib.hid (ERel.zero _ _ _), Lib.hid (Below.refl _ _)⟩
        case round =>
          obtain ⟨k, hk, rfl, HR, HB⟩ := hrel
          have m0 : wr.cell? ⟨w.heap.size, 0, none⟩ = some (.slice oc S.cols.length cc) := cell_oldS HA0.out HB.out
          have n0 : wr.cell? ⟨w.heap.size + 1, 0, none⟩ = some (.slice qc T.cols.length dc) := cell_oldS HB0.out HB.out
          have HBW := Lib.hid (HB1.out.trans (HB.out.mono HB1.out.size))
          have hz1 : w.heap.size < wr.heap.size := World.block_lt_of_cell? wr _ m0
          have hz2 : w.heap.size + 1 < wr.heap.size := World.block_lt_of_cell? wr _ n0
          by_cases hlt : k < S.cols.length
          · have hlm : k < T.cols.length := by have := HLC.out; omega
            obtain ⟨a, rfl, ha⟩ := HC.out.keep HBW.out (Nat.le_refl _) k hlt
            obtain ⟨b, rfl, hb⟩ := HD.out.keep HBW.out (Nat.le_refl _) k hlm
            obtain ⟨x, hx⟩ : ∃ x, S.cols[k] = x := ⟨_, rfl⟩
            obtain ⟨y, hy⟩ : ∃ y, T.cols[k] = y := ⟨_, rfl⟩
            rw [hx] at ha
            rw [hy] at hb
            have hal := ha.lt
            have hbl := hb.lt
            obtain ⟨a0, a1, a2, a3⟩ := ha
            obtain ⟨b0, b1, b2, b3⟩ := hb
            have hr := run_neq_col x.n x.t x.z x.u y.n y.t y.z y.u
            cases hxy : colB x y
            · have HN := Lib.hid (show sameB S T = false by unfold sameB; rw [HR.out.hit hlt hlm hx hy hxy, Bool.false_and])
              have hr2 : ∀ W, (binOp .neq 43 (.agg #[.string x.n, .int .i64 x.t, .int .i64 x.z, .bool x.u]) (.agg #[.string y.n, .int .i64 y.t, .int .i64 y.z, .bool y.u])).run Tryz.prog W = .ok (.bool true) W := fun W => by rw [hr W, show colB ⟨x.n, x.t, x.z, x.u⟩ ⟨y.n, y.t, y.z, y.u⟩ = false from hxy]; rfl
              clear hxy hx hy hr
              go_wp2_with fail
              go_quiet (fail)
              go_wp2_with fail
              go_ret
              exact ⟨by rw [HN.out]; rfl, below_drewN HBW.out _⟩
            · have HN := Lib.hid (HR.out.next hlt hlm hx hy hxy)
              have hr2 : ∀ W, (binOp .neq 43 (.agg #[.string x.n, .int .i64 x.t, .int .i64 x.z, .bool x.u]) (.agg #[.string y.n, .int .i64 y.t, .int .i64 y.z, .bool y.u])).run Tryz.prog W = .ok (.bool false) W := fun W => by rw [hr W, show colB ⟨x.n, x.t, x.z, x.u⟩ ⟨y.n, y.t, y.z, y.u⟩ = true from hxy]; rfl
              clear hxy hx hy hr
              go_wp2_with fail
              go_quiet (fail)
              go_wp2_with fail
              go_roundw
              case rel => exact ⟨k + 1, by omega, by go_num, HN, Lib.hid (below_drewN HB.out _)⟩
              case measure => simp [intOf]; omega
          · have HCC := Lib.hid (HR.out.done (by omega) (by have := HLC.out; omega))
            clear HA0 HB0 HR HC HD
            go_wp2_with fail
            clear m0 n0
            go_loopw [6] (fun i wq => ∃ k : Nat, k ≤ S.uqs.length ∧ i = .int .i64 k ∧ Hid (ERel intsB S.uqs T.uqs k) ∧ Hid (Below w1.heap.size w1 wq)) (fun i _ => S.uqs.length - (intOf i).toNat)
            case atStart => exact ⟨0, Nat.zero_le _, rfl, Lib.hid (ERel.zero _ _ _), HB⟩
            case round =>
              obtain ⟨j, hj, rfl, HR, HQ⟩ := hrel
              have m2 : wr.cell? ⟨w.heap.size, 2, none⟩ = some (.slice ou S.uqs.length cu) := cell_oldS HA2.out HQ.out
              have n2 : wr.cell? ⟨w.heap.size + 1, 2, none⟩ = some (.slice qu T.uqs.length du) := cell_oldS HB2.out HQ.out
              have HBQ := Lib.hid (HB1.out.trans (HQ.out.mono HB1.out.size))
              have hy1 : w.heap.size < wr.heap.size := World.block_lt_of_cell? wr _ m2
              have hy2 : w.heap.size + 1 < wr.heap.size := World.block_lt_of_cell? wr _ n2
              by_cases hlt : j < S.uqs.length
              · have hlm : j < T.uqs.length := by have := HLU.out; omega
                obtain ⟨a, oa1, ca1, rfl, ha, _, hia⟩ := HU.out.keep HBQ.out (Nat.le_refl _) j hlt
                obtain ⟨b, ob1, cb1, rfl, hb, _, hib⟩ := HV.out.keep HBQ.out (Nat.le_refl _) j hlm
                obtain ⟨x, hx⟩ : ∃ x, S.uqs[j] = x := ⟨_, rfl⟩
                obtain ⟨y, hy⟩ : ∃ y, T.uqs[j] = y := ⟨_, rfl⟩
                have hxl := HL0.out x (hx ▸ List.getElem_mem hlt)
                have hyl := HL1.out y (hy ▸ List.getElem_mem hlm)
                rw [hx] at ha hia
                rw [hy] at hb hib
                have HI := Lib.hid (fun W (h : Below wr.heap.size wr W) => rInts_any oa1 ob1 ca1 cb1 x y W hxl hyl (hia.keep h (Nat.le_refl _)) (hib.keep h (Nat.le_refl _)))
                have q0 : ∀ p : Later wr, p.W.cell? ⟨w.heap.size, 2, none⟩ = some (.slice (some a) S.uqs.length cu) := later_cell m2
                have q1 : ∀ p : Later wr, p.W.cell? ⟨w.heap.size + 1, 2, none⟩ = some (.slice (some b) T.uqs.length du) := later_cell n2
                have q2 : ∀ p : Later wr, p.W.cell? (a.add j) = some (.slice oa1 x.length ca1) := later_cell ha
                have q3 : ∀ p : Later wr, p.W.cell? (b.add j) = some (.slice ob1 y.length cb1) := later_cell hb
                have g0 : (0 : Int) ≤ (j : Int) := by omega
                have g1 : (j : Int) < (S.uqs.length : Int) := by omega
                have g2 : (j : Int) < (T.uqs.length : Int) := by omega
                clear hia hib ha hb
                cases hxy : intsB x y
                · have HN := Lib.hid (show sameB S T = false by unfold sameB; rw [HCC.out, HKK.out, HR.out.hit hlt hlm hx hy hxy]; rfl)
                  rw [hxy] at HI
                  clear hxy hx hy
                  go_wp2_with fail
                  refine wp_region_later (by kernel_rfl) (by kernel_rfl) ?_
                  repeat (go_big_quiet_step ((go_at_call 18; exact Calls.later (HI.out _ (Later.h _)))))
                  refine wpQuiet_nil ?_
                  rintro w3 ⟨⟨W3, hb3⟩, rfl⟩
                  go_wp2_with fail
                  go_ret
                  exact ⟨by rw [HN.out]; rfl, HBQ.out.trans (hb3.mono HBQ.out.size)⟩
                · have HN := Lib.hid (HR.out.next hlt hlm hx hy hxy)
                  rw [hxy] at HI
                  clear hxy hx hy
                  go_wp2_with fail
                  refine wp_region_later (by kernel_rfl) (by kernel_rfl) ?_
                  repeat (go_big_quiet_step ((go_at_call 18; exact Calls.later (HI.out _ (Later.h _)))))
                  refine wpQuiet_nil ?_
                  rintro w3 ⟨⟨W3, hb3⟩, rfl⟩
                  have HB3 := Lib.hid (HQ.out.trans (hb3.mono HQ.out.size))
                  clear hb3
                  go_wp2_with fail
                  go_roundw
                  case rel => exact ⟨j + 1, by omega, by go_num, HN, HB3⟩
                  case measure => simp [intOf]; omega
              · have HN := Lib.hid (show sameB S T = true by unfold sameB; rw [HCC.out, HKK.out, HR.out.done (by omega) (by have := HLU.out; omega)]; rfl)
                go_wp2_with fail
                go_ret
                exact ⟨by rw [HN.out]; rfl, HBQ.out⟩
    · have hne1 : ((S.cols.length : Int) != (T.cols.length : Int)) = false := by rw [hlc]; simp
      have hne2 : ((S.uqs.length : Int) != (T.uqs.length : Int)) = true := by rw [bne_iff_ne]; omega
      have HN := Lib.hid (show sameB S T = false by unfold sameB; rw [allEq_len (l := S.uqs) hlu, Bool.and_false, Bool.and_false])
      clear hlc hlu
      go_enter Tryz.func28, Tryz.ntmps28
      go_wp2_with fail
      go_ret
      exact ⟨by rw [HN.out]; rfl, by go_grown⟩
  · have hne1 : ((S.cols.length : Int) != (T.cols.length : Int)) = true := by rw [bne_iff_ne]; omega
    have HN := Lib.hid (show sameB S T = false by unfold sameB; rw [allEq_len (l := S.cols) hlc]; rfl)
    clear hlc
    go_enter Tryz.func28, Tryz.ntmps28
    go_wp2_with fail
    go_ret
    exact ⟨by rw [HN.out]; rfl, by go_grown⟩
end Go.Proofs.YtjlhbpacecbfmaaGreatDoor
