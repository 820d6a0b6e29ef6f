/-
  swingbridgeref10: Append, Read.
-/
import Derived.Test.YtbhgcioeibhjeaaGreatDoorLROp
namespace Go.Proofs.YtbhgcioeibhjeaaGreatDoor
open Go.RowKit

theorem rRec_ok (l : List UInt8) (w : World) (hl : l.length ≤ 60000) :
    Calls Tryz.prog 65 #[.string ⟨l.toArray⟩] w fun e w' => e = .returned (.tuple #[.string ⟨(recL l).toArray⟩, .int .i64 0]) ∧ Below w.heap.size w w' := rRecord_ok ⟨l.toArray⟩ w hl
set_option maxRecDepth 1000000 in
set_option maxHeartbeats 4000000 in
theorem rLRead_any {w : World} {cl : Array Value} {D : Dk} {f : Nat} {t : Int} (h : RLg w cl D f t) (hi : D.Inv) (hf : f < 64) (p : Int) : Calls Tryz.prog 36 #[.agg cl, .int .i64 p] w fun e w' => (match fromL (recsAt 0 (recsL (D.F f))) p with
    | x :: _ => e = .returned (.tuple #[.string ⟨x.2.toArray⟩, .int .i64 ((x.1 + 8 + x.2.length : Nat) : Int), .int .i64 0])
    | [] => e = .returned (.tuple #[.string ⟨#[]⟩, .int .i64 0, .int .i64 4])) ∧ Below w.heap.size w w' := by
  have hbx : LBox (w.alloc (.cells cl 38)) w.heap.size cl := heap_alloc_at w _
  have hb : Below w.heap.size w (w.alloc (.cells cl 38)) := (Below.refl _ w).alloc (Nat.le_refl _) _
  have hr := hbx.range
  have hu := Tryz.underlying38
  have hinf : (Tryz.prog.info? 38).map (·.size) = some cl.toList.length := by rw [Array.length_toList, h.size]; exact info68
  have HA := Lib.hid (rAll_any (h.keep hb) hi hf)
  have HB := Lib.hid hb
  have hfewR : (recsAt 0 (recsL (D.F f))).length ≤ 100000000 := by
    have h1 := recsL_few (D.F f)
    have h2 := hi.len f hf
    rw [recs_len]
    omega
  have hfitR : ∀ x ∈ recsAt 0 (recsL (D.F f)), x.1 + 8 + x.2.length ≤ 100000000 := fun x hx => by
    have hrec : recsAt 0 (recsL (D.F f)) = walkW (D.F f).length (wholeO (D.F f)) 0 := ((walk_split (l := D.F f) ((D.F f).length + 1 - 0) 0).2.1).symm
    rw [hrec] at hx
    have h1 := walkW_mem (step_whole (D.F f)) _ _ x hx
    have h2 := hi.len f hf
    omega
  clear h hb hbx hi
  generalize recsAt 0 (recsL (D.F f)) = R at *
  obtain ⟨n, hn⟩ : ∃ n, R.length = n := ⟨_, rfl⟩
  have HFIT := Lib.hid hfitR
  clear hfitR
  obtain ⟨FR, hFR⟩ : ∃ FR, fromL R p = FR := ⟨_, rfl⟩
  rw [hFR]
  go_enter Tryz.func36, Tryz.ntmps36
  go_upto_region 2 with (first | (refine wpList_load_mid rfl 38 _ rfl _ _ rfl _ _ hr hu rfl hinf ?_; simp only [Act.put, List.setIfInBounds_toArray, List.set_cons_zero, List.set_cons_succ]) | (go_at_call 66; refine HA.out.mono ?_; rintro e w1 ⟨v, rfl, hrow, hb1⟩))
  have HB1 := Lib.hid (HB.out.trans (hb1.mono HB.out.size))
  have HR1 := Lib.hid hrow
  clear hr hb1 hinf hu
  obtain ⟨oa, cap, hvf⟩ : ∃ oa cap, v = .slice oa n cap := by
    rw [← hn]
    rcases hrow.2 with ⟨e0, e1⟩ | ⟨g, cap, _, e0, _⟩
    · exact ⟨none, 0, by rw [e0, e1]⟩
    · exact ⟨_, _, e0⟩
  subst hvf
  clear hrow
  go_wp2_with fail
  go_loopw [8] (fun i wr => ∃ k : Nat, k ≤ n ∧ i = .int .i64 k ∧ Hid (∀ j (hj : j < R.length), j < k → ¬ ((R[j].1 : Int) = p)) ∧ wr = w1) (fun i _ => n - (intOf i).toNat)
  case atStart => exact ⟨0, by omega, rfl, Lib.hid fun j hj h0 => absurd h0 (Nat.not_lt_zero j), rfl⟩
  case round =>
    obtain ⟨k, hk, rfl, HN, hwr⟩ := hrel
    by_cases hlt : k < n
    · have hkR : k < R.length := by omega
      obtain ⟨g, cap', hv', hcap, hcells⟩ := rows_at HR1.out k hkR
      rw [hn] at hv' hcap
      cases hv'
      obtain ⟨x, hx⟩ : ∃ x, R[k] = x := ⟨_, rfl⟩
      have hc1 := (hcells k hkR).1
      have hc2 := (hcells k hkR).2
      rw [hx] at hc1 hc2
      rw [← hwr] at hc1 hc2
      have hcapi : (n : Int) ≤ (cap : Int) := by omega
      have hfx := HFIT.out x (by rw [← hx]; exact List.getElem_mem hkR)
      clear hcells
      by_cases he : (x.1 : Int) = p
      · have hE := fromL_hit hkR (fun j hj => HN.out j (by omega) hj) (by rw [hx]; exact he)
        rw [← List.getElem_cons_drop hkR, hx, hFR] at hE
        subst hE
        subst hwr
        clear hx HN hFR
        obtain ⟨x1, x2⟩ := x
        simp only at he hc1 hc2 hfx
        subst he
        have hbl : ((⟨x2.toArray⟩ : ByteArray).size : Int) = x2.length := rfl
        have hw1 : IntKind.i64.wrap ((x1 : Int) + 8) = (x1 : Int) + 8 := by rw [IntKind.wrap_i64]; omega
        have hw2 : IntKind.i64.wrap ((x1 : Int) + 8 + (x2.length : Int)) = (x1 : Int) + 8 + (x2.length : Int) := by rw [IntKind.wrap_i64]; omega
        go_upto_region 6 with fail
        go_region_held3 (fun X => X.cell? ⟨g, k * 2 + 1, none⟩ = some (.string ⟨x2.toArray⟩)) (first | exact hc2 | assumption) (fail)
        go_wp2_with fail
        refine bodyPost_ret (v := .tuple #[.string ⟨x2.toArray⟩, .int .i64 ((x1 : Int) + 8 + (x2.length : Int)), .int .i64 0]) (by simp [results, Tryz.results36, go_sem]) rfl ⟨rfl, HB1.out.drew⟩
      · have HN2 : Hid (∀ j (hj : j < R.length), j < k + 1 → ¬ ((R[j].1 : Int) = p)) := Lib.hid fun j hj h1 => by
          by_cases hjk : j < k
          · exact HN.out j hj hjk
          · obtain rfl : j = k := by omega
            rw [hx]
            exact he
        subst hwr
        clear hx HN
        obtain ⟨x1, x2⟩ := x
        simp only at he hc1
        go_wp2_with fail
        go_roundw
        case rel => exact ⟨k + 1, by omega, by go_num, HN2, trivial⟩
        case measure => simp [intOf]; omega
    · have hE : fromL R p = [] := fromL_none fun j hj => HN.out j hj (by omega)
      rw [hFR] at hE
      subst hE
      go_wp2_with fail
      refine bodyPost_ret (v := .tuple #[.string ⟨#[]⟩, .int .i64 0, .int .i64 4]) (by simp [results, Tryz.results36, go_sem]) rfl ⟨rfl, HB1.out⟩
end Go.Proofs.YtbhgcioeibhjeaaGreatDoor
