/-
  swingbridgelaw06.ConvertRows: true.
-/
import Derived.Test.YtmgeefhacnadcaaGreatDoorVWorks
import Derived.Test.YtmgeefhacnadcaaGreatDoorVRow
namespace Go.Proofs.YtmgeefhacnadcaaGreatDoor
open Go.RowKit

def okTo (cs ds : List Col) (vs : List Vl) (k : Nat) : Prop := ∀ j, j < k → (∀ h : j < cs.length, cs[j].n.size ≤ 40) ∧ (∀ h : j < ds.length, ds[j].n.size ≤ 40) ∧ (∀ h : j < vs.length, vs[j].s.size ≤ 300)
theorem okTo_next {cs ds : List Col} {vs : List Vl} {k : Nat} (h : okTo cs ds vs k) (a : ∀ h : k < cs.length, cs[k].n.size ≤ 40) (b : ∀ h : k < ds.length, ds[k].n.size ≤ 40) (c : ∀ h : k < vs.length, vs[k].s.size ≤ 300) : okTo cs ds vs (k + 1) := fun j hj => by
  by_cases e : j = k
  · subst e; exact ⟨a, b, c⟩
  · exact h j (by omega)
theorem r6Row_any (cs ds : List Col) (vs : List Vl) (oc od ov : Option Addr) (cc cd cv : Nat) (w : World) (hE : Env w) (hc : ColsIn w oc cs) (hd : ColsIn w od ds) (hv : ValsIn w ov vs) (n1 : cs.length ≤ 1000) (nc : ∀ c ∈ cs, c.n.size ≤ 9223372036854775807) (nd : ∀ c ∈ ds, c.n.size ≤ 9223372036854775807) (ok : ∀ v ∈ vs, v.ok) :
    Calls Tryz.prog 19 #[.slice oc cs.length cc, .slice od ds.length cd, .slice ov vs.length cv] w fun e w' => ∃ v, e = .returned (.tuple #[v, .int .i64 (cvrN cs ds vs)]) ∧ SliceOf w' v (cvrR cs ds vs) ∧ Below w.heap.size w w' := by
  by_cases h : ds.length = cs.length ∧ vs.length = cs.length
  · obtain ⟨e1, e2⟩ := cvrN_eq rfl h.1 h.2
    rw [e1, e2, h.1, h.2]
    exact rRow_eq cs ds vs cs.length oc od ov cc cd cv w hE hc hd hv rfl h.1 h.2 n1 nc nd ok
  · obtain ⟨e1, e2⟩ := cvrN_bad h
    rw [e1, e2]
    exact (rRow_bad cs ds vs oc od ov cc cd cv w h).mono fun e w' ⟨he, hb⟩ => ⟨_, he, .inl ⟨rfl, rfl⟩, by rw [← hb]; exact Below.refl _ _⟩
set_option maxRecDepth 100000 in
set_option maxHeartbeats 8000000 in
theorem lawR6_true (cs ds : List Col) (vs : List Vl) (oc od ov : Option Addr) (cc cd cv : Nat) (w : World) (hE : Env w) (hc : ColsIn w oc cs) (hd : ColsIn w od ds) (hv : ValsIn w ov vs) (n1 : cs.length ≤ 9223372036854775807) (n2 : ds.length ≤ 9223372036854775807) (n3 : vs.length ≤ 9223372036854775807) (nc : ∀ c ∈ cs, c.n.size ≤ 9223372036854775807) (nd : ∀ c ∈ ds, c.n.size ≤ 9223372036854775807) (nv : ∀ v ∈ vs, v.s.size ≤ 9223372036854775807) (ok : ∀ v ∈ vs, v.s.size ≤ 300 → v.ok) :
    Calls Tryz.prog 6 #[.slice oc cs.length cc, .slice od ds.length cd, .slice ov vs.length cv] w fun e w' => e = .returned (.bool true) ∧ Below w.heap.size w w' := by
  have HWK : Hid (∀ W, Below w.heap.size w W → Calls Tryz.prog 9 #[] W fun e w' => e = .returned (.bool true) ∧ Below W.heap.size W w') := Lib.hid (fun W hb => l6works_true W (hE.keep hb))
  by_cases hln : cs.length ≤ 10 ∧ ds.length ≤ 10 ∧ vs.length ≤ 10
  case neg =>
    have hdis : 10 < cs.length ∨ 10 < ds.length ∨ 10 < vs.length := by omega
    clear hln hE hc hd hv nc nd nv ok
    go_enter Tryz.func6, Tryz.ntmps6
    by_cases h1 : 10 < cs.length
    · go_wp2_with (first | (go_at_call 9; refine (HWK.out _ (Below.refl _ _)).mono ?_; rintro e w9 ⟨rfl, hB9⟩))
      go_ret
      exact ⟨rfl, hB9⟩
    · by_cases h2 : 10 < ds.length
      · go_wp2_with (first | (go_at_call 9; refine (HWK.out _ (Below.refl _ _)).mono ?_; rintro e w9 ⟨rfl, hB9⟩))
        go_ret
        exact ⟨rfl, hB9⟩
      · have h3 : 10 < vs.length := by omega
        go_wp2_with (first | (go_at_call 9; refine (HWK.out _ (Below.refl _ _)).mono ?_; rintro e w9 ⟨rfl, hB9⟩))
        go_ret
        exact ⟨rfl, hB9⟩
  obtain ⟨l1, l2, l3⟩ := hln
  have HRW : Hid ((∀ v ∈ vs, v.ok) → ∀ W, Below w.heap.size w W → Calls Tryz.prog 18 #[.slice oc cs.length cc, .slice od ds.length cd, .slice ov vs.length cv] W fun e w' => ∃ v, e = .returned (.tuple #[v, .int .i64 (cvrN cs ds vs)]) ∧ SliceOf w' v (cvrR cs ds vs) ∧ Below W.heap.size W w') := Lib.hid (fun ok W hb => vRow_any cs ds vs oc od ov cc cd cv W (hE.keep hb) (hc.keep hb (Nat.le_refl _)) (hd.keep hb (Nat.le_refl _)) (hv.keep hb (Nat.le_refl _)) (by omega) (by omega) (by omega) nc nd ok)
  have HRR : Hid ((∀ v ∈ vs, v.ok) → ∀ W, Below w.heap.size w W → Calls Tryz.prog 19 #[.slice oc cs.length cc, .slice od ds.length cd, .slice ov vs.length cv] W fun e w' => ∃ v, e = .returned (.tuple #[v, .int .i64 (cvrN cs ds vs)]) ∧ SliceOf w' v (cvrR cs ds vs) ∧ Below W.heap.size W w') := Lib.hid (fun ok W hb => r6Row_any cs ds vs oc od ov cc cd cv W (hE.keep hb) (hc.keep hb (Nat.le_refl _)) (hd.keep hb (Nat.le_refl _)) (hv.keep hb (Nat.le_refl _)) (by omega) nc nd ok)
  have hlen : (cvrR cs ds vs).length ≤ 9223372036854775807 := by
    unfold cvrR
    split
    · rw [cvrL_len]; omega
    · simp
  have HC := Lib.hid hc
  have HD := Lib.hid hd
  have HV := Lib.hid hv
  have HNC := Lib.hid nc
  have HND := Lib.hid nd
  have HNV := Lib.hid nv
  have HOKV := Lib.hid ok
  clear hE hc hd hv nc nd nv ok
  go_enter Tryz.func6, Tryz.ntmps6
  go_wp2_with fail
  go_loopw [7] (fun i wr => ∃ (k : Nat), k ≤ 10 ∧ i = .int .i64 k ∧ Hid (okTo cs ds vs k) ∧ Below w.heap.size w wr) (fun i _ => 10 - (intOf i).toNat)
  case atStart => exact ⟨0, by omega, rfl, Lib.hid (fun j h => absurd h (Nat.not_lt_zero j)), Below.refl _ _⟩
  case round =>
    obtain ⟨k, hk, rfl, HK, hB⟩ := hrel
    by_cases hk10 : k < 10
    · have hB0 := hB
      by_cases qc : k < cs.length
      · obtain ⟨c, hcc⟩ : ∃ c, cs[k] = c := ⟨_, rfl⟩
        obtain ⟨ac, rfl, hac⟩ := HC.out.keep hB0 (Nat.le_refl _) k qc
        rw [hcc] at hac
        have hal := hac.lt
        obtain ⟨c0, c1, c2, c3⟩ := hac
        by_cases sc : c.n.size ≤ 40
        · have S1 : decide ((c.n.size : Int) ≤ 40) = true := decide_eq_true (by omega)
          have hA : ∀ h : k < cs.length, cs[k].n.size ≤ 40 := fun _ => by rw [hcc]; exact sc
          clear hcc
          by_cases qd : k < ds.length
          · obtain ⟨d, hdd⟩ : ∃ c, ds[k] = c := ⟨_, rfl⟩
            obtain ⟨ad, rfl, had⟩ := HD.out.keep hB0 (Nat.le_refl _) k qd
            rw [hdd] at had
            have hdl := had.lt
            obtain ⟨d0, d1, d2, d3⟩ := had
            by_cases sd : d.n.size ≤ 40
            · have S2 : decide ((d.n.size : Int) ≤ 40) = true := decide_eq_true (by omega)
              have hD2 : ∀ h : k < ds.length, ds[k].n.size ≤ 40 := fun _ => by rw [hdd]; exact sd
              clear hdd
              by_cases qv : k < vs.length
              · obtain ⟨v, hvv⟩ : ∃ c, vs[k] = c := ⟨_, rfl⟩
                obtain ⟨av, rfl, hav⟩ := HV.out.keep hB0 (Nat.le_refl _) k qv
                rw [hvv] at hav
                have hvl := hav.lt
                have nvk := HNV.out v (by rw [← hvv]; exact List.getElem_mem qv)
                obtain ⟨v0, v1, v2, v3⟩ := hav
                by_cases sv : v.s.size ≤ 300
                · have S3 : decide ((300 : Int) < (v.s.size : Int)) = false := decide_eq_false (by omega)
                  have hV2 : ∀ h : k < vs.length, vs[k].s.size ≤ 300 := fun _ => by rw [hvv]; exact sv
                  clear hvv v0 v1 v2
                  have HK2 := Lib.hid (okTo_next HK.out hA hD2 hV2)
                  clear hA hD2 hV2
                  clear HC HD HV HNC HND HNV HOKV HRW HRR hB0 hlen l1 l2 l3 n1 n2 n3
                  go_wp2_with (first | (go_at_call 8; refine (l6short_any _ _).mono ?_; rintro e w2 ⟨rfl, hb⟩; replace c0 := keep_cell hb c0; replace c1 := keep_cell hb c1; replace c2 := keep_cell hb c2; replace c3 := keep_cell hb c3; replace d0 := keep_cell hb d0; replace d1 := keep_cell hb d1; replace d2 := keep_cell hb d2; replace d3 := keep_cell hb d3; replace v3 := keep_cell hb v3; replace hB := held_trans hB hb; clear hb) | (go_at_call 9; refine (HWK.out _ hB).mono ?_; rintro e w9 ⟨rfl, hB9⟩))
                  go_roundw
                  case rel => exact ⟨k + 1, by omega, by go_num, HK2, hB⟩
                  case measure => simp [intOf]; omega
                · have S3 : decide ((300 : Int) < (v.s.size : Int)) = true := decide_eq_true (by omega)
                  clear hvv v0 v1 v2 hA hD2
                  clear HC HD HV HNC HND HNV HOKV HRW HRR hB0 hlen l1 l2 l3 n1 n2 n3
                  go_wp2_with (first | (go_at_call 8; refine (l6short_any _ _).mono ?_; rintro e w2 ⟨rfl, hb⟩; replace c0 := keep_cell hb c0; replace c1 := keep_cell hb c1; replace c2 := keep_cell hb c2; replace c3 := keep_cell hb c3; replace d0 := keep_cell hb d0; replace d1 := keep_cell hb d1; replace d2 := keep_cell hb d2; replace d3 := keep_cell hb d3; replace v3 := keep_cell hb v3; replace hB := held_trans hB hb; clear hb) | (go_at_call 9; refine (HWK.out _ hB).mono ?_; rintro e w9 ⟨rfl, hB9⟩))
                  go_ret
                  exact ⟨rfl, held_trans hB hB9⟩
              · have hV2 : ∀ h : k < vs.length, vs[k].s.size ≤ 300 := fun h => absurd h qv
                have HK2 := Lib.hid (okTo_next HK.out hA hD2 hV2)
                clear hA hD2 hV2
                clear HC HD HV HNC HND HNV HOKV HRW HRR hB0 hlen l1 l2 l3 n1 n2 n3
                go_wp2_with (first | (go_at_call 8; refine (l6short_any _ _).mono ?_; rintro e w2 ⟨rfl, hb⟩; replace c0 := keep_cell hb c0; replace c1 := keep_cell hb c1; replace c2 := keep_cell hb c2; replace c3 := keep_cell hb c3; replace d0 := keep_cell hb d0; replace d1 := keep_cell hb d1; replace d2 := keep_cell hb d2; replace d3 := keep_cell hb d3; replace hB := held_trans hB hb; clear hb) | (go_at_call 9; refine (HWK.out _ hB).mono ?_; rintro e w9 ⟨rfl, hB9⟩))
                go_roundw
                case rel => exact ⟨k + 1, by omega, by go_num, HK2, hB⟩
                case measure => simp [intOf]; omega
            · have S2 : decide ((d.n.size : Int) ≤ 40) = false := decide_eq_false (by omega)
              clear hdd hA
              clear HC HD HV HNC HND HNV HOKV HRW HRR hB0 hlen l1 l2 l3 n1 n2 n3
              go_wp2_with (first | (go_at_call 8; refine (l6short_any _ _).mono ?_; rintro e w2 ⟨rfl, hb⟩; replace c0 := keep_cell hb c0; replace c1 := keep_cell hb c1; replace c2 := keep_cell hb c2; replace c3 := keep_cell hb c3; replace d0 := keep_cell hb d0; replace d1 := keep_cell hb d1; replace d2 := keep_cell hb d2; replace d3 := keep_cell hb d3; replace hB := held_trans hB hb; clear hb) | (go_at_call 9; refine (HWK.out _ hB).mono ?_; rintro e w9 ⟨rfl, hB9⟩))
              go_ret
              exact ⟨rfl, held_trans hB hB9⟩
          · have hD2 : ∀ h : k < ds.length, ds[k].n.size ≤ 40 := fun h => absurd h qd
            by_cases qv : k < vs.length
            · obtain ⟨v, hvv⟩ : ∃ c, vs[k] = c := ⟨_, rfl⟩
              obtain ⟨av, rfl, hav⟩ := HV.out.keep hB0 (Nat.le_refl _) k qv
              rw [hvv] at hav
              have hvl := hav.lt
              have nvk := HNV.out v (by rw [← hvv]; exact List.getElem_mem qv)
              obtain ⟨v0, v1, v2, v3⟩ := hav
              by_cases sv : v.s.size ≤ 300
              · have S3 : decide ((300 : Int) < (v.s.size : Int)) = false := decide_eq_false (by omega)
                have hV2 : ∀ h : k < vs.length, vs[k].s.size ≤ 300 := fun _ => by rw [hvv]; exact sv
                clear hvv v0 v1 v2
                have HK2 := Lib.hid (okTo_next HK.out hA hD2 hV2)
                clear hA hD2 hV2
                clear HC HD HV HNC HND HNV HOKV HRW HRR hB0 hlen l1 l2 l3 n1 n2 n3
                go_wp2_with (first | (go_at_call 8; refine (l6short_any _ _).mono ?_; rintro e w2 ⟨rfl, hb⟩; replace c0 := keep_cell hb c0; replace c1 := keep_cell hb c1; replace c2 := keep_cell hb c2; replace c3 := keep_cell hb c3; replace v3 := keep_cell hb v3; replace hB := held_trans hB hb; clear hb) | (go_at_call 9; refine (HWK.out _ hB).mono ?_; rintro e w9 ⟨rfl, hB9⟩))
                go_roundw
                case rel => exact ⟨k + 1, by omega, by go_num, HK2, hB⟩
                case measure => simp [intOf]; omega
              · have S3 : decide ((300 : Int) < (v.s.size : Int)) = true := decide_eq_true (by omega)
                clear hvv v0 v1 v2 hA hD2
                clear HC HD HV HNC HND HNV HOKV HRW HRR hB0 hlen l1 l2 l3 n1 n2 n3
                go_wp2_with (first | (go_at_call 8; refine (l6short_any _ _).mono ?_; rintro e w2 ⟨rfl, hb⟩; replace c0 := keep_cell hb c0; replace c1 := keep_cell hb c1; replace c2 := keep_cell hb c2; replace c3 := keep_cell hb c3; replace v3 := keep_cell hb v3; replace hB := held_trans hB hb; clear hb) | (go_at_call 9; refine (HWK.out _ hB).mono ?_; rintro e w9 ⟨rfl, hB9⟩))
                go_ret
                exact ⟨rfl, held_trans hB hB9⟩
            · have hV2 : ∀ h : k < vs.length, vs[k].s.size ≤ 300 := fun h => absurd h qv
              have HK2 := Lib.hid (okTo_next HK.out hA hD2 hV2)
              clear hA hD2 hV2
              clear HC HD HV HNC HND HNV HOKV HRW HRR hB0 hlen l1 l2 l3 n1 n2 n3
              go_wp2_with (first | (go_at_call 8; refine (l6short_any _ _).mono ?_; rintro e w2 ⟨rfl, hb⟩; replace c0 := keep_cell hb c0; replace c1 := keep_cell hb c1; replace c2 := keep_cell hb c2; replace c3 := keep_cell hb c3; replace hB := held_trans hB hb; clear hb) | (go_at_call 9; refine (HWK.out _ hB).mono ?_; rintro e w9 ⟨rfl, hB9⟩))
              go_roundw
              case rel => exact ⟨k + 1, by omega, by go_num, HK2, hB⟩
              case measure => simp [intOf]; omega
        · have S1 : decide ((c.n.size : Int) ≤ 40) = false := decide_eq_false (by omega)
          clear hcc
          clear HC HD HV HNC HND HNV HOKV HRW HRR hB0 hlen l1 l2 l3 n1 n2 n3
          go_wp2_with (first | (go_at_call 8; refine (l6short_any _ _).mono ?_; rintro e w2 ⟨rfl, hb⟩; replace c0 := keep_cell hb c0; replace c1 := keep_cell hb c1; replace c2 := keep_cell hb c2; replace c3 := keep_cell hb c3; replace hB := held_trans hB hb; clear hb) | (go_at_call 9; refine (HWK.out _ hB).mono ?_; rintro e w9 ⟨rfl, hB9⟩))
          go_ret
          exact ⟨rfl, held_trans hB hB9⟩
      · have hA : ∀ h : k < cs.length, cs[k].n.size ≤ 40 := fun h => absurd h qc
        by_cases qd : k < ds.length
        · obtain ⟨d, hdd⟩ : ∃ c, ds[k] = c := ⟨_, rfl⟩
          obtain ⟨ad, rfl, had⟩ := HD.out.keep hB0 (Nat.le_refl _) k qd
          rw [hdd] at had
          have hdl := had.lt
          obtain ⟨d0, d1, d2, d3⟩ := had
          by_cases sd : d.n.size ≤ 40
          · have S2 : decide ((d.n.size : Int) ≤ 40) = true := decide_eq_true (by omega)
            have hD2 : ∀ h : k < ds.length, ds[k].n.size ≤ 40 := fun _ => by rw [hdd]; exact sd
            clear hdd
            by_cases qv : k < vs.length
            · obtain ⟨v, hvv⟩ : ∃ c, vs[k] = c := ⟨_, rfl⟩
              obtain ⟨av, rfl, hav⟩ := HV.out.keep hB0 (Nat.le_refl _) k qv
              rw [hvv] at hav
              have hvl := hav.lt
              have nvk := HNV.out v (by rw [← hvv]; exact List.getElem_mem qv)
              obtain ⟨v0, v1, v2, v3⟩ := hav
              by_cases sv : v.s.size ≤ 300
              · have S3 : decide ((300 : Int) < (v.s.size : Int)) = false := decide_eq_false (by omega)
                have hV2 : ∀ h : k < vs.length, vs[k].s.size ≤ 300 := fun _ => by rw [hvv]; exact sv
                clear hvv v0 v1 v2
                have HK2 := Lib.hid (okTo_next HK.out hA hD2 hV2)
                clear hA hD2 hV2
                clear HC HD HV HNC HND HNV HOKV HRW HRR hB0 hlen l1 l2 l3 n1 n2 n3
                go_wp2_with (first | (go_at_call 8; refine (l6short_any _ _).mono ?_; rintro e w2 ⟨rfl, hb⟩; replace d0 := keep_cell hb d0; replace d1 := keep_cell hb d1; replace d2 := keep_cell hb d2; replace d3 := keep_cell hb d3; replace v3 := keep_cell hb v3; replace hB := held_trans hB hb; clear hb) | (go_at_call 9; refine (HWK.out _ hB).mono ?_; rintro e w9 ⟨rfl, hB9⟩))
                go_roundw
                case rel => exact ⟨k + 1, by omega, by go_num, HK2, hB⟩
                case measure => simp [intOf]; omega
              · have S3 : decide ((300 : Int) < (v.s.size : Int)) = true := decide_eq_true (by omega)
                clear hvv v0 v1 v2 hA hD2
                clear HC HD HV HNC HND HNV HOKV HRW HRR hB0 hlen l1 l2 l3 n1 n2 n3
                go_wp2_with (first | (go_at_call 8; refine (l6short_any _ _).mono ?_; rintro e w2 ⟨rfl, hb⟩; replace d0 := keep_cell hb d0; replace d1 := keep_cell hb d1; replace d2 := keep_cell hb d2; replace d3 := keep_cell hb d3; replace v3 := keep_cell hb v3; replace hB := held_trans hB hb; clear hb) | (go_at_call 9; refine (HWK.out _ hB).mono ?_; rintro e w9 ⟨rfl, hB9⟩))
                go_ret
                exact ⟨rfl, held_trans hB hB9⟩
            · have hV2 : ∀ h : k < vs.length, vs[k].s.size ≤ 300 := fun h => absurd h qv
              have HK2 := Lib.hid (okTo_next HK.out hA hD2 hV2)
              clear hA hD2 hV2
              clear HC HD HV HNC HND HNV HOKV HRW HRR hB0 hlen l1 l2 l3 n1 n2 n3
              go_wp2_with (first | (go_at_call 8; refine (l6short_any _ _).mono ?_; rintro e w2 ⟨rfl, hb⟩; replace d0 := keep_cell hb d0; replace d1 := keep_cell hb d1; replace d2 := keep_cell hb d2; replace d3 := keep_cell hb d3; replace hB := held_trans hB hb; clear hb) | (go_at_call 9; refine (HWK.out _ hB).mono ?_; rintro e w9 ⟨rfl, hB9⟩))
              go_roundw
              case rel => exact ⟨k + 1, by omega, by go_num, HK2, hB⟩
              case measure => simp [intOf]; omega
          · have S2 : decide ((d.n.size : Int) ≤ 40) = false := decide_eq_false (by omega)
            clear hdd hA
            clear HC HD HV HNC HND HNV HOKV HRW HRR hB0 hlen l1 l2 l3 n1 n2 n3
            go_wp2_with (first | (go_at_call 8; refine (l6short_any _ _).mono ?_; rintro e w2 ⟨rfl, hb⟩; replace d0 := keep_cell hb d0; replace d1 := keep_cell hb d1; replace d2 := keep_cell hb d2; replace d3 := keep_cell hb d3; replace hB := held_trans hB hb; clear hb) | (go_at_call 9; refine (HWK.out _ hB).mono ?_; rintro e w9 ⟨rfl, hB9⟩))
            go_ret
            exact ⟨rfl, held_trans hB hB9⟩
        · have hD2 : ∀ h : k < ds.length, ds[k].n.size ≤ 40 := fun h => absurd h qd
          by_cases qv : k < vs.length
          · obtain ⟨v, hvv⟩ : ∃ c, vs[k] = c := ⟨_, rfl⟩
            obtain ⟨av, rfl, hav⟩ := HV.out.keep hB0 (Nat.le_refl _) k qv
            rw [hvv] at hav
            have hvl := hav.lt
            have nvk := HNV.out v (by rw [← hvv]; exact List.getElem_mem qv)
            obtain ⟨v0, v1, v2, v3⟩ := hav
            by_cases sv : v.s.size ≤ 300
            · have S3 : decide ((300 : Int) < (v.s.size : Int)) = false := decide_eq_false (by omega)
              have hV2 : ∀ h : k < vs.length, vs[k].s.size ≤ 300 := fun _ => by rw [hvv]; exact sv
              clear hvv v0 v1 v2
              have HK2 := Lib.hid (okTo_next HK.out hA hD2 hV2)
              clear hA hD2 hV2
              clear HC HD HV HNC HND HNV HOKV HRW HRR hB0 hlen l1 l2 l3 n1 n2 n3
              go_wp2_with (first | (go_at_call 8; refine (l6short_any _ _).mono ?_; rintro e w2 ⟨rfl, hb⟩; replace v3 := keep_cell hb v3; replace hB := held_trans hB hb; clear hb) | (go_at_call 9; refine (HWK.out _ hB).mono ?_; rintro e w9 ⟨rfl, hB9⟩))
              go_roundw
              case rel => exact ⟨k + 1, by omega, by go_num, HK2, hB⟩
              case measure => simp [intOf]; omega
            · have S3 : decide ((300 : Int) < (v.s.size : Int)) = true := decide_eq_true (by omega)
              clear hvv v0 v1 v2 hA hD2
              clear HC HD HV HNC HND HNV HOKV HRW HRR hB0 hlen l1 l2 l3 n1 n2 n3
              go_wp2_with (first | (go_at_call 8; refine (l6short_any _ _).mono ?_; rintro e w2 ⟨rfl, hb⟩; replace v3 := keep_cell hb v3; replace hB := held_trans hB hb; clear hb) | (go_at_call 9; refine (HWK.out _ hB).mono ?_; rintro e w9 ⟨rfl, hB9⟩))
              go_ret
              exact ⟨rfl, held_trans hB hB9⟩
          · have hV2 : ∀ h : k < vs.length, vs[k].s.size ≤ 300 := fun h => absurd h qv
            have HK2 := Lib.hid (okTo_next HK.out hA hD2 hV2)
            clear hA hD2 hV2
            clear HC HD HV HNC HND HNV HOKV HRW HRR hB0 hlen l1 l2 l3 n1 n2 n3
            go_wp2_with (first | (go_at_call 8; refine (l6short_any _ _).mono ?_; rintro e w2 ⟨rfl, hb⟩; replace hB := held_trans hB hb; clear hb) | (go_at_call 9; refine (HWK.out _ hB).mono ?_; rintro e w9 ⟨rfl, hB9⟩))
            go_roundw
            case rel => exact ⟨k + 1, by omega, by go_num, HK2, hB⟩
            case measure => simp [intOf]; omega
    · obtain rfl : k = 10 := by omega
      have hokv : ∀ v ∈ vs, v.ok := fun v hv => by
        obtain ⟨j, hj, rfl⟩ := List.getElem_of_mem hv
        exact HOKV.out _ hv ((HK.out j (by omega)).2.2 hj)
      have HR1 := Lib.hid (HRW.out hokv wr hB)
      have HRR := Lib.hid (HRR.out hokv)
      have HB := Lib.hid hB
      clear hokv HRW HC HD HV HNC HND HNV HOKV HK hB
      generalize cvrN cs ds vs = m at *
      generalize cvrR cs ds vs = R at *
      have hmm : (m == m) = true := by simp
      have HLS := Lib.hid (lists_same R)
      go_wp2_with fail
      refine HR1.out.mono ?_
      rintro e w3 ⟨x1, rfl, hs1, hb3⟩
      have HB3 := Lib.hid (held_trans HB.out hb3)
      have HS1 := Lib.hid hs1
      clear hs1 hb3
      go_wp2_with fail
      refine (HRR.out w3 HB3.out).mono ?_
      rintro e w4 ⟨x2, rfl, hs2, hb4⟩
      have HB4 := Lib.hid (held_trans HB3.out hb4)
      have HSM := Lib.hid (rSame_any x1 x2 R R w4 (HS1.out.keep hb4 (Nat.le_refl _)) hs2 hlen hlen)
      clear hs2 hb4
      go_wp2_with (first | (go_at_call 20; refine HSM.out.mono ?_; rintro e w5 ⟨he, hb5⟩; rw [HLS.out] at he; subst he; have HB5 := Lib.hid (held_trans HB4.out hb5); clear hb5) | (go_at_call 12; refine (l6num_any _ _).mono ?_; rintro e w' ⟨rfl, rfl⟩) | (go_at_call 9; refine (HWK.out _ HB5.out).mono ?_; rintro e w9 ⟨rfl, hB9⟩))
      go_ret
      exact ⟨rfl, held_trans HB5.out hB9⟩
end Go.Proofs.YtmgeefhacnadcaaGreatDoor
