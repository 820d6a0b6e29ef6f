/-
  schema: lists of numbers held against each other, lists of lists; swingbridgeref03.Ints.
-/
import Derived.Test.YtjlhbpacecbfmaaGreatDoorSSameP
namespace Go.Proofs.YtjlhbpacecbfmaaGreatDoor
open Go.RowKit

set_option maxRecDepth 100000 in
set_option maxHeartbeats 2000000 in
theorem EqualI_any (oa ob : Option Addr) (ca cb : Nat) (l m : List Int) (w : World) (hl : l.length ≤ 1000) (_hm : m.length ≤ 1000) (hc : IntsIn w oa l) (hd : IntsIn w ob m) :
    Calls Tryz.prog 73 #[.slice oa l.length ca, .slice ob m.length cb, .func (.func 50) #[] #[]] w fun e w' => e = .returned (.bool (intsB l m)) ∧ w = w' := by
  by_cases hlen : l.length = m.length
  · have hne : ((l.length : Int) != (m.length : Int)) = false := by rw [hlen]; simp
    have HLEN := Lib.hid hlen
    clear hlen
    have HC := Lib.hid hc
    have HD := Lib.hid hd
    clear hc hd
    go_enter Tryz.func73, Tryz.ntmps73
    go_wp2
    go_loop [17] (fun i => ∃ k : Nat, k ≤ l.length ∧ i = .int .i64 k ∧ Hid (ERel intB l m k)) (fun i => l.length - (intOf i).toNat)
    case atStart => exact ⟨0, Nat.zero_le _, rfl, Lib.hid (ERel.zero _ _ _)⟩
    case round =>
      obtain ⟨k, hk, rfl, HK⟩ := hrel
      by_cases hlt : k < l.length
      · have hlm : k < m.length := by have := HLEN.out; omega
        obtain ⟨a, rfl, ha⟩ := HC.out k hlt
        obtain ⟨b, rfl, hb⟩ := HD.out k hlm
        obtain ⟨x, hx⟩ : ∃ x, l[k] = x := ⟨_, rfl⟩
        obtain ⟨y, hy⟩ : ∃ y, m[k] = y := ⟨_, rfl⟩
        rw [hx] at ha
        rw [hy] at hb
        have HS := Lib.hid (fun W => sameI_any x y W)
        cases hxy : intB x y
        · have HN := Lib.hid (show intsB l m = false from HK.out.hit hlt hlm hx hy hxy)
          rw [hxy] at HS
          clear hxy hx hy HC HD
          go_wp2_with (first | (go_at_call 50; refine (HS.out _).mono ?_; rintro e w' ⟨rfl, rfl⟩))
          go_ret
          exact ⟨by rw [HN.out]; rfl, rfl⟩
        · have HN := Lib.hid (HK.out.next hlt hlm hx hy hxy)
          rw [hxy] at HS
          clear hxy hx hy HC HD
          go_wp2_with (first | (go_at_call 50; refine (HS.out _).mono ?_; rintro e w' ⟨rfl, rfl⟩))
          go_round
          case rel => exact ⟨k + 1, by omega, by go_num, HN⟩
          case measure => simp [intOf]; omega
      · have HN := Lib.hid (show intsB l m = true from HK.out.done (by omega) (by have := HLEN.out; omega))
        clear HC HD
        go_wp2
        go_ret
        exact ⟨by rw [HN.out]; rfl, rfl⟩
  · have hne : ((l.length : Int) != (m.length : Int)) = true := by rw [bne_iff_ne]; omega
    have HN := Lib.hid (show intsB l m = false from allEq_len hlen)
    clear hlen hc hd
    go_enter Tryz.func73, Tryz.ntmps73
    go_wp2
    go_ret
    exact ⟨by rw [HN.out]; rfl, rfl⟩
set_option maxHeartbeats 1000000 in
theorem listsI1_any (p : Nat) (oa ob : Option Addr) (ca cb : Nat) (l m : List Int) (w : World) (hl : l.length ≤ 1000) (hm : m.length ≤ 1000) (hc : IntsIn w oa l) (hd : IntsIn w ob m) (h0 : w.cell? ⟨p, 0, none⟩ = some (.func (.func 50) #[] #[])) :
    Calls Tryz.prog 72 #[.slice oa l.length ca, .slice ob m.length cb, .pointer (some ⟨p, 0, none⟩)] w fun e w' => e = .returned (.bool (intsB l m)) ∧ w = w' := by
  have H := Lib.hid (EqualI_any oa ob ca cb l m w hl hm hc hd)
  clear hc hd
  go_enter Tryz.func72, Tryz.ntmps72
  go_wp2_with (first | (go_at_call 73; refine H.out.mono ?_; rintro e w' ⟨rfl, rfl⟩))
  go_ret
  exact ⟨rfl, rfl⟩
set_option maxRecDepth 100000 in
set_option maxHeartbeats 2000000 in
theorem EqualL_any (p : Nat) (oa ob : Option Addr) (ca cb : Nat) (l m : List (List Int)) (w : World) (hl : l.length ≤ 1000) (_hm : m.length ≤ 1000) (hll : ∀ x ∈ l, x.length ≤ 1000) (hml : ∀ x ∈ m, x.length ≤ 1000) (hc : SetsIn w oa l) (hd : SetsIn w ob m) (h0 : w.cell? ⟨p, 0, none⟩ = some (.func (.func 50) #[] #[])) :
    Calls Tryz.prog 77 #[.slice oa l.length ca, .slice ob m.length cb, .func (.func 72) #[] #[.pointer (some ⟨p, 0, none⟩)]] w fun e w' => e = .returned (.bool (allEq intsB l m)) ∧ w = w' := by
  by_cases hlen : l.length = m.length
  · have hne : ((l.length : Int) != (m.length : Int)) = false := by rw [hlen]; simp
    have HLEN := Lib.hid hlen
    clear hlen
    have HC := Lib.hid hc
    have HD := Lib.hid hd
    have HLL := Lib.hid hll
    have HML := Lib.hid hml
    have H0 := Lib.hid h0
    clear hc hd hll hml h0
    go_enter Tryz.func77, Tryz.ntmps77
    go_wp2
    go_loop [17] (fun i => ∃ k : Nat, k ≤ l.length ∧ i = .int .i64 k ∧ Hid (ERel intsB l m k)) (fun i => l.length - (intOf i).toNat)
    case atStart => exact ⟨0, Nat.zero_le _, rfl, Lib.hid (ERel.zero _ _ _)⟩
    case round =>
      obtain ⟨k, hk, rfl, HK⟩ := hrel
      by_cases hlt : k < l.length
      · have hlm : k < m.length := by have := HLEN.out; omega
        obtain ⟨a, oa1, ca1, rfl, ha, _, hia⟩ := HC.out k hlt
        obtain ⟨b, ob1, cb1, rfl, hb, _, hib⟩ := HD.out k hlm
        obtain ⟨x, hx⟩ : ∃ x, l[k] = x := ⟨_, rfl⟩
        obtain ⟨y, hy⟩ : ∃ y, m[k] = y := ⟨_, rfl⟩
        have hxl := HLL.out x (hx ▸ List.getElem_mem hlt)
        have hyl := HML.out y (hy ▸ List.getElem_mem hlm)
        rw [hx] at ha hia
        rw [hy] at hb hib
        have HS := Lib.hid (listsI1_any p oa1 ob1 ca1 cb1 x y w hxl hyl hia hib H0.out)
        clear hia hib
        cases hxy : intsB x y
        · have HN := Lib.hid (show allEq intsB l m = false from HK.out.hit hlt hlm hx hy hxy)
          rw [hxy] at HS
          clear hxy hx hy HC HD
          go_wp2_with (first | (go_at_call 72; refine HS.out.mono ?_; rintro e w' ⟨rfl, rfl⟩))
          go_ret
          exact ⟨by rw [HN.out]; rfl, rfl⟩
        · have HN := Lib.hid (HK.out.next hlt hlm hx hy hxy)
          rw [hxy] at HS
          clear hxy hx hy HC HD
          go_wp2_with (first | (go_at_call 72; refine HS.out.mono ?_; rintro e w' ⟨rfl, rfl⟩))
          go_round
          case rel => exact ⟨k + 1, by omega, by go_num, HN⟩
          case measure => simp [intOf]; omega
      · have HN := Lib.hid (show allEq intsB l m = true from HK.out.done (by omega) (by have := HLEN.out; omega))
        clear HC HD
        go_wp2
        go_ret
        exact ⟨by rw [HN.out]; rfl, rfl⟩
  · have hne : ((l.length : Int) != (m.length : Int)) = true := by rw [bne_iff_ne]; omega
    have HN := Lib.hid (show allEq intsB l m = false from allEq_len hlen)
    clear hlen hc hd hll hml h0
    go_enter Tryz.func77, Tryz.ntmps77
    go_wp2
    go_ret
    exact ⟨by rw [HN.out]; rfl, rfl⟩
set_option maxHeartbeats 1000000 in
theorem listsL1_any (p q : Nat) (oa ob : Option Addr) (ca cb : Nat) (l m : List (List Int)) (w : World) (hl : l.length ≤ 1000) (hm : m.length ≤ 1000) (hll : ∀ x ∈ l, x.length ≤ 1000) (hml : ∀ x ∈ m, x.length ≤ 1000) (hc : SetsIn w oa l) (hd : SetsIn w ob m) (h0 : w.cell? ⟨p, 0, none⟩ = some (.func (.func 50) #[] #[])) (h1 : w.cell? ⟨q, 0, none⟩ = some (.func (.func 72) #[] #[.pointer (some ⟨p, 0, none⟩)])) :
    Calls Tryz.prog 76 #[.slice oa l.length ca, .slice ob m.length cb, .pointer (some ⟨q, 0, none⟩)] w fun e w' => e = .returned (.bool (allEq intsB l m)) ∧ w = w' := by
  have H := Lib.hid (EqualL_any p oa ob ca cb l m w hl hm hll hml hc hd h0)
  clear hc hd hll hml h0
  go_enter Tryz.func76, Tryz.ntmps76
  go_wp2_with (first | (go_at_call 77; refine H.out.mono ?_; rintro e w' ⟨rfl, rfl⟩))
  go_ret
  exact ⟨rfl, rfl⟩
set_option maxRecDepth 100000 in
set_option maxHeartbeats 2000000 in
theorem rInts_any (oa ob : Option Addr) (ca cb : Nat) (l m : List Int) (w : World) (hl : l.length ≤ 1000) (_hm : m.length ≤ 1000) (hc : IntsIn w oa l) (hd : IntsIn w ob m) :
    Calls Tryz.prog 18 #[.slice oa l.length ca, .slice ob m.length cb] w fun e w' => e = .returned (.bool (intsB l m)) ∧ Below w.heap.size w w' := by
  by_cases hlen : l.length = m.length
  · have hne : ((l.length : Int) != (m.length : Int)) = false := by rw [hlen]; simp
    have HLEN := Lib.hid hlen
    clear hlen
    have HC := Lib.hid hc
    have HD := Lib.hid hd
    clear hc hd
    go_enter Tryz.func18, Tryz.ntmps18
    go_wp2
    go_loopw [5] (fun i wr => ∃ k : Nat, k ≤ l.length ∧ i = .int .i64 k ∧ Hid (ERel intB l m k) ∧ Hid (Below w.heap.size w wr)) (fun i _ => l.length - (intOf i).toNat)
    case atStart => exact ⟨0, Nat.zero_le _, rfl, Lib.hid (ERel.zero _ _ _), Lib.hid (Below.refl _ _)⟩
    case round =>
      obtain ⟨k, hk, rfl, HK, HB⟩ := hrel
      by_cases hlt : k < l.length
      · have hlm : k < m.length := by have := HLEN.out; omega
        obtain ⟨a, rfl, ha⟩ := HC.out.keep HB.out (Nat.le_refl _) k hlt
        obtain ⟨b, rfl, hb⟩ := HD.out.keep HB.out (Nat.le_refl _) k hlm
        obtain ⟨x, hx⟩ : ∃ x, l[k] = x := ⟨_, rfl⟩
        obtain ⟨y, hy⟩ : ∃ y, m[k] = y := ⟨_, rfl⟩
        rw [hx] at ha
        rw [hy] at hb
        cases hxy : intB x y
        · have HN := Lib.hid (show intsB l m = false from HK.out.hit hlt hlm hx hy hxy)
          have hne2 : (x != y) = true := by unfold intB at hxy; simpa using hxy
          clear hxy hx hy HC HD
          go_wp2_with fail
          go_quiet (fail)
          go_wp2_with fail
          go_ret
          exact ⟨by rw [HN.out]; rfl, below_drewN HB.out _⟩
        · have HN := Lib.hid (HK.out.next hlt hlm hx hy hxy)
          have hne2 : (x != y) = false := by unfold intB at hxy; simpa using hxy
          clear hxy hx hy HC HD
          go_wp2_with fail
          go_quiet (fail)
          go_wp2_with fail
          go_roundw
          case rel => exact ⟨k + 1, by omega, by go_num, HN, Lib.hid (below_drewN HB.out _)⟩
          case measure => simp [intOf]; omega
      · have HN := Lib.hid (show intsB l m = true from HK.out.done (by omega) (by have := HLEN.out; omega))
        clear HC HD
        go_wp2
        go_ret
        exact ⟨by rw [HN.out]; rfl, HB.out⟩
  · have hne : ((l.length : Int) != (m.length : Int)) = true := by rw [bne_iff_ne]; omega
    have HN := Lib.hid (show intsB l m = false from allEq_len hlen)
    clear hlen hc hd
    go_enter Tryz.func18, Tryz.ntmps18
    go_wp2
    go_ret
    exact ⟨by rw [HN.out]; rfl, Below.refl _ _⟩
end Go.Proofs.YtjlhbpacecbfmaaGreatDoor
