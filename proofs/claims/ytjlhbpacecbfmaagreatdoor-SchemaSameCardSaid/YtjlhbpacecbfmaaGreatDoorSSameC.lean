/-
  schema: lists of columns held against each other.
-/
import Derived.Test.YtjlhbpacecbfmaaGreatDoorSSameP
namespace Go.Proofs.YtjlhbpacecbfmaaGreatDoor
open Go.RowKit

set_option maxRecDepth 100000 in
set_option maxHeartbeats 4000000 in
theorem EqualC_any (oa ob : Option Addr) (ca cb : Nat) (l m : List Col) (w : World) (hl : l.length ≤ 1000) (_hm : m.length ≤ 1000) (hc : ColsIn w oa l) (hd : ColsIn w ob m) :
    Calls Tryz.prog 75 #[.slice oa l.length ca, .slice ob m.length cb, .func (.func 52) #[] #[]] w fun e w' => e = .returned (.bool (allEq colB l m)) ∧ Below w.heap.size w w' := by
  by_cases hlen : l.length = m.length
  · have hne : ((l.length : Int) != (m.length : Int)) = false := by rw [hlen]; simp
    have HLEN := Lib.hid hlen
    clear hlen
    have HC := Lib.hid hc
    have HD := Lib.hid hd
    clear hc hd
    go_enter Tryz.func75, Tryz.ntmps75
    go_wp2
    go_loopw [17] (fun i wr => ∃ k : Nat, k ≤ l.length ∧ i = .int .i64 k ∧ Hid (ERel colB l m k) ∧ Hid (Below w.heap.size w wr)) (fun i _ => l.length - (intOf i).toNat)
    case atStart => exact ⟨0, Nat.zero_le _, rfl, Lib.hid (ERel.zero _ _ _), Lib.hid (Below.refl _ _)⟩
    case round =>
      obtain ⟨k, hk, rfl, HK, HB⟩ := hrel
      by_cases hlt : k < l.length
      · have hlm : k < m.length := by have := HLEN.out; omega
        obtain ⟨a, rfl, ha⟩ := HC.out.keep HB.out (Nat.le_refl _) k hlt
        obtain ⟨b, rfl, hb⟩ := HD.out.keep HB.out (Nat.le_refl _) k hlm
        obtain ⟨x, hx⟩ : ∃ x, l[k] = x := ⟨_, rfl⟩
        obtain ⟨y, hy⟩ : ∃ y, m[k] = y := ⟨_, rfl⟩
        rw [hx] at ha
        rw [hy] at hb
        have hal := ha.lt
        have hbl := hb.lt
        obtain ⟨a0, a1, a2, a3⟩ := ha
        obtain ⟨b0, b1, b2, b3⟩ := hb
        have HS := Lib.hid (fun W => sameC_any x y W)
        cases hxy : colB x y
        · have HN := Lib.hid (show allEq colB l m = false from HK.out.hit hlt hlm hx hy hxy)
          rw [hxy] at HS
          clear hxy hx hy HC HD
          go_wp2_with (first | (go_at_call 52; refine (HS.out _).mono ?_; rintro e w' ⟨rfl, hb'⟩))
          go_ret
          exact ⟨by rw [HN.out]; rfl, HB.out.trans (((((Below.refl wr.heap.size wr).alloc (Nat.le_refl _) _).alloc (by simp) _).trans (hb'.mono (by simp; omega))).mono HB.out.size)⟩
        · have HN := Lib.hid (HK.out.next hlt hlm hx hy hxy)
          rw [hxy] at HS
          clear hxy hx hy HC HD
          go_wp2_with (first | (go_at_call 52; refine (HS.out _).mono ?_; rintro e w' ⟨rfl, hb'⟩))
          go_roundw
          case rel => exact ⟨k + 1, by omega, by go_num, HN, Lib.hid (HB.out.trans (((((Below.refl wr.heap.size wr).alloc (Nat.le_refl _) _).alloc (by simp) _).trans (hb'.mono (by simp; omega))).mono HB.out.size))⟩
          case measure => simp [intOf]; omega
      · have HN := Lib.hid (show allEq colB l m = true from HK.out.done (by omega) (by have := HLEN.out; omega))
        clear HC HD
        go_wp2
        go_ret
        exact ⟨by rw [HN.out]; rfl, HB.out⟩
  · have hne : ((l.length : Int) != (m.length : Int)) = true := by rw [bne_iff_ne]; omega
    have HN := Lib.hid (show allEq colB l m = false from allEq_len hlen)
    clear hlen hc hd
    go_enter Tryz.func75, Tryz.ntmps75
    go_wp2
    go_ret
    exact ⟨by rw [HN.out]; rfl, Below.refl _ _⟩
set_option maxHeartbeats 1000000 in
theorem listsC1_any (p : Nat) (oa ob : Option Addr) (ca cb : Nat) (l m : List Col) (w : World) (hl : l.length ≤ 1000) (hm : m.length ≤ 1000) (hc : ColsIn w oa l) (hd : ColsIn w ob m) (h0 : w.cell? ⟨p, 0, none⟩ = some (.func (.func 52) #[] #[])) :
    Calls Tryz.prog 74 #[.slice oa l.length ca, .slice ob m.length cb, .pointer (some ⟨p, 0, none⟩)] w fun e w' => e = .returned (.bool (allEq colB l m)) ∧ Below w.heap.size w w' := by
  have H := Lib.hid (EqualC_any oa ob ca cb l m w hl hm hc hd)
  clear hc hd
  go_enter Tryz.func74, Tryz.ntmps74
  go_wp2_with (first | (go_at_call 75; refine H.out.mono ?_; rintro e w' ⟨rfl, hb'⟩))
  go_ret
  exact ⟨rfl, hb'⟩
end Go.Proofs.YtjlhbpacecbfmaaGreatDoor
