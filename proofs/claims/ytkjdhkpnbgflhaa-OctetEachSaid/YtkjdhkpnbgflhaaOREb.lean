/-
  swingbridgeref02: read, ReadNumber, ReadFixed, Sum; octet.ReadFixed.
-/
import Derived.Test.YtkjdhkpnbgflhaaOREa
namespace Go.Proofs.Ytkjdhkpnbgflhaa
open Go.RowKit

set_option maxHeartbeats 1000000 in
theorem read_any (v : Value) (l : List UInt8) (w : World) (hv : BytesAt w v l) (hl : l.length ≤ 8) :
    Calls Try.prog 13 #[v] w fun e w' => e = .returned (.int .u64 (valOf l 0 : Nat)) ∧ w = w' := by
  obtain ⟨oa, cap, rfl, _, hv⟩ := hv
  have HV := Lib.hid hv
  clear hv
  go_enter Try.func13, Try.ntmps13
  go_wp2
  go_loop [3, 4] (fun s i => ∃ (k c : Nat), k ≤ l.length ∧ Hid (c < 256 ^ k) ∧ i = .int .i64 k ∧ s = .int .u64 c ∧ Hid (valOf l 0 = valOf (l.drop k) c)) (fun _ i => l.length - (intOf i).toNat)
  case atStart => exact ⟨0, 0, by omega, Lib.hid (by decide), rfl, rfl, Lib.hid rfl⟩
  case round =>
    obtain ⟨k, c, hk, HP, rfl, rfl, HC⟩ := hrel
    by_cases hlt : k < l.length
    · obtain ⟨a, rfl, hcell⟩ := HV.out k hlt
      have HN := Lib.hid (HC.out.trans (valOf_next hlt c))
      obtain ⟨x, hx⟩ : ∃ x, l[k] = x := ⟨_, rfl⟩
      rw [hx] at hcell HN
      have hx256 := x.toNat_lt
      have hc7 : c < 72057594037927936 := by
        have h1 := HP.out
        have h2 := Nat.pow_le_pow_right (n := 256) (by decide) (show k ≤ 7 by omega)
        have h3 : (256 : Nat) ^ 7 = 72057594037927936 := by decide
        omega
      have HX := Lib.hid (pow_next HP.out x)
      clear hx HC HP
      go_wp2
      go_round
      case rel => exact ⟨k + 1, c * 256 + x.toNat, by omega, HX, by go_num, by go_num, HN⟩
      case measure => simp [intOf]; omega
    · obtain rfl : k = l.length := by omega
      have h := HC.out
      rw [List.drop_length] at h
      have H := Lib.hid h
      clear h
      go_wp2
      go_ret
      exact ⟨by rw [H.out]; rfl, rfl⟩

/-- b[i:i+k] of a slice of room cap -/
theorem BytesAt.cut {w : World} {oa : Option Addr} {cap i k : Nat} {l : List UInt8} (h : BytesAt w (.slice oa l.length cap) l) (hi : i + k ≤ l.length) (ob : Option Addr) (hob : ob = if cap = i then oa else oa.map (·.add i)) (c : Nat) (hc : k ≤ c) : BytesAt w (.slice ob k c) ((l.drop i).take k) := by
  obtain ⟨oa', cap', he, hcap, hcell⟩ := h
  cases he
  have hl : ((l.drop i).take k).length = k := by rw [List.length_take, List.length_drop]; omega
  refine ⟨ob, c, by rw [hl], by omega, fun j hj => ?_⟩
  rw [hl] at hj
  obtain ⟨a, rfl, ha⟩ := hcell (i + j) (by omega)
  rw [hob, if_neg (by omega)]
  refine ⟨_, rfl, ?_⟩
  rw [Addr.add_add, ha]
  simp

set_option maxRecDepth 100000 in
set_option maxHeartbeats 1000000 in
theorem rReadNumber_none (v : Value) (l : List UInt8) (w : World) (hv : BytesAt w v l) (hn : l.length ≤ 1000000) (h : readN l = none) :
    Calls Try.prog 5 #[v] w fun e w' => e = .returned (.tuple #[.int .u64 0, .int .i64 0, .int .i64 120]) ∧ w = w' := by
  obtain ⟨oa, cap, rfl, hcap, hcell⟩ := hv
  by_cases h0 : l.length = 0
  · clear hcell h
    go_enter Try.func5, Try.ntmps5
    go_wp2
    go_ret3
    exact ⟨rfl, rfl⟩
  · have hlt : 0 < l.length := by omega
    obtain ⟨a, rfl, hc0⟩ := hcell 0 hlt
    rw [← List.drop_zero (l := l), readN_drop hlt] at h
    obtain ⟨x, hx⟩ : ∃ x, l[0] = x := ⟨_, rfl⟩
    rw [hx] at h hc0
    have hx256 := x.toNat_lt
    have hle0 : ((l.length : Int) == 0) = false := by rw [beq_eq_false_iff_ne]; omega
    split at h
    · cases h
    · rename_i hno
      rw [Addr.add_zero'] at hc0
      by_cases h8 : 8 < x.toNat
      · clear hcell hx hno
        go_enter Try.func5, Try.ntmps5
        go_wp2
        go_ret3
        exact ⟨rfl, rfl⟩
      · by_cases hs : l.length < 1 + x.toNat
        · clear hcell hx hno
          go_enter Try.func5, Try.ntmps5
          go_wp2
          go_ret3
          exact ⟨rfl, rfl⟩
        · have hp : 0 < x.toNat ∧ l[0 + 1]? = some 0 := by
            rcases Classical.em (0 < x.toNat ∧ l[0 + 1]? = some 0) with hp | hp
            · exact hp
            · exact absurd ⟨by omega, by omega, hp⟩ hno
          obtain ⟨hp0, hp1⟩ := hp
          have hlt1 : 1 < l.length := by omega
          obtain ⟨a', ha', hc1⟩ := hcell 1 hlt1
          cases ha'
          have hl1 : l[1] = 0 := by rw [List.getElem?_eq_getElem (by omega)] at hp1; exact Option.some.inj hp1
          rw [hl1] at hc1
          have hz : (((0 : UInt8).toNat : Int)) = 0 := rfl
          rw [hz, Addr.add_succ'] at hc1
          clear hcell hx hno hp1 hl1 hz
          go_enter Try.func5, Try.ntmps5
          go_wp2
          go_ret3
          exact ⟨rfl, rfl⟩
set_option maxRecDepth 100000 in
set_option maxHeartbeats 1000000 in
theorem rReadNumber_some (v : Value) (l : List UInt8) (w : World) (n k : Nat) (hv : BytesAt w v l) (hn : l.length ≤ 1000000) (h : readN l = some (n, k)) :
    Calls Try.prog 5 #[v] w fun e w' => e = .returned (.tuple #[.int .u64 n, .int .i64 k, .int .i64 0]) ∧ w = w' := by
  have HV := Lib.hid hv
  obtain ⟨oa, cap, rfl, hcap, hcell⟩ := hv
  have hlt : 0 < l.length := by
    rcases Nat.lt_or_ge 0 l.length with h1 | h1
    · exact h1
    · have e : l = [] := List.eq_nil_of_length_eq_zero (by omega)
      rw [e] at h; cases h
  obtain ⟨a, rfl, hc0⟩ := hcell 0 hlt
  rw [← List.drop_zero (l := l), readN_drop hlt] at h
  obtain ⟨x, hx⟩ : ∃ x, l[0] = x := ⟨_, rfl⟩
  rw [hx] at h hc0
  have hx256 := x.toNat_lt
  have hle0 : ((l.length : Int) == 0) = false := by rw [beq_eq_false_iff_ne]; omega
  split at h
  · rename_i hyes
    obtain ⟨h8, hs, hp⟩ := hyes
    simp only [Option.some.injEq, Prod.mk.injEq] at h
    obtain ⟨rfl, rfl⟩ := h
    rw [Addr.add_zero'] at hc0
    have hR : ∀ ob c, ob = (if cap = 1 then some a else some (a.add 1)) → x.toNat ≤ c → Calls Try.prog 13 #[.slice ob x.toNat c] w fun e w' => e = .returned (.int .u64 (valOf ((l.drop 1).take x.toNat) 0 : Nat)) ∧ w = w' := fun ob c ho hc =>
      read_any _ _ w (HV.out.cut (by omega) ob ho c hc) (by rw [List.length_take]; omega)
    have HR := Lib.hid hR
    rw [show 0 + 1 = 1 from rfl]
    generalize valOf ((l.drop 1).take x.toNat) 0 = K at *
    by_cases h0 : x.toNat = 0
    · rw [h0] at hc0 HR ⊢
      clear hcell hx hp hR h8 hs hx256 h0
      by_cases hcap1 : cap = 1
      · have hC := HR.out (some a) 0 (by rw [if_pos hcap1]) (Nat.le_refl _)
        have HC := Lib.hid hC
        clear hC
        subst hcap1
        go_enter Try.func5, Try.ntmps5
        go_wp2_with (first | (go_at_call 13; refine HC.out.mono ?_; rintro e w' ⟨rfl, rfl⟩))
        go_ret3
        exact ⟨rfl, rfl⟩
      · have hC := HR.out (some (a.add 1)) (cap - 1) (by rw [if_neg hcap1]) (by omega)
        rw [Addr.add_succ'] at hC
        have HC := Lib.hid hC
        clear hC
        go_enter Try.func5, Try.ntmps5
        go_wp2_with (first | (go_at_call 13; refine HC.out.mono ?_; rintro e w' ⟨rfl, rfl⟩))
        go_ret3
        exact ⟨rfl, rfl⟩
    · have hlt1 : 1 < l.length := by omega
      obtain ⟨a', ha', hc1⟩ := hcell 1 hlt1
      cases ha'
      have hl1 : ((l[1].toNat : Int) == 0) = false := by
        rw [beq_eq_false_iff_ne]
        intro he
        exact hp ⟨by omega, by rw [List.getElem?_eq_getElem (by omega)]; exact congrArg some (UInt8.toNat_inj.1 (show l[1].toNat = (0 : UInt8).toNat by show l[1].toNat = 0; omega))⟩
      have h1256 := l[1].toNat_lt
      obtain ⟨y, hy⟩ : ∃ y, l[1] = y := ⟨_, rfl⟩
      rw [hy] at hc1 hl1 h1256
      rw [Addr.add_succ'] at hc1
      clear hcell hx hp hR hy
      have hcap1 : ¬ cap = 1 := by omega
      have hC := HR.out (some (a.add 1)) (cap - 1) (by rw [if_neg hcap1]) (by omega)
      rw [Addr.add_succ'] at hC
      have HC := Lib.hid hC
      clear hC
      go_enter Try.func5, Try.ntmps5
      go_wp2_with (first | (go_at_call 13; refine HC.out.mono ?_; rintro e w' ⟨rfl, rfl⟩))
      go_ret3
      exact ⟨by go_num, rfl⟩
  · cases h

theorem rReadNumber_any (v : Value) (l : List UInt8) (w : World) (hv : BytesAt w v l) (hn : l.length ≤ 1000000) :
    Calls Try.prog 5 #[v] w fun e w' => e = .returned (rdRes (readN l)) ∧ w = w' := by
  cases h : readN l with
  | none => exact rReadNumber_none v l w hv hn h
  | some x => obtain ⟨n, k⟩ := x; exact rReadNumber_some v l w n k hv hn h

end Go.Proofs.Ytkjdhkpnbgflhaa
