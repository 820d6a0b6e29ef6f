/-
  octet.Sum.
-/
import Derived.Test.YtkjdhkpnbgflhaaOSumB
namespace Go.Proofs.Ytkjdhkpnbgflhaa
open Go.RowKit

/-- a slice of slices of bytes -/
def RowsAt (w : World) (v : Value) (ls : List (Value × List UInt8)) : Prop := ∃ oa cap, v = .slice oa ls.length cap ∧ ∀ (j : Nat) (h : j < ls.length), ∃ a, oa = some a ∧ w.cell? (a.add j) = some ls[j].1 ∧ BytesAt w ls[j].1 ls[j].2

def catL (ls : List (Value × List UInt8)) : List UInt8 := ls.flatMap (·.2)
theorem cat_next {ls : List (Value × List UInt8)} {k : Nat} (h : k < ls.length) (s : Nat) : crcGo s (catL (ls.drop k)) = crcGo (crcGo s ls[k].2) (catL (ls.drop (k + 1))) := by
  rw [List.drop_eq_getElem_cons h]
  unfold catL
  rw [List.flatMap_cons, crcGo_append]
theorem row_next {l : List UInt8} {k : Nat} (h : k < l.length) (s : Nat) : crcGo s (l.drop k) = crcGo (crcByte s l[k]) (l.drop (k + 1)) := by
  rw [List.drop_eq_getElem_cons h]
  rfl

theorem not_u32 (c : Nat) (hc : c < 4294967296) : bits BinOp.xor IntKind.u32 4294967295 (c : Int) = ((4294967295 - c : Nat) : Int) := by
  have h := u32_xor_nat 4294967295 c (by omega) hc
  have h1 : (BitVec.allOnes 32 ^^^ BitVec.ofNat 32 c).toNat = (~~~ (BitVec.ofNat 32 c)).toNat := by rw [BitVec.not_def]
  rw [BitVec.toNat_xor, BitVec.toNat_not, BitVec.toNat_allOnes, BitVec.toNat_ofNat, Nat.mod_eq_of_lt (by omega)] at h1
  have h2 : 4294967295 ^^^ c = 4294967295 - c := h1
  rw [h2] at h
  exact h
theorem crcBit_walk (e : Nat) (he : e < 4294967296) : bits BinOp.xor IntKind.u32 ((e : Int) / 2) (bits BinOp.and IntKind.u32 2197175160 (-bits BinOp.and IntKind.u32 (e : Int) 1 % 4294967296)) = ((crcBit e : Nat) : Int) := by
  have h1 : bits BinOp.and IntKind.u32 (e : Int) 1 = ((e % 2 : Nat) : Int) := by
    have := u32_and_nat e 1 he (by omega)
    rw [Nat.and_one_is_mod] at this
    exact this
  rw [h1]
  unfold crcBit
  have h2 : (e : Int) / 2 = ((e / 2 : Nat) : Int) := by omega
  rw [h2]
  rcases Nat.mod_two_eq_zero_or_one e with h | h
  · rw [h, if_neg (by decide)]
    have h3 : bits BinOp.and IntKind.u32 2197175160 (-((0 : Nat) : Int) % 4294967296) = ((0 : Nat) : Int) := by decide +kernel
    rw [h3]
    exact u32_xor_nat (e / 2) 0 (by omega) (by omega)
  · rw [h, if_pos rfl]
    have h3 : bits BinOp.and IntKind.u32 2197175160 (-((1 : Nat) : Int) % 4294967296) = ((2197175160 : Nat) : Int) := by decide +kernel
    rw [h3]
    exact u32_xor_nat (e / 2) 2197175160 (by omega) (by omega)
set_option maxHeartbeats 1000000 in
theorem Sum_any (v : Value) (ls : List (Value × List UInt8)) (w : World) (hv : RowsAt w v ls) (hl : ls.length ≤ 1000000) (hr : ∀ x ∈ ls, x.2.length ≤ 1000000) :
    Calls Try.prog 12 #[v] w fun e w' => e = .returned (.int .u32 (crc (catL ls))) ∧ w = w' := by
  obtain ⟨oa, cap, rfl, hv⟩ := hv
  have HV := Lib.hid hv
  have HR := Lib.hid hr
  clear hv hr
  go_enter Try.func12, Try.ntmps12
  go_wp2
  go_loop [3, 10] (fun s i => ∃ (k c : Nat), k ≤ ls.length ∧ c < 4294967296 ∧ i = .int .i64 k ∧ s = .int .u32 c ∧ Hid (crcGo 4294967295 (catL ls) = crcGo c (catL (ls.drop k)))) (fun _ i => ls.length - (intOf i).toNat)
  case atStart => exact ⟨0, 4294967295, by omega, by omega, rfl, rfl, Lib.hid rfl⟩
  case round =>
    obtain ⟨k, c, hk, hc, rfl, rfl, HC⟩ := hrel
    by_cases hlt : k < ls.length
    · obtain ⟨a, rfl, hcell, ob, cap', hrow, _, hb⟩ := HV.out k hlt
      have hrl := HR.out _ (List.getElem_mem hlt)
      have HN : Hid _ := Lib.hid (HC.out.trans (cat_next hlt c))
      obtain ⟨x, hx⟩ : ∃ x, ls[k] = x := ⟨_, rfl⟩
      rw [hrow] at hcell
      rw [hx] at hcell hb hrl HN
      obtain ⟨X, l⟩ := x
      simp only at hcell hb hrl HN
      have HB := Lib.hid hb
      clear hb hx hrow HC
      go_wp2
      go_loop [3, 16] (fun s i => ∃ (j d : Nat), j ≤ l.length ∧ d < 4294967296 ∧ i = .int .i64 j ∧ s = .int .u32 d ∧ Hid (crcGo 4294967295 (catL ls) = crcGo (crcGo d (l.drop j)) (catL (ls.drop (k + 1))))) (fun _ i => l.length - (intOf i).toNat)
      case atStart => exact ⟨0, c, by omega, hc, rfl, rfl, HN⟩
      case round =>
        obtain ⟨j, d, hj, hd, rfl, rfl, HD⟩ := hrel
        by_cases hlj : j < l.length
        · obtain ⟨ab, rfl, hbyte⟩ := HB.out j hlj
          have hm := HD.out.trans (congrArg (crcGo · _) (row_next hlj d))
          obtain ⟨x, hx⟩ : ∃ x, l[j] = x := ⟨_, rfl⟩
          rw [hx] at hbyte hm
          unfold crcByte at hm
          have hx256 := x.toNat_lt
          have hxor : bits BinOp.xor IntKind.u32 (d : Int) (x.toNat : Int) = ((d ^^^ x.toNat : Nat) : Int) := u32_xor_nat d x.toNat hd (by omega)
          have hlt32 := xor_lt32 d x hd
          have HM := Lib.hid hm
          clear hx HD hm
          generalize d ^^^ x.toNat = t at *
          go_wp2
          go_loop [3, 24] (fun s i => ∃ (q d : Nat), q ≤ 8 ∧ d < 4294967296 ∧ i = .int .i64 q ∧ s = .int .u32 d ∧ Hid (crcGo 4294967295 (catL ls) = crcGo (crcGo (crcBits (8 - q) d) (l.drop (j + 1))) (catL (ls.drop (k + 1))))) (fun _ i => 8 - (intOf i).toNat)
          case atStart => exact ⟨0, t, by omega, hlt32, rfl, rfl, HM⟩
          case round =>
            clear HM hxor hlt32
            obtain ⟨q, e, hq, he, rfl, rfl, HE⟩ := hrel
            by_cases hq8 : q < 8
            · go_wp2
              go_round
              case rel => exact ⟨q + 1, crcBit e, by omega, crcBit_lt e he, by go_num, by rw [crcBit_walk e he], Lib.hid (by rw [HE.out, show 8 - q = (8 - (q + 1)) + 1 by omega]; rfl)⟩
              case measure => simp [intOf]; omega
            · obtain rfl : q = 8 := by omega
              go_wp2
              go_round
              case rel => exact ⟨j + 1, e, by omega, he, by go_num, rfl, Lib.hid HE.out⟩
              case measure => simp [intOf]; omega
        · obtain rfl : j = l.length := by omega
          go_wp2
          go_round
          case rel => exact ⟨k + 1, d, by omega, hd, by go_num, rfl, Lib.hid (by have := HD.out; rwa [List.drop_length] at this)⟩
          case measure => simp [intOf]; omega
    · obtain rfl : k = ls.length := by omega
      go_wp2
      go_ret
      refine ⟨?_, rfl⟩
      have h := HC.out
      rw [List.drop_length] at h
      unfold crc
      rw [h]
      exact ret_i (not_u32 c hc)
end Go.Proofs.Ytkjdhkpnbgflhaa
