/-
  octet.join, octets.piece, reader.take.
-/
import Derived.Test.YtkjdhkpnbgflhaaOSumB
import Derived.DataElems
import Derived.Carry
namespace Go.Proofs.Ytkjdhkpnbgflhaa
open Go.RowKit

theorem or_add (a b : Nat) (ha : a * 256 < 18446744073709551616) (hb : b < 256) : bits BinOp.or IntKind.u64 ((a : Int) * 256) (b : Int) = ((a * 256 + b : Nat) : Int) := by
  rw [bits_join .u64 64 (by decide) (fun n h0 h1 => by rw [IntKind.wrap_u64]; omega) 8 ((a : Int) * 256) b (by omega) (by omega) (by omega) (by omega) (by omega) (by omega)]
  omega
theorem valOf_next {l : List UInt8} {k : Nat} (h : k < l.length) (s : Nat) : valOf (l.drop k) s = valOf (l.drop (k + 1)) (s * 256 + l[k].toNat) := by
  rw [List.drop_eq_getElem_cons h]
  rfl

theorem pow_next {c k : Nat} (h : c < 256 ^ k) (x : UInt8) : c * 256 + x.toNat < 256 ^ (k + 1) := by
  have hx := x.toNat_lt
  rw [Nat.pow_succ]
  omega
set_option maxHeartbeats 1000000 in
theorem join_any (v : Value) (l : List UInt8) (w : World) (hv : BytesAt w v l) (hl : l.length ≤ 8) :
    Calls Try.prog 23 #[v] w fun e w' => e = .returned (.int .u64 (valOf l 0 : Nat)) ∧ w = w' := by
  obtain ⟨oa, cap, rfl, _, hv⟩ := hv
  have HV := Lib.hid hv
  clear hv
  go_enter Try.func23, Try.ntmps23
  go_wp2
  go_loop [3, 8] (fun s i => ∃ (k c : Nat), k ≤ l.length ∧ Hid (c < 256 ^ k) ∧ i = .int .i64 k ∧ s = .int .u64 c ∧ Hid (valOf l 0 = valOf (l.drop k) c)) (fun _ i => l.length - (intOf i).toNat)
  case atStart => exact ⟨0, 0, by omega, Lib.hid (by decide), rfl, rfl, Lib.hid rfl⟩
  case round =>
    obtain ⟨k, c, hk, HP, rfl, rfl, HC⟩ := hrel
    by_cases hlt : k < l.length
    · obtain ⟨a, rfl, hcell⟩ := HV.out k hlt
      have HN := Lib.hid (HC.out.trans (valOf_next hlt c))
      obtain ⟨x, hx⟩ : ∃ x, l[k] = x := ⟨_, rfl⟩
      rw [hx] at hcell HN
      have hx256 := x.toNat_lt
      have hc7 : c < 72057594037927936 := by
        have h1 := HP.out
        have h2 := Nat.pow_le_pow_right (n := 256) (by decide) (show k ≤ 7 by omega)
        have h3 : (256 : Nat) ^ 7 = 72057594037927936 := by decide
        omega
      have hor := or_add c x.toNat (by omega) hx256
      have HX := Lib.hid (pow_next HP.out x)
      clear hx HC HP hor
      have hor := or_add c x.toNat (by omega) hx256
      go_wp2
      go_round
      case rel => exact ⟨k + 1, c * 256 + x.toNat, by omega, HX, by go_num, by go_num, HN⟩
      case measure => simp [intOf]; omega
    · obtain rfl : k = l.length := by omega
      have h := HC.out
      rw [List.drop_length] at h
      have H := Lib.hid h
      clear h
      go_wp2
      go_ret
      exact ⟨by rw [H.out]; rfl, rfl⟩

/-- what a piece of a slice is -/
def pieceV (oa : Option Addr) (i many : Nat) : Value := .slice (if many = 0 then oa else oa.map (·.add i)) many many
theorem BytesAt.piece {w : World} {oa : Option Addr} {cap i many : Nat} {l : List UInt8} (h : BytesAt w (.slice oa l.length cap) l) (hi : i + many ≤ l.length) : BytesAt w (pieceV oa i many) ((l.drop i).take many) := by
  obtain ⟨ob, cap', he, _, hc⟩ := h
  cases he
  have hl : ((l.drop i).take many).length = many := by rw [List.length_take, List.length_drop]; omega
  refine ⟨_, many, by rw [hl]; rfl, by omega, fun j hj => ?_⟩
  rw [hl] at hj
  obtain ⟨a, rfl, ha⟩ := hc (i + j) (by omega)
  rw [if_neg (by omega)]
  refine ⟨_, rfl, ?_⟩
  rw [Addr.add_add, ha]
  simp

set_option maxHeartbeats 1000000 in
theorem piece_yes (oa : Option Addr) (n cap i many : Nat) (w : World) (hn : n ≤ 1000000) (hc : n ≤ cap) (hm : i + many ≤ n) :
    Calls Try.prog 28 #[.slice oa n cap, .int .i64 i, .int .u64 many] w fun e w' => e = .returned (.tuple #[pieceV oa i many, .bool true]) ∧ w = w' := by
  unfold pieceV
  by_cases h0 : many = 0
  · subst h0
    go_enter Try.func28, Try.ntmps28
    go_wp2
    go_ret2
    exact ⟨rfl, rfl⟩
  · have h1 : ¬ (i + many = i) := by omega
    rw [if_neg h0]
    go_enter Try.func28, Try.ntmps28
    go_wp2
    go_ret2
    refine ⟨?_, rfl⟩
    show Ending.returned (.tuple #[.slice _ (i + many - i) (i + many - i), .bool true]) = _
    rw [Nat.add_sub_cancel_left]
set_option maxHeartbeats 1000000 in
theorem piece_no (oa : Option Addr) (n cap i many : Nat) (w : World) (hn : n ≤ 1000000) (hi : i ≤ n) (hm : n < i + many) (h64 : many < 18446744073709551616) :
    Calls Try.prog 28 #[.slice oa n cap, .int .i64 i, .int .u64 many] w fun e w' => e = .returned (.tuple #[.slice none 0 0, .bool false]) ∧ w = w' := by
  go_enter Try.func28, Try.ntmps28
  go_wp2
  go_ret2
  exact ⟨rfl, rfl⟩

theorem quiet_sym {P : Program} {f : FuncId} {args : Array Value} {w : World} {n : Nat} {v : Value}
    (h : Calls P f args (w.drewN n) fun e w' => e = .returned v ∧ w.drewN n = w') : Calls P f args (w.drewN n) fun e w'' => e = .returned v ∧ ∃ m, w'' = w.drewN m :=
  h.mono fun _ _ ⟨he, hm⟩ => ⟨he, n, hm.symm⟩
/-- a reader in block R: its bytes, how many are taken -/
structure Rd (w : World) (R : Nat) (v : Value) (i : Nat) : Prop where
  bytes : w.cell? ⟨R, 0, none⟩ = some v
  pos : w.cell? ⟨R, 1, none⟩ = some (.int .i64 i)
  free : w.frozen? ⟨R, 1, none⟩ = false
/-- a reader that has taken up to k; all below it is as it was -/
def RdTo (w : World) (R : Nat) (v : Value) (k : Nat) (w' : World) : Prop := Rd w' R v k ∧ Below R w w'
theorem rd_to {w w' : World} {R i k q : Nat} {v : Value} (h : Rd w R v i) (e : (w.drewN q).setCell ⟨R, 1, none⟩ (.int .i64 k) = w') : RdTo w R v k w' := by
  subst e
  obtain ⟨h0, h1, h2⟩ := h
  exact ⟨⟨by simp [go_sem, h0], by simp [go_sem, h1], by simp [go_sem, h2]⟩, Below.setCell (p := (⟨R, 1, none⟩ : Addr)) (below_drewN (Below.refl R w) q) (Nat.le_refl R) _⟩
set_option maxHeartbeats 1000000 in
theorem take_yes (R : Nat) (oa : Option Addr) (n cap i many : Nat) (w : World) (hr : Rd w R (.slice oa n cap) i) (hn : n ≤ 1000000) (hc : n ≤ cap) (hm : i + many ≤ n) :
    Calls Try.prog 22 #[.pointer (some ⟨R, 0, none⟩), .int .u64 many] w fun e w' => e = .returned (.tuple #[pieceV oa i many, .bool true]) ∧ RdTo w R (.slice oa n cap) (i + many) w' := by
  have HR := Lib.hid hr
  obtain ⟨h0, h1, h2⟩ := hr
  have HC := Lib.hid (piece_yes oa n cap i many · hn hc hm)
  have hp : pieceV oa i many = .slice (if many = 0 then oa else oa.map (·.add i)) many many := rfl
  generalize (if many = 0 then oa else oa.map (·.add i)) = ob at hp
  rw [hp] at HC ⊢
  clear hp
  go_enter Try.func22, Try.ntmps22
  go_wp2_with fail
  go_quiet ((go_at_call 28; exact quiet_sym (HC.out _)))
  go_wp2_with fail
  go_ret2
  exact ⟨rfl, rd_to HR.out (by go_num)⟩
set_option maxHeartbeats 1000000 in
theorem take_no (R : Nat) (oa : Option Addr) (n cap i many : Nat) (w : World) (hr : Rd w R (.slice oa n cap) i) (hn : n ≤ 1000000) (hi : i ≤ n) (hm : n < i + many) (h64 : many < 18446744073709551616) :
    Calls Try.prog 22 #[.pointer (some ⟨R, 0, none⟩), .int .u64 many] w fun e w' => e = .returned (.tuple #[.slice none 0 0, .bool false]) ∧ RdTo w R (.slice oa n cap) i w' := by
  have HR := Lib.hid hr
  obtain ⟨h0, h1, h2⟩ := hr
  have HC := Lib.hid (piece_no oa n cap i many · hn hi hm h64)
  go_enter Try.func22, Try.ntmps22
  go_wp2_with fail
  go_quiet ((go_at_call 28; exact quiet_sym (HC.out _)))
  go_wp2_with fail
  go_ret2
  exact ⟨rfl, rd_to HR.out (by go_num)⟩
end Go.Proofs.Ytkjdhkpnbgflhaa
