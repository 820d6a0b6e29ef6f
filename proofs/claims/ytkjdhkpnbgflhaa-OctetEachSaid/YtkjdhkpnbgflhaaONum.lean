/-
  reader.number, ReadNumber.
-/
import Derived.Test.YtkjdhkpnbgflhaaORead
import Derived.ScopeJumps
import Derived.WalkMore
namespace Go.Proofs.Ytkjdhkpnbgflhaa
open Go.RowKit

/-- a scope out of which one way jumps ahead, to a label at its end -/
theorem wp_scope_ahead {P : Program} {a : Act} {w : World} {Q : Exit → Act → World → Prop} {c rest : Code} (l : Nat) (hf : findLabel c l = some rest)
    (h : c.wp P (Exit.jump l (fun a' w' => rest.wp P (Exit.jump l (fun _ _ => False) Q) a' w') Q) a w) : (Code.scope c).wp P Q a w := by
  refine wp_scope_jumps l (fun a' w' => rest.wp P (Exit.jump l (fun _ _ => False) Q) a' w') (fun _ _ => 0) hf h (fun a w hJ => ?_)
  refine wp_mono hJ (fun e a w he => ?_)
  cases e with
  | goto l' => exact he.2.elim
  | normal => exact he
  | exit => exact he
  | ret => exact he
  | panic => exact he
  | outgrown => exact he

/-- the bytes of a slice, all of them below block R -/
def BelowAt (w : World) (R : Nat) (oa : Option Addr) (l : List UInt8) : Prop := ∀ (j : Nat) (h : j < l.length), ∃ a, oa = some a ∧ a.block < R ∧ w.cell? (a.add j) = some (.int .u8 (l[j].toNat : Int))
theorem Addr.add_block (a : Addr) (j : Nat) : (a.add j).block = a.block := by
  unfold Addr.add
  split <;> rfl
theorem BelowAt.of {w w' : World} {R : Nat} {oa : Option Addr} {cap : Nat} {l : List UInt8} (h : BytesAt w (.slice oa l.length cap) l) (hR : R = w.heap.size) (hb : Below R w w') : BelowAt w' R oa l := by
  obtain ⟨ob, cap', he, _, hc⟩ := h
  cases he
  intro j hj
  obtain ⟨a, ha, hcell⟩ := hc j hj
  have hlt := World.block_lt_of_cell? w _ hcell
  rw [Addr.add_block] at hlt
  refine ⟨a, ha, by omega, ?_⟩
  rw [hb.cell (by rw [Addr.add_block]; omega)]
  exact hcell
theorem BelowAt.keep {w w' : World} {R : Nat} {oa : Option Addr} {l : List UInt8} (h : BelowAt w R oa l) (hb : Below R w w') : BelowAt w' R oa l := by
  intro j hj
  obtain ⟨a, ha, hR, hcell⟩ := h j hj
  exact ⟨a, ha, hR, by rw [hb.cell (by rw [Addr.add_block]; omega)]; exact hcell⟩
theorem BelowAt.bytes {w : World} {R : Nat} {oa : Option Addr} {l : List UInt8} (h : BelowAt w R oa l) {cap : Nat} (hc : l.length ≤ cap) : BytesAt w (.slice oa l.length cap) l :=
  ⟨oa, cap, rfl, hc, fun j hj => by obtain ⟨a, ha, _, hc⟩ := h j hj; exact ⟨a, ha, hc⟩⟩
theorem RdTo.trans {w w1 w2 : World} {R i j : Nat} {v : Value} (h : RdTo w R v i w1) (k : RdTo w1 R v j w2) : RdTo w R v j w2 := ⟨k.1, h.2.trans k.2⟩

set_option maxRecDepth 100000 in
set_option maxHeartbeats 1000000 in
theorem num_end (R : Nat) (oa : Option Addr) (cap i : Nat) (l : List UInt8) (w : World) (hr : Rd w R (.slice oa l.length cap) i) (_hb : BelowAt w R oa l) (hn : l.length ≤ 1000000) (_hc : l.length ≤ cap) (hi : i = l.length) :
    Calls Try.prog 16 #[.pointer (some ⟨R, 0, none⟩)] w fun e w' => e = .returned (.tuple #[.int .u64 0, .bool false]) ∧ ∃ k, RdTo w R (.slice oa l.length cap) k w' := by
  have HC := Lib.hid (take_no R oa l.length cap i 1 w hr hn (by omega) (by omega) (by omega))
  go_enter Try.func16, Try.ntmps16
  go_wp2_with fail
  refine wp_scope_ahead 0 rfl ?_
  go_wp2_with (first | (go_at_call 22; refine HC.out.mono ?_; rintro e w1 ⟨rfl, hw⟩; have HW := Lib.hid hw; clear hw))
  go_step3
  refine ⟨rfl, ?_⟩
  go_wp2
  simp only [Exit.jump]
  go_ret2
  exact ⟨rfl, _, HW.out⟩
set_option maxRecDepth 100000 in
set_option maxHeartbeats 1000000 in
theorem num_big (R : Nat) (oa : Option Addr) (cap i : Nat) (l : List UInt8) (w : World) (hr : Rd w R (.slice oa l.length cap) i) (hb : BelowAt w R oa l) (hn : l.length ≤ 1000000) (hc : l.length ≤ cap) (hi : i < l.length) (hhd : 8 < l[i].toNat) :
    Calls Try.prog 16 #[.pointer (some ⟨R, 0, none⟩)] w fun e w' => e = .returned (.tuple #[.int .u64 0, .bool false]) ∧ ∃ k, RdTo w R (.slice oa l.length cap) k w' := by
  obtain ⟨a, rfl, haR, hcell⟩ := hb i hi
  have h1c : (l[i].toNat : Int) < 256 := by have := l[i].toNat_lt; omega
  have HB := Lib.hid hb
  have HC := Lib.hid (take_yes R (some a) l.length cap i 1 w hr hn hc (by omega))
  rw [show pieceV (some a) i 1 = .slice (some (a.add i)) 1 1 from rfl] at HC
  obtain ⟨h, hh⟩ : ∃ h, l[i] = h := ⟨_, rfl⟩
  rw [hh] at hcell h1c hhd
  have HH := Lib.hid hh
  clear hh hb
  go_enter Try.func16, Try.ntmps16
  go_wp2_with fail
  refine wp_scope_ahead 0 rfl ?_
  go_wp2_with fail
  refine HC.out.mono ?_
  rintro e w1 ⟨rfl, hw⟩
  have hcell1 : w1.cell? (a.add i) = some (.int .u8 (h.toNat : Int)) := by rw [hw.2.cell (by rw [Addr.add_block]; omega)]; exact hcell
  have HW := Lib.hid hw
  clear hw hcell
  go_wp2_with fail
  go_step3
  refine ⟨rfl, ?_⟩
  go_wp2
  simp only [Exit.jump]
  go_ret2
  exact ⟨rfl, _, HW.out⟩
set_option maxRecDepth 100000 in
set_option maxHeartbeats 1000000 in
theorem num_short (R : Nat) (oa : Option Addr) (cap i : Nat) (l : List UInt8) (w : World) (hr : Rd w R (.slice oa l.length cap) i) (hb : BelowAt w R oa l) (hn : l.length ≤ 1000000) (hc : l.length ≤ cap) (hi : i < l.length) (hhd : l[i].toNat ≤ 8) (hsh : l.length < i + 1 + l[i].toNat) :
    Calls Try.prog 16 #[.pointer (some ⟨R, 0, none⟩)] w fun e w' => e = .returned (.tuple #[.int .u64 0, .bool false]) ∧ ∃ k, RdTo w R (.slice oa l.length cap) k w' := by
  obtain ⟨a, rfl, haR, hcell⟩ := hb i hi
  have h1c : (l[i].toNat : Int) < 256 := by have := l[i].toNat_lt; omega
  have HB := Lib.hid hb
  have HC := Lib.hid (take_yes R (some a) l.length cap i 1 w hr hn hc (by omega))
  rw [show pieceV (some a) i 1 = .slice (some (a.add i)) 1 1 from rfl] at HC
  obtain ⟨h, hh⟩ : ∃ h, l[i] = h := ⟨_, rfl⟩
  rw [hh] at hcell h1c hhd hsh
  have HH := Lib.hid hh
  clear hh hb
  go_enter Try.func16, Try.ntmps16
  go_wp2_with fail
  refine wp_scope_ahead 0 rfl ?_
  go_wp2_with fail
  refine HC.out.mono ?_
  rintro e w1 ⟨rfl, hw⟩
  have hcell1 : w1.cell? (a.add i) = some (.int .u8 (h.toNat : Int)) := by rw [hw.2.cell (by rw [Addr.add_block]; omega)]; exact hcell
  have HW := Lib.hid hw
  clear hw hcell
  have HC2 := Lib.hid (take_no R (some a) l.length cap (i + 1) h.toNat w1 HW.out.1 hn (by omega) hsh (by omega))
  go_wp2_with fail
  refine HC2.out.mono ?_
  rintro e w2 ⟨rfl, hw2⟩
  have HW2 := Lib.hid (HW.out.trans hw2)
  clear hw2
  go_wp2_with fail
  go_step3
  refine ⟨rfl, ?_⟩
  go_wp2
  simp only [Exit.jump]
  go_ret2
  exact ⟨rfl, _, HW2.out⟩
set_option maxRecDepth 100000 in
set_option maxHeartbeats 1000000 in
theorem num_zero (R : Nat) (oa : Option Addr) (cap i : Nat) (l : List UInt8) (w : World) (hr : Rd w R (.slice oa l.length cap) i) (hb : BelowAt w R oa l) (hn : l.length ≤ 1000000) (hc : l.length ≤ cap) (hi : i < l.length) (hhd : l[i].toNat ≤ 8) (hsh : i + 1 + l[i].toNat ≤ l.length) (hp : l[i].toNat = 0) :
    Calls Try.prog 16 #[.pointer (some ⟨R, 0, none⟩)] w fun e w' => e = .returned (.tuple #[.int .u64 (valOf ((l.drop (i + 1)).take l[i].toNat) 0 : Nat), .bool true]) ∧ RdTo w R (.slice oa l.length cap) (i + 1 + l[i].toNat) w' := by
  obtain ⟨a, rfl, haR, hcell⟩ := hb i hi
  have h1c : (l[i].toNat : Int) < 256 := by have := l[i].toNat_lt; omega
  have HB := Lib.hid hb
  have HC := Lib.hid (take_yes R (some a) l.length cap i 1 w hr hn hc (by omega))
  rw [show pieceV (some a) i 1 = .slice (some (a.add i)) 1 1 from rfl] at HC
  have HP : Hid (pieceV (some a) (i + 1) l[i].toNat = .slice (some a) l[i].toNat l[i].toNat) := Lib.hid (by unfold pieceV; rw [if_pos hp])
  obtain ⟨h, hh⟩ : ∃ h, l[i] = h := ⟨_, rfl⟩
  rw [hh] at hcell h1c hhd hsh hp HP ⊢
  have HH := Lib.hid hh
  have HP0 := Lib.hid hp
  have hp0 : ((h.toNat : Int)) ≤ 0 := by omega
  clear hh hb hp
  go_enter Try.func16, Try.ntmps16
  go_wp2_with fail
  refine wp_scope_ahead 0 rfl ?_
  go_wp2_with fail
  refine HC.out.mono ?_
  rintro e w1 ⟨rfl, hw⟩
  have hcell1 : w1.cell? (a.add i) = some (.int .u8 (h.toNat : Int)) := by rw [hw.2.cell (by rw [Addr.add_block]; omega)]; exact hcell
  have HW := Lib.hid hw
  have hc2 := take_yes R (some a) l.length cap (i + 1) h.toNat w1 hw.1 hn hc hsh
  rw [HP.out] at hc2
  have HC2 := Lib.hid hc2
  clear hw hcell hc2
  go_wp2_with fail
  refine HC2.out.mono ?_
  rintro e w2 ⟨rfl, hw2⟩
  have hw2' := HW.out.trans hw2
  have hb2 := ((HB.out.keep hw2'.2).bytes hc).piece hsh
  rw [HP.out] at hb2
  have HJ := Lib.hid (join_any _ _ w2 hb2 (by rw [List.length_take]; omega))
  have HW2 := Lib.hid hw2'
  clear hw2 hw2' hb2
  go_wp2_with (first | (go_at_call 23; refine HJ.out.mono ?_; rintro e w' ⟨rfl, rfl⟩))
  try simp only [Exit.jump]
  go_ret2
  exact ⟨rfl, HW2.out⟩
set_option maxRecDepth 100000 in
set_option maxHeartbeats 1000000 in
theorem num_ok (R : Nat) (oa : Option Addr) (cap i : Nat) (l : List UInt8) (w : World) (hr : Rd w R (.slice oa l.length cap) i) (hb : BelowAt w R oa l) (hn : l.length ≤ 1000000) (hc : l.length ≤ cap) (hi : i < l.length) (hhd : l[i].toNat ≤ 8) (hsh : i + 1 + l[i].toNat ≤ l.length) (hp : 0 < l[i].toNat) (hl0 : l[i + 1] ≠ 0) :
    Calls Try.prog 16 #[.pointer (some ⟨R, 0, none⟩)] w fun e w' => e = .returned (.tuple #[.int .u64 (valOf ((l.drop (i + 1)).take l[i].toNat) 0 : Nat), .bool true]) ∧ RdTo w R (.slice oa l.length cap) (i + 1 + l[i].toNat) w' := by
  obtain ⟨a, rfl, haR, hcell⟩ := hb i hi
  have h1c : (l[i].toNat : Int) < 256 := by have := l[i].toNat_lt; omega
  obtain ⟨a', ha', _, hcell0⟩ := hb (i + 1) (by omega)
  cases ha'
  have hld : ((l[i + 1].toNat : Int) == 0) = false := by
    rw [beq_eq_false_iff_ne]
    intro he
    exact hl0 (UInt8.toNat_inj.1 (show l[i + 1].toNat = (0 : UInt8).toNat by show l[i + 1].toNat = 0; omega))
  have h2c : (l[i + 1].toNat : Int) < 256 := by have := l[i + 1].toNat_lt; omega
  obtain ⟨x, hx⟩ : ∃ x, l[i + 1] = x := ⟨_, rfl⟩
  rw [hx] at hcell0 hld h2c
  clear hx hl0
  have HB := Lib.hid hb
  have HC := Lib.hid (take_yes R (some a) l.length cap i 1 w hr hn hc (by omega))
  rw [show pieceV (some a) i 1 = .slice (some (a.add i)) 1 1 from rfl] at HC
  have HP : Hid (pieceV (some a) (i + 1) l[i].toNat = .slice (some ⟨a.block, a.off + (i + 1), none⟩) l[i].toNat l[i].toNat) := Lib.hid (by unfold pieceV; rw [if_neg (by omega)]; show Value.slice (some (a.add (i + 1))) _ _ = _; rw [Addr.add_succ'])
  obtain ⟨h, hh⟩ : ∃ h, l[i] = h := ⟨_, rfl⟩
  rw [hh] at hcell h1c hhd hsh hp HP ⊢
  have HH := Lib.hid hh
  clear hh hb
  go_enter Try.func16, Try.ntmps16
  go_wp2_with fail
  refine wp_scope_ahead 0 rfl ?_
  go_wp2_with fail
  refine HC.out.mono ?_
  rintro e w1 ⟨rfl, hw⟩
  have hcell1 : w1.cell? (a.add i) = some (.int .u8 (h.toNat : Int)) := by rw [hw.2.cell (by rw [Addr.add_block]; omega)]; exact hcell
  have HW := Lib.hid hw
  have hc2 := take_yes R (some a) l.length cap (i + 1) h.toNat w1 hw.1 hn hc hsh
  rw [HP.out] at hc2
  have HC2 := Lib.hid hc2
  clear hw hcell hc2
  go_wp2_with fail
  refine HC2.out.mono ?_
  rintro e w2 ⟨rfl, hw2⟩
  have hw2' := HW.out.trans hw2
  have hb2 := ((HB.out.keep hw2'.2).bytes hc).piece hsh
  rw [HP.out] at hb2
  have HJ := Lib.hid (join_any _ _ w2 hb2 (by rw [List.length_take]; omega))
  have hcell2 : w2.cell? ⟨a.block, a.off + (i + 1), none⟩ = some (.int .u8 (x.toNat : Int)) := by rw [← Addr.add_succ', hw2'.2.cell (by rw [Addr.add_block]; omega)]; exact hcell0
  have HW2 := Lib.hid hw2'
  clear hw2 hw2' hb2
  go_wp2_with (first | (go_at_call 23; refine HJ.out.mono ?_; rintro e w' ⟨rfl, rfl⟩))
  try simp only [Exit.jump]
  go_ret2
  exact ⟨rfl, HW2.out⟩
set_option maxRecDepth 100000 in
set_option maxHeartbeats 1000000 in
theorem num_lead (R : Nat) (oa : Option Addr) (cap i : Nat) (l : List UInt8) (w : World) (hr : Rd w R (.slice oa l.length cap) i) (hb : BelowAt w R oa l) (hn : l.length ≤ 1000000) (hc : l.length ≤ cap) (hi : i < l.length) (hhd : l[i].toNat ≤ 8) (hsh : i + 1 + l[i].toNat ≤ l.length) (hp : 0 < l[i].toNat) (hl0 : l[i + 1] = 0) :
    Calls Try.prog 16 #[.pointer (some ⟨R, 0, none⟩)] w fun e w' => e = .returned (.tuple #[.int .u64 0, .bool false]) ∧ ∃ k, RdTo w R (.slice oa l.length cap) k w' := by
  obtain ⟨a, rfl, haR, hcell⟩ := hb i hi
  have h1c : (l[i].toNat : Int) < 256 := by have := l[i].toNat_lt; omega
  obtain ⟨a', ha', _, hcell0⟩ := hb (i + 1) (by omega)
  cases ha'
  have hld : ((l[i + 1].toNat : Int) == 0) = true := by rw [hl0]; rfl
  have h2c : (l[i + 1].toNat : Int) < 256 := by have := l[i + 1].toNat_lt; omega
  obtain ⟨x, hx⟩ : ∃ x, l[i + 1] = x := ⟨_, rfl⟩
  rw [hx] at hcell0 hld h2c
  clear hx hl0
  have HB := Lib.hid hb
  have HC := Lib.hid (take_yes R (some a) l.length cap i 1 w hr hn hc (by omega))
  rw [show pieceV (some a) i 1 = .slice (some (a.add i)) 1 1 from rfl] at HC
  have HP : Hid (pieceV (some a) (i + 1) l[i].toNat = .slice (some ⟨a.block, a.off + (i + 1), none⟩) l[i].toNat l[i].toNat) := Lib.hid (by unfold pieceV; rw [if_neg (by omega)]; show Value.slice (some (a.add (i + 1))) _ _ = _; rw [Addr.add_succ'])
  obtain ⟨h, hh⟩ : ∃ h, l[i] = h := ⟨_, rfl⟩
  rw [hh] at hcell h1c hhd hsh hp HP
  have HH := Lib.hid hh
  clear hh hb
  go_enter Try.func16, Try.ntmps16
  go_wp2_with fail
  refine wp_scope_ahead 0 rfl ?_
  go_wp2_with fail
  refine HC.out.mono ?_
  rintro e w1 ⟨rfl, hw⟩
  have hcell1 : w1.cell? (a.add i) = some (.int .u8 (h.toNat : Int)) := by rw [hw.2.cell (by rw [Addr.add_block]; omega)]; exact hcell
  have HW := Lib.hid hw
  have hc2 := take_yes R (some a) l.length cap (i + 1) h.toNat w1 hw.1 hn hc hsh
  rw [HP.out] at hc2
  have HC2 := Lib.hid hc2
  clear hw hcell hc2
  go_wp2_with fail
  refine HC2.out.mono ?_
  rintro e w2 ⟨rfl, hw2⟩
  have hw2' := HW.out.trans hw2
  have hb2 := ((HB.out.keep hw2'.2).bytes hc).piece hsh
  rw [HP.out] at hb2
  have HJ := Lib.hid (join_any _ _ w2 hb2 (by rw [List.length_take]; omega))
  have hcell2 : w2.cell? ⟨a.block, a.off + (i + 1), none⟩ = some (.int .u8 (x.toNat : Int)) := by rw [← Addr.add_succ', hw2'.2.cell (by rw [Addr.add_block]; omega)]; exact hcell0
  have HW2 := Lib.hid hw2'
  clear hw2 hw2' hb2
  go_wp2_with fail
  go_step3
  refine ⟨rfl, ?_⟩
  go_wp2
  simp only [Exit.jump]
  go_ret2
  exact ⟨rfl, _, HW2.out⟩
end Go.Proofs.Ytkjdhkpnbgflhaa
