/-
  reader.number whole; ReadNumber.
-/
import Derived.Test.YtkjdhkpnbgflhaaONum
namespace Go.Proofs.Ytkjdhkpnbgflhaa
open Go.RowKit

theorem readN_drop {l : List UInt8} {i : Nat} (h : i < l.length) : readN (l.drop i) = if l[i].toNat ≤ 8 ∧ i + 1 + l[i].toNat ≤ l.length ∧ ¬ (0 < l[i].toNat ∧ l[i + 1]? = some 0) then some (valOf ((l.drop (i + 1)).take l[i].toNat) 0, 1 + l[i].toNat) else none := by
  rw [List.drop_eq_getElem_cons h, readN_cons]
  have e : (l[i].toNat ≤ 8 ∧ l[i].toNat ≤ (l.drop (i + 1)).length ∧ ¬ (0 < l[i].toNat ∧ (l.drop (i + 1)).head? = some 0)) ↔ (l[i].toNat ≤ 8 ∧ i + 1 + l[i].toNat ≤ l.length ∧ ¬ (0 < l[i].toNat ∧ l[i + 1]? = some 0)) := by
    rw [List.length_drop, List.head?_drop]
    constructor
    · rintro ⟨a, b, c⟩; exact ⟨a, by omega, c⟩
    · rintro ⟨a, b, c⟩; exact ⟨a, by omega, c⟩
  by_cases c : l[i].toNat ≤ 8 ∧ i + 1 + l[i].toNat ≤ l.length ∧ ¬ (0 < l[i].toNat ∧ l[i + 1]? = some 0)
  · rw [if_pos c, if_pos (e.2 c)]
  · rw [if_neg c, if_neg (fun h => c (e.1 h))]
theorem num_none (R : Nat) (oa : Option Addr) (cap i : Nat) (l : List UInt8) (w : World) (hr : Rd w R (.slice oa l.length cap) i) (hb : BelowAt w R oa l) (hn : l.length ≤ 1000000) (hc : l.length ≤ cap) (hi : i ≤ l.length) (h : readN (l.drop i) = none) :
    Calls Try.prog 16 #[.pointer (some ⟨R, 0, none⟩)] w fun e w' => e = .returned (.tuple #[.int .u64 0, .bool false]) ∧ ∃ k, RdTo w R (.slice oa l.length cap) k w' := by
  by_cases hlt : i < l.length
  · rw [readN_drop hlt] at h
    split at h
    · cases h
    · rename_i hno
      by_cases h8 : l[i].toNat ≤ 8
      · by_cases hs : i + 1 + l[i].toNat ≤ l.length
        · have hp : 0 < l[i].toNat ∧ l[i + 1]? = some 0 := by
            rcases Classical.em (0 < l[i].toNat ∧ l[i + 1]? = some 0) with hp | hp
            · exact hp
            · exact absurd ⟨h8, hs, hp⟩ hno
          have hlt1 : i + 1 < l.length := by omega
          have h0 : l[i + 1] = 0 := by
            have := hp.2
            rw [List.getElem?_eq_getElem hlt1] at this
            exact Option.some.inj this
          exact num_lead R oa cap i l w hr hb hn hc hlt h8 hs hp.1 h0
        · exact num_short R oa cap i l w hr hb hn hc hlt h8 (by omega)
      · exact num_big R oa cap i l w hr hb hn hc hlt (by omega)
  · exact num_end R oa cap i l w hr hb hn hc (by omega)
theorem num_some (R : Nat) (oa : Option Addr) (cap i : Nat) (l : List UInt8) (w : World) (n k : Nat) (hr : Rd w R (.slice oa l.length cap) i) (hb : BelowAt w R oa l) (hn : l.length ≤ 1000000) (hc : l.length ≤ cap) (h : readN (l.drop i) = some (n, k)) :
    Calls Try.prog 16 #[.pointer (some ⟨R, 0, none⟩)] w fun e w' => e = .returned (.tuple #[.int .u64 n, .bool true]) ∧ RdTo w R (.slice oa l.length cap) (i + k) w' := by
  have hlt : i < l.length := by
    rcases Nat.lt_or_ge i l.length with h1 | h1
    · exact h1
    · rw [List.drop_eq_nil_of_le h1] at h; cases h
  rw [readN_drop hlt] at h
  split at h
  · rename_i hyes
    simp only [Option.some.injEq, Prod.mk.injEq] at h
    obtain ⟨rfl, rfl⟩ := h
    obtain ⟨h8, hs, hp⟩ := hyes
    rw [← Nat.add_assoc]
    by_cases h0 : l[i].toNat = 0
    · exact num_zero R oa cap i l w hr hb hn hc hlt h8 hs h0
    · have hlt1 : i + 1 < l.length := by omega
      exact num_ok R oa cap i l w hr hb hn hc hlt h8 hs (by omega) (fun he => hp ⟨by omega, by rw [List.getElem?_eq_getElem hlt1, he]⟩)
  · cases h

/-- a result of ReadNumber -/
def rdRes : Option (Nat × Nat) → Value
  | some (n, k) => .tuple #[.int .u64 n, .int .i64 k, .int .i64 0]
  | none => .tuple #[.int .u64 0, .int .i64 0, .int .i64 120]
theorem rd_new (w : World) (v : Value) : Rd (w.alloc (.cells #[v, .int .i64 0] 48)) w.heap.size v 0 := ⟨by simp [go_sem], by simp [go_sem], by simp [go_sem]⟩
set_option maxRecDepth 100000 in
set_option maxHeartbeats 1000000 in
theorem ReadNumber_any (v : Value) (l : List UInt8) (w : World) (hv : BytesAt w v l) (hn : l.length ≤ 1000000) :
    Calls Try.prog 7 #[v] w fun e w' => e = .returned (rdRes (readN l)) ∧ Below w.heap.size w w' := by
  have hv' := hv
  obtain ⟨oa, cap, rfl, hc, _⟩ := hv'
  have hb := BelowAt.of (w' := w.alloc (.cells #[.slice oa l.length cap, .int .i64 0] 48)) hv rfl ((Below.refl _ _).alloc (Nat.le_refl _) _)
  have hr := rd_new w (.slice oa l.length cap)
  cases hres : readN l with
  | none =>
    have C := Lib.hid (num_none w.heap.size oa cap 0 l _ hr hb hn hc (by omega) hres)
    clear hv hb hr hres
    go_enter Try.func7, Try.ntmps7
    go_wp2_with (first | (go_at_call 16; refine C.out.mono ?_; rintro e w1 ⟨rfl, k, hw⟩; have HW := Lib.hid hw; clear hw))
    go_ret3
    exact ⟨rfl, ((Below.refl _ _).alloc (Nat.le_refl _) _).trans HW.out.2⟩
  | some x =>
    obtain ⟨n, k⟩ := x
    have C := Lib.hid (num_some w.heap.size oa cap 0 l _ n k hr hb hn hc hres)
    rw [Nat.zero_add] at C
    clear hv hb hr hres
    go_enter Try.func7, Try.ntmps7
    go_wp2_with (first | (go_at_call 16; refine C.out.mono ?_; rintro e w1 ⟨rfl, hw⟩; have hpos := hw.1.pos; have HW := Lib.hid hw; clear hw))
    go_quiet (fail)
    go_wp2
    go_ret3
    exact ⟨rfl, below_drewN (((Below.refl _ _).alloc (Nat.le_refl _) _).trans HW.out.2) _⟩
end Go.Proofs.Ytkjdhkpnbgflhaa
