/-
  octet.Fixed; bytes in memory, as a string.
-/
import Derived.Test.YtkjdhkpnbgflhaaORNum
import Derived.Lib.SlBytesConst
namespace Go.Proofs.Ytkjdhkpnbgflhaa
open Go.RowKit

/-- string(b) -/
theorem bytes_string {w : World} {v : Value} {l : List UInt8} (h : BytesAt w v l) : (convert 22 9 v).run Try.prog w = .ok (.string ⟨l.toArray⟩) w := by
  obtain ⟨oa, cap, rfl, _, hc⟩ := h
  cases oa with
  | none =>
    obtain rfl : l = [] := by
      cases l with
      | nil => rfl
      | cons x l => obtain ⟨a, ha, _⟩ := hc 0 (by simp); cases ha
    rw [run_convert_bytes_string w 22 9 5 none _ cap Try.underlying22 Try.underlying5 Try.underlying9]
    rfl
  | some a =>
    refine run_convert_bytes_back w 22 9 5 a cap l Try.underlying22 Try.underlying5 Try.underlying9 (fun j hj => ?_)
    obtain ⟨a', ha, hcell⟩ := hc j hj
    cases ha
    exact hcell
theorem NewBytes.at {w w' : World} {l : List UInt8} {v : Value} (h : NewBytes w w' l v) : BytesAt w' v l ∧ Below w.heap.size w w' := by
  obtain ⟨g, room, hg, rfl, hown, hb⟩ := h
  have hcap : l.length ≤ room := by
    rcases hown.2 with ⟨h, _⟩ | ⟨g', cap, cur, he, _, _, hn, _⟩
    · cases h
    · cases he; exact hn
  refine ⟨⟨_, room, rfl, hcap, fun j hj => ⟨_, rfl, ?_⟩⟩, hb⟩
  rw [hown.cells rfl j _ (by unfold u8s; rw [List.getElem?_map, List.getElem?_eq_getElem hj]; rfl)]
theorem bytes_nil (w : World) : BytesAt w (.slice none 0 0) [] := ⟨none, 0, rfl, by simp, fun j h => by simp at h⟩

/-- Fixed's error -/
def fixNo (n : Nat) (many : Int) : Int := if many < 1 ∨ 8 < many then 2 else if many < sizeOf8 n then 4 else 0
def fixL (n : Nat) (many : Int) : List UInt8 := if fixNo n many = 0 then tellL n many.toNat else []
set_option maxRecDepth 100000 in
set_option maxHeartbeats 1000000 in
theorem Fixed_any (n : Nat) (many : Int) (w : World) (hn : n < 18446744073709551616) :
    Calls Try.prog 8 #[.int .u64 n, .int .i64 many] w fun e w' => ∃ v, e = .returned (.tuple #[v, .int .i64 (fixNo n many)]) ∧ BytesAt w' v (fixL n many) ∧ Below w.heap.size w w' := by
  by_cases h1 : many < 1
  · have hno : fixNo n many = 2 := by unfold fixNo; rw [if_pos (.inl h1)]
    have hl : fixL n many = [] := by unfold fixL; rw [hno]; rfl
    rw [hno, hl]
    clear hno hl
    go_enter Try.func8, Try.ntmps8
    go_wp2
    go_ret2
    exact ⟨_, rfl, bytes_nil _, Below.refl _ _⟩
  · by_cases h8 : 8 < many
    · have hno : fixNo n many = 2 := by unfold fixNo; rw [if_pos (.inr h8)]
      have hl : fixL n many = [] := by unfold fixL; rw [hno]; rfl
      rw [hno, hl]
      clear hno hl
      go_enter Try.func8, Try.ntmps8
      go_wp2
      go_ret2
      exact ⟨_, rfl, bytes_nil _, Below.refl _ _⟩
    · obtain ⟨m, rfl⟩ := Int.eq_ofNat_of_zero_le (show 0 ≤ many by omega)
      obtain ⟨k, hk⟩ : ∃ k, sizeOf8 n = k := ⟨_, rfl⟩
      have Z := fun w => size_any n w hn
      rw [hk] at Z
      have HZ := Lib.hid Z
      clear Z
      by_cases h4 : (m : Int) < k
      · have hno : fixNo n m = 4 := by unfold fixNo; rw [if_neg (by omega), hk, if_pos h4]
        have hl : fixL n m = [] := by unfold fixL; rw [hno]; rfl
        rw [hno, hl]
        clear hno hl hk
        go_enter Try.func8, Try.ntmps8
        go_wp2_with (first | (go_at_call 17; refine (HZ.out _).mono ?_; rintro e w' ⟨rfl, rfl⟩))
        go_ret2
        exact ⟨_, rfl, bytes_nil _, Below.refl _ _⟩
      · have hno : fixNo n m = 0 := by unfold fixNo; rw [if_neg (by omega), hk, if_neg h4]
        have hl : fixL n m = tellL n m := by unfold fixL; rw [hno]; rfl
        rw [hno, hl]
        clear hno hl hk
        obtain ⟨i0, hi0, hz0, hz1, hz2⟩ := info_parts infoU8
        have HN := Lib.hid hn
        clear hn
        go_enter Try.func8, Try.ntmps8
        go_wp2_with (first | (go_at_call 17; refine (HZ.out _).mono ?_; rintro e w' ⟨rfl, rfl⟩) | (at_make; refine wpList_make_own _ rfl _ _ 22 rfl w.heap.size 5 i0 (.int .u8 0) 1 Try.underlying22 hi0 hz0 hz1 _ _ _ m rfl rfl ?c1 ?c2 ?c3 ?c4 ?_))
        case c1 => omega
        case c2 => rw [hz2]; omega
        case c3 => unfold maxLen; omega
        case c4 => simp
        intro w1 hown1 hg1
        have HB := Lib.hid (buf_new hown1 hg1)
        have h1 := hg1.size
        clear hown1 hg1
        have HC := Lib.hid (tellU_F w.heap.size w1.heap.size w.heap.size m m n [] _ (fun l c W h hr hN => put_F w1.heap.size w.heap.size m w.heap.size l c W h hr hN) HB.out.1 (by simp) (by simp; omega) (by omega) HN.out)
        go_wp2_with (first | (go_at_call 18; refine HC.out.mono ?_; rintro e w2 ⟨rfl, hb2, hbw2⟩; have hc := buf_cell hb2 (show ([] ++ tellL n m).length = m by simp [tellL_length])))
        go_ret2
        have hl := tellL_length n m
        have hN : NewBytes w w2 (tellL n m) (.slice (some ⟨w.heap.size, 0, none⟩) m m) := by
          have := hb2.own
          rw [List.nil_append, hl] at this
          exact ⟨w.heap.size, m, Nat.le_refl _, by rw [hl], by rw [hl]; exact this, HB.out.2.trans hbw2⟩
        exact ⟨_, rfl, hN.at.1, hN.at.2⟩

/-- a list of bytes written out -/
theorem bytes_lit (W : World) (l : List UInt8) (cs : Array Value) (n : Nat) (hc : cs = (u8s l).toArray) (hn : l.length = n) : BytesAt (W.alloc (.cells cs 5)) (.slice (some ⟨W.heap.size, 0, none⟩) n n) l := by
  subst hn hc
  refine ⟨_, _, rfl, Nat.le_refl _, fun j hj => ⟨_, rfl, ?_⟩⟩
  rw [Addr.add_lit, Nat.zero_add, World.cell?_alloc_new]
  simp [u8s, hj]
theorem bytes_litc (W : World) (l : List UInt8) (cs : Array Value) (n : Nat) (hc : cs = (u8s l).toArray) (hn : l.length = n) : BytesAt (W.alloc (.cells cs 5 (n, n + 1))) (.slice (some ⟨W.heap.size, 0, none⟩) n n) l := by
  subst hn hc
  refine ⟨_, _, rfl, Nat.le_refl _, fun j hj => ⟨_, rfl, ?_⟩⟩
  rw [Addr.add_lit, Nat.zero_add, cell_of_row _ _ j _ _ _ (heap_alloc_new W _)]
  simp [u8s, hj]
theorem BytesAt.keep {w w' : World} {v : Value} {l : List UInt8} {B : Nat} (h : BytesAt w v l) (hb : Below B w w') (hB : w.heap.size ≤ B) : BytesAt w' v l := by
  obtain ⟨oa, cap, rfl, hl, hc⟩ := h
  refine ⟨oa, cap, rfl, hl, fun j hj => ?_⟩
  obtain ⟨a, ha, hcell⟩ := hc j hj
  exact ⟨a, ha, by rw [hb.cell (by have := World.block_lt_of_cell? w _ hcell; omega)]; exact hcell⟩
theorem below_alloc {W w' : World} {o : Obj} (h : Below (W.alloc o).heap.size (W.alloc o) w') : Below W.heap.size W w' := ((Below.refl _ _).alloc (Nat.le_refl _) _).trans (h.mono (by simp))
end Go.Proofs.Ytkjdhkpnbgflhaa
