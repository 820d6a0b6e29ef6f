/-
  octet.size, the closures that lay a byte, tell, lay, Number.
-/
import Derived.Test.YtkjdhkpnbgflhaaBase
import Derived.Test.YtkjdhkpnbgflhaaOPure
import Derived.Test.YtkjdhkpnbgflhaaShelf
import Derived.Deep.DeepAppendRoom
import Derived.Deep.AppendLies
import Derived.OneCell
import Derived.RangeFuncBox
namespace Go.Proofs.Ytkjdhkpnbgflhaa
open Go.RowKit

theorem infoU8 : (Try.prog.info? 5).map (fun i => (i.zero, i.size, i.bytes)) = some (some (.int .u8 0), 1, 1) := by kernel_rfl
def u8s (l : List UInt8) : List Value := l.map fun b => Value.int .u8 b.toNat
theorem u8s_length (l : List UInt8) : (u8s l).length = l.length := by simp [u8s]

theorem ret_i {k : IntKind} {a b : Int} (h : a = b) : Ending.returned (.int k a) = .returned (.int k b) := by rw [h]
set_option maxHeartbeats 400000 in
theorem size_any (n : Nat) (w : World) (hn : n < 18446744073709551616) :
    Calls Try.prog 17 #[.int .u64 n] w fun e w' => e = .returned (.int .i64 (sizeOf8 n)) ∧ w = w' := by
  have hb := Lib.bitLen_le n 64 (Nat.le_refl _) hn
  have C := Try.bits_Len64 n w (by omega) (by omega)
  rw [Int.toNat_natCast] at C
  unfold sizeOf8
  have HC := Lib.hid C
  clear C hn
  go_enter Try.func17, Try.ntmps17
  go_wp2_with (first | (go_at_call 24; refine HC.out.mono ?_; rintro e w' ⟨rfl, rfl⟩))
  go_ret
  exact ⟨ret_i (by omega), rfl⟩

/-- cell B holds a slice of room cap that owns the bytes l -/
structure Buf (w : World) (N B g cap : Nat) (l : List UInt8) : Prop where
  box : w.heap[B]? = some (.cells #[.slice (some ⟨g, 0, none⟩) l.length cap] 22 (0, 0))
  ne : B ≠ g
  lo : N ≤ B
  own : w.ownsRow N 5 1 (.slice (some ⟨g, 0, none⟩) l.length cap) l.length (u8s l)
theorem Buf.lg {w : World} {N B g cap : Nat} {l : List UInt8} (h : Buf w N B g cap l) : N ≤ g ∧ g < w.heap.size := h.own.lt g rfl
theorem Buf.lB {w : World} {N B g cap : Nat} {l : List UInt8} (h : Buf w N B g cap l) : B < w.heap.size := (Array.getElem?_eq_some_iff.1 h.box).1

theorem buf_put {w w1 w' : World} {N B g cap : Nat} {l : List UInt8} {c : UInt8} {o : Obj} (h : Buf w N B g cap l) (hN : N ≤ w.heap.size)
    (hown : w1.ownsRow N 5 1 (.slice (some ⟨g, 0, none⟩) (l.length + 1) cap) (l.length + 1) (u8s l ++ [.int .u8 c.toNat])) (hg : (w.alloc o).grownBy w1 (some g))
    (he : w1.setCell ⟨B, 0, none⟩ (.slice (some ⟨g, 0, none⟩) (l.length + 1) cap) = w') : Buf w' N B g cap (l ++ [c]) ∧ Below N w w' := by
  subst he
  have hB := h.lB
  have hlg := h.lg
  have hb1 : w1.heap[B]? = some (.cells #[.slice (some ⟨g, 0, none⟩) l.length cap] 22 (0, 0)) := by
    rw [hg.block B (by simp; omega) (by have := h.ne; simpa using this), heap_alloc_old w o hB]
    exact h.box
  have e1 : (l ++ [c]).length = l.length + 1 := by simp
  have e2 : u8s (l ++ [c]) = u8s l ++ [.int .u8 c.toNat] := by simp [u8s]
  have hbw : Below N w w1 := ((Below.refl _ _).alloc hN o).grown hg (by simp; omega) (fun x hx => by cases hx; exact hlg.1)
  refine ⟨⟨by rw [e1]; exact one_setCell hb1, h.ne, h.lo, ?_⟩, hbw.setCell h.lo _⟩
  rw [e1, e2]
  exact hown.kept (grownBy_setCell' _ _ _) (.inr (by simp only [Value.ownBlock]; intro e; exact h.ne (by cases e; rfl)))
set_option maxHeartbeats 400000 in
theorem put_U (B g cap N : Nat) (l : List UInt8) (c : UInt8) (w : World) (h : Buf w N B g cap l) (hr : l.length < cap) (hN : N ≤ w.heap.size) :
    Calls Try.prog 25 #[.int .u8 c.toNat, .pointer (some ⟨B, 0, none⟩)] w fun e w' => e = .returned (.tuple #[]) ∧ Buf w' N B g cap (l ++ [c]) ∧ Below N w w' := by
  obtain ⟨i0, hi0, hz0, hz1, hz2⟩ := info_parts infoU8
  obtain ⟨hg0, hg1⟩ := h.lg
  have hB1 := h.lB
  obtain ⟨hbox, hne, hlo, hown⟩ := h
  have hc : w.cell? ⟨B, 0, none⟩ = some (.slice (some ⟨g, 0, none⟩) l.length cap) := cell_of_one hbox
  have hf : w.frozen? ⟨B, 0, none⟩ = false := free_of_one hbox
  have HB := Lib.hid hbox
  clear hbox
  go_enter Try.func25, Try.ntmps25
  go_wp2_with (first | (at_builtin; refine wpList_append_own_spare _ rfl _ _ 22 rfl N 5 i0 1 Try.underlying22 hi0 hz1 g l.length cap (u8s l) rfl (hown.alloc _) ⟨w.heap.size, 0, none⟩ 1 1 [.int .u8 c.toNat] rfl rfl ?e1 ?e2 ?e3 ?_))
  case e1 =>
    intro j u hj
    match j, hj with
    | 0, hj => simp at hj; subst hj; simp [Addr.add]
  case e2 => intro u hu; simp at hu; subst hu; rfl
  case e3 => omega
  intro w1 hown1 hg1
  have hc1 : w1.cell? ⟨B, 0, none⟩ = some (.slice (some ⟨g, 0, none⟩) l.length cap) := by
    rw [hg1.cell_far _ (by simp; omega) (by simpa using hne), World.cell?_alloc_lt _ _ _ (by simp; omega)]; exact hc
  have hf1 : w1.frozen? ⟨B, 0, none⟩ = false := by
    rw [hg1.frozen_far _ (by simp; omega) (by simpa using hne), World.frozen?_alloc_old _ _ _ (by simp; omega)]; exact hf
  have HP := Lib.hid (buf_put ⟨HB.out, hne, hlo, hown⟩ hN hown1 hg1 rfl)
  clear hown1 hg1 hc hf
  go_wp2
  go_end0
  exact ⟨rfl, HP.out⟩
set_option maxHeartbeats 400000 in
theorem put_I (B g cap N : Nat) (l : List UInt8) (c : UInt8) (w : World) (h : Buf w N B g cap l) (hr : l.length < cap) (hN : N ≤ w.heap.size) :
    Calls Try.prog 27 #[.int .u8 c.toNat, .pointer (some ⟨B, 0, none⟩)] w fun e w' => e = .returned (.tuple #[]) ∧ Buf w' N B g cap (l ++ [c]) ∧ Below N w w' := by
  obtain ⟨i0, hi0, hz0, hz1, hz2⟩ := info_parts infoU8
  obtain ⟨hg0, hg1⟩ := h.lg
  have hB1 := h.lB
  obtain ⟨hbox, hne, hlo, hown⟩ := h
  have hc : w.cell? ⟨B, 0, none⟩ = some (.slice (some ⟨g, 0, none⟩) l.length cap) := cell_of_one hbox
  have hf : w.frozen? ⟨B, 0, none⟩ = false := free_of_one hbox
  have HB := Lib.hid hbox
  clear hbox
  go_enter Try.func27, Try.ntmps27
  go_wp2_with (first | (at_builtin; refine wpList_append_own_spare _ rfl _ _ 22 rfl N 5 i0 1 Try.underlying22 hi0 hz1 g l.length cap (u8s l) rfl (hown.alloc _) ⟨w.heap.size, 0, none⟩ 1 1 [.int .u8 c.toNat] rfl rfl ?e1 ?e2 ?e3 ?_))
  case e1 =>
    intro j u hj
    match j, hj with
    | 0, hj => simp at hj; subst hj; simp [Addr.add]
  case e2 => intro u hu; simp at hu; subst hu; rfl
  case e3 => omega
  intro w1 hown1 hg1
  have hc1 : w1.cell? ⟨B, 0, none⟩ = some (.slice (some ⟨g, 0, none⟩) l.length cap) := by
    rw [hg1.cell_far _ (by simp; omega) (by simpa using hne), World.cell?_alloc_lt _ _ _ (by simp; omega)]; exact hc
  have hf1 : w1.frozen? ⟨B, 0, none⟩ = false := by
    rw [hg1.frozen_far _ (by simp; omega) (by simpa using hne), World.frozen?_alloc_old _ _ _ (by simp; omega)]; exact hf
  have HP := Lib.hid (buf_put ⟨HB.out, hne, hlo, hown⟩ hN hown1 hg1 rfl)
  clear hown1 hg1 hc hf
  go_wp2
  go_end0
  exact ⟨rfl, HP.out⟩
set_option maxHeartbeats 400000 in
theorem put_F (B g cap N : Nat) (l : List UInt8) (c : UInt8) (w : World) (h : Buf w N B g cap l) (hr : l.length < cap) (hN : N ≤ w.heap.size) :
    Calls Try.prog 19 #[.int .u8 c.toNat, .pointer (some ⟨B, 0, none⟩)] w fun e w' => e = .returned (.tuple #[]) ∧ Buf w' N B g cap (l ++ [c]) ∧ Below N w w' := by
  obtain ⟨i0, hi0, hz0, hz1, hz2⟩ := info_parts infoU8
  obtain ⟨hg0, hg1⟩ := h.lg
  have hB1 := h.lB
  obtain ⟨hbox, hne, hlo, hown⟩ := h
  have hc : w.cell? ⟨B, 0, none⟩ = some (.slice (some ⟨g, 0, none⟩) l.length cap) := cell_of_one hbox
  have hf : w.frozen? ⟨B, 0, none⟩ = false := free_of_one hbox
  have HB := Lib.hid hbox
  clear hbox
  go_enter Try.func19, Try.ntmps19
  go_wp2_with (first | (at_builtin; refine wpList_append_own_spare _ rfl _ _ 22 rfl N 5 i0 1 Try.underlying22 hi0 hz1 g l.length cap (u8s l) rfl (hown.alloc _) ⟨w.heap.size, 0, none⟩ 1 1 [.int .u8 c.toNat] rfl rfl ?e1 ?e2 ?e3 ?_))
  case e1 =>
    intro j u hj
    match j, hj with
    | 0, hj => simp at hj; subst hj; simp [Addr.add]
  case e2 => intro u hu; simp at hu; subst hu; rfl
  case e3 => omega
  intro w1 hown1 hg1
  have hc1 : w1.cell? ⟨B, 0, none⟩ = some (.slice (some ⟨g, 0, none⟩) l.length cap) := by
    rw [hg1.cell_far _ (by simp; omega) (by simpa using hne), World.cell?_alloc_lt _ _ _ (by simp; omega)]; exact hc
  have hf1 : w1.frozen? ⟨B, 0, none⟩ = false := by
    rw [hg1.frozen_far _ (by simp; omega) (by simpa using hne), World.frozen?_alloc_old _ _ _ (by simp; omega)]; exact hf
  have HP := Lib.hid (buf_put ⟨HB.out, hne, hlo, hown⟩ hN hown1 hg1 rfl)
  clear hown1 hg1 hc hf
  go_wp2
  go_end0
  exact ⟨rfl, HP.out⟩

/-- what a closure that lays a byte does -/
def PutOk (K N B g cap : Nat) : Prop := ∀ (l : List UInt8) (c : UInt8) (W : World), Buf W N B g cap l → l.length < cap → N ≤ W.heap.size →
  Calls Try.prog K #[.int .u8 c.toNat, .pointer (some ⟨B, 0, none⟩)] W fun e w' => e = .returned (.tuple #[]) ∧ Buf w' N B g cap (l ++ [c]) ∧ Below N W w'

theorem shr_byte (n j : Nat) : (n : Int) / 2 ^ (8 * (j : Int)).toNat % 256 = ((byteAt n j).toNat : Int) := by
  rw [byteAt_toNat, show (8 * (j : Int)).toNat = 8 * j by omega, pow256]
  rw [Int.natCast_emod, Int.natCast_ediv, Int.natCast_pow]
  rfl
theorem tell_next {n j : Nat} {l' l0 : List UInt8} (h : l' ++ tellL n (j + 1) = l0) : (l' ++ [byteAt n j]) ++ tellL n j = l0 := by
  rw [← h, List.append_assoc]; rfl

set_option maxHeartbeats 400000 in
theorem tellU_U (N B g cap m n : Nat) (l : List UInt8) (w : World) (hp : PutOk 25 N B g cap) (h : Buf w N B g cap l) (hr : l.length + m ≤ cap) (hN : N ≤ w.heap.size) (hm : m ≤ 8) (_hn : n < 18446744073709551616) :
    Calls Try.prog 18 #[.int .u64 n, .int .i64 m, .func (.func 25) #[] #[.pointer (some ⟨B, 0, none⟩)]] w fun e w' => e = .returned (.tuple #[]) ∧ Buf w' N B g cap (l ++ tellL n m) ∧ Below N w w' := by
  have HP := Lib.hid hp
  have HB := Lib.hid h
  clear hp h
  go_enter Try.func18, Try.ntmps18
  go_wp2
  go_loopw [6] (fun i wr => ∃ (k : Nat) (v : Int), Hid (v + 1 = k) ∧ -1 ≤ v ∧ v < m ∧ i = .int .i64 v ∧ (∃ l', Buf wr N B g cap l' ∧ l'.length + k ≤ cap ∧ l' ++ tellL n k = l ++ tellL n m) ∧ Below N w wr) (fun i _ => (intOf i + 1).toNat)
  case atStart => exact ⟨m, m - 1, Lib.hid (by omega), by omega, by omega, rfl, ⟨l, HB.out, hr, rfl⟩, Below.refl _ _⟩
  case round =>
    obtain ⟨k, v, HV, hv0, hv1, rfl, ⟨l', hb, hr', hl⟩, hbw⟩ := hrel
    have HL := Lib.hid hl
    clear hl
    by_cases hv : 0 ≤ v
    · obtain ⟨j, rfl⟩ := Int.eq_ofNat_of_zero_le hv
      obtain rfl : k = j + 1 := by have := HV.out; omega
      have C := HP.out l' (byteAt n j) wr hb (by omega) (by have := hbw.size; omega)
      rw [← shr_byte] at C
      have HC := Lib.hid C
      have HT := Lib.hid (tell_next HL.out)
      clear C hb HV HL
      go_wp2_with (first | (go_at_call 25; refine HC.out.mono ?_; rintro e w1 ⟨rfl, hb1, hbw1⟩))
      go_roundw
      case rel => exact ⟨j, (j : Int) - 1, Lib.hid (by omega), by omega, by omega, rfl, ⟨_, hb1, by simp; omega, HT.out⟩, hbw.trans hbw1⟩
      case measure => simp [intOf]
    · obtain rfl : k = 0 := by have := HV.out; omega
      have hd : (0 ≤ v) = False := by simpa using hv
      go_wp2
      go_end0
      have hl := HL.out
      rw [show tellL n 0 = [] from rfl, List.append_nil] at hl
      exact ⟨rfl, hl ▸ hb, hbw⟩

set_option maxHeartbeats 400000 in
theorem tellU_F (N B g cap m n : Nat) (l : List UInt8) (w : World) (hp : PutOk 19 N B g cap) (h : Buf w N B g cap l) (hr : l.length + m ≤ cap) (hN : N ≤ w.heap.size) (hm : m ≤ 8) (_hn : n < 18446744073709551616) :
    Calls Try.prog 18 #[.int .u64 n, .int .i64 m, .func (.func 19) #[] #[.pointer (some ⟨B, 0, none⟩)]] w fun e w' => e = .returned (.tuple #[]) ∧ Buf w' N B g cap (l ++ tellL n m) ∧ Below N w w' := by
  have HP := Lib.hid hp
  have HB := Lib.hid h
  clear hp h
  go_enter Try.func18, Try.ntmps18
  go_wp2
  go_loopw [6] (fun i wr => ∃ (k : Nat) (v : Int), Hid (v + 1 = k) ∧ -1 ≤ v ∧ v < m ∧ i = .int .i64 v ∧ (∃ l', Buf wr N B g cap l' ∧ l'.length + k ≤ cap ∧ l' ++ tellL n k = l ++ tellL n m) ∧ Below N w wr) (fun i _ => (intOf i + 1).toNat)
  case atStart => exact ⟨m, m - 1, Lib.hid (by omega), by omega, by omega, rfl, ⟨l, HB.out, hr, rfl⟩, Below.refl _ _⟩
  case round =>
    obtain ⟨k, v, HV, hv0, hv1, rfl, ⟨l', hb, hr', hl⟩, hbw⟩ := hrel
    have HL := Lib.hid hl
    clear hl
    by_cases hv : 0 ≤ v
    · obtain ⟨j, rfl⟩ := Int.eq_ofNat_of_zero_le hv
      obtain rfl : k = j + 1 := by have := HV.out; omega
      have C := HP.out l' (byteAt n j) wr hb (by omega) (by have := hbw.size; omega)
      rw [← shr_byte] at C
      have HC := Lib.hid C
      have HT := Lib.hid (tell_next HL.out)
      clear C hb HV HL
      go_wp2_with (first | (go_at_call 19; refine HC.out.mono ?_; rintro e w1 ⟨rfl, hb1, hbw1⟩))
      go_roundw
      case rel => exact ⟨j, (j : Int) - 1, Lib.hid (by omega), by omega, by omega, rfl, ⟨_, hb1, by simp; omega, HT.out⟩, hbw.trans hbw1⟩
      case measure => simp [intOf]
    · obtain rfl : k = 0 := by have := HV.out; omega
      have hd : (0 ≤ v) = False := by simpa using hv
      go_wp2
      go_end0
      have hl := HL.out
      rw [show tellL n 0 = [] from rfl, List.append_nil] at hl
      exact ⟨rfl, hl ▸ hb, hbw⟩

set_option maxHeartbeats 400000 in
theorem tellI_U (N B g cap m n : Nat) (l : List UInt8) (w : World) (hp : PutOk 25 N B g cap) (h : Buf w N B g cap l) (hr : l.length + m ≤ cap) (hN : N ≤ w.heap.size) (hm : m ≤ 8) (_hn : n < 9223372036854775808) :
    Calls Try.prog 26 #[.int .i64 n, .int .i64 m, .func (.func 25) #[] #[.pointer (some ⟨B, 0, none⟩)]] w fun e w' => e = .returned (.tuple #[]) ∧ Buf w' N B g cap (l ++ tellL n m) ∧ Below N w w' := by
  have HP := Lib.hid hp
  have HB := Lib.hid h
  clear hp h
  go_enter Try.func26, Try.ntmps26
  go_wp2
  go_loopw [6] (fun i wr => ∃ (k : Nat) (v : Int), Hid (v + 1 = k) ∧ -1 ≤ v ∧ v < m ∧ i = .int .i64 v ∧ (∃ l', Buf wr N B g cap l' ∧ l'.length + k ≤ cap ∧ l' ++ tellL n k = l ++ tellL n m) ∧ Below N w wr) (fun i _ => (intOf i + 1).toNat)
  case atStart => exact ⟨m, m - 1, Lib.hid (by omega), by omega, by omega, rfl, ⟨l, HB.out, hr, rfl⟩, Below.refl _ _⟩
  case round =>
    obtain ⟨k, v, HV, hv0, hv1, rfl, ⟨l', hb, hr', hl⟩, hbw⟩ := hrel
    have HL := Lib.hid hl
    clear hl
    by_cases hv : 0 ≤ v
    · obtain ⟨j, rfl⟩ := Int.eq_ofNat_of_zero_le hv
      obtain rfl : k = j + 1 := by have := HV.out; omega
      have C := HP.out l' (byteAt n j) wr hb (by omega) (by have := hbw.size; omega)
      rw [← shr_byte] at C
      have HC := Lib.hid C
      have HT := Lib.hid (tell_next HL.out)
      clear C hb HV HL
      go_wp2_with (first | (go_at_call 25; refine HC.out.mono ?_; rintro e w1 ⟨rfl, hb1, hbw1⟩))
      go_roundw
      case rel => exact ⟨j, (j : Int) - 1, Lib.hid (by omega), by omega, by omega, rfl, ⟨_, hb1, by simp; omega, HT.out⟩, hbw.trans hbw1⟩
      case measure => simp [intOf]
    · obtain rfl : k = 0 := by have := HV.out; omega
      have hd : (0 ≤ v) = False := by simpa using hv
      go_wp2
      go_end0
      have hl := HL.out
      rw [show tellL n 0 = [] from rfl, List.append_nil] at hl
      exact ⟨rfl, hl ▸ hb, hbw⟩

set_option maxHeartbeats 400000 in
theorem tellI_I (N B g cap m n : Nat) (l : List UInt8) (w : World) (hp : PutOk 27 N B g cap) (h : Buf w N B g cap l) (hr : l.length + m ≤ cap) (hN : N ≤ w.heap.size) (hm : m ≤ 8) (_hn : n < 9223372036854775808) :
    Calls Try.prog 26 #[.int .i64 n, .int .i64 m, .func (.func 27) #[] #[.pointer (some ⟨B, 0, none⟩)]] w fun e w' => e = .returned (.tuple #[]) ∧ Buf w' N B g cap (l ++ tellL n m) ∧ Below N w w' := by
  have HP := Lib.hid hp
  have HB := Lib.hid h
  clear hp h
  go_enter Try.func26, Try.ntmps26
  go_wp2
  go_loopw [6] (fun i wr => ∃ (k : Nat) (v : Int), Hid (v + 1 = k) ∧ -1 ≤ v ∧ v < m ∧ i = .int .i64 v ∧ (∃ l', Buf wr N B g cap l' ∧ l'.length + k ≤ cap ∧ l' ++ tellL n k = l ++ tellL n m) ∧ Below N w wr) (fun i _ => (intOf i + 1).toNat)
  case atStart => exact ⟨m, m - 1, Lib.hid (by omega), by omega, by omega, rfl, ⟨l, HB.out, hr, rfl⟩, Below.refl _ _⟩
  case round =>
    obtain ⟨k, v, HV, hv0, hv1, rfl, ⟨l', hb, hr', hl⟩, hbw⟩ := hrel
    have HL := Lib.hid hl
    clear hl
    by_cases hv : 0 ≤ v
    · obtain ⟨j, rfl⟩ := Int.eq_ofNat_of_zero_le hv
      obtain rfl : k = j + 1 := by have := HV.out; omega
      have C := HP.out l' (byteAt n j) wr hb (by omega) (by have := hbw.size; omega)
      rw [← shr_byte] at C
      have HC := Lib.hid C
      have HT := Lib.hid (tell_next HL.out)
      clear C hb HV HL
      go_wp2_with (first | (go_at_call 27; refine HC.out.mono ?_; rintro e w1 ⟨rfl, hb1, hbw1⟩))
      go_roundw
      case rel => exact ⟨j, (j : Int) - 1, Lib.hid (by omega), by omega, by omega, rfl, ⟨_, hb1, by simp; omega, HT.out⟩, hbw.trans hbw1⟩
      case measure => simp [intOf]
    · obtain rfl : k = 0 := by have := HV.out; omega
      have hd : (0 ≤ v) = False := by simpa using hv
      go_wp2
      go_end0
      have hl := HL.out
      rw [show tellL n 0 = [] from rfl, List.append_nil] at hl
      exact ⟨rfl, hl ▸ hb, hbw⟩
end Go.Proofs.Ytkjdhkpnbgflhaa
