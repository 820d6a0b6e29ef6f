/-
  octet.lay, Number, Fixed.
-/
import Derived.Test.YtkjdhkpnbgflhaaOTell
import Derived.OwnWalk
import Derived.Handy
import Derived.Lib.AppendStr
import Derived.Lib.SmallJoins
namespace Go.Proofs.Ytkjdhkpnbgflhaa
open Go.RowKit

theorem buf_new {w w1 : World} {n : Nat} (hown : w1.ownsRow w.heap.size 5 1 (.slice (some ⟨w.heap.size, 0, none⟩) 0 n) 0 []) (hg : w.grownBy w1 none) :
    Buf (w1.alloc (.cells #[.slice (some ⟨w.heap.size, 0, none⟩) 0 n] 22)) w.heap.size w1.heap.size w.heap.size n [] ∧ Below w.heap.size w (w1.alloc (.cells #[.slice (some ⟨w.heap.size, 0, none⟩) 0 n] 22)) := by
  have hlt := (hown.lt w.heap.size rfl).2
  exact ⟨⟨heap_alloc_new w1 _, by omega, by omega, hown.alloc _⟩, ((Below.refl _ _).grown hg (Nat.le_refl _) (fun _ h => by cases h)).alloc hg.size _⟩

theorem buf_cell {w : World} {N B g cap n : Nat} {l : List UInt8} (h : Buf w N B g cap l) (hn : l.length = n) : w.cell? ⟨B, 0, none⟩ = some (.slice (some ⟨g, 0, none⟩) n cap) := by
  rw [cell_of_one h.box, hn]
/-- bytes in new memory -/
def NewBytes (w w' : World) (l : List UInt8) (v : Value) : Prop :=
  ∃ g room, w.heap.size ≤ g ∧ v = .slice (some ⟨g, 0, none⟩) l.length room ∧ w'.ownsRow w.heap.size 5 1 (.slice (some ⟨g, 0, none⟩) l.length room) l.length (u8s l) ∧ Below w.heap.size w w'

theorem tell_one (k : Nat) : tellL k 1 = [UInt8.ofNat k] := by simp [tellL, byteAt]
theorem tellI_one_U {N B g cap k : Nat} {w : World} (h : Buf w N B g cap []) (hc : 1 ≤ cap) (hk : k ≤ 8) (hN : N ≤ w.heap.size) :
    Calls Try.prog 26 #[.int .i64 k, .int .i64 1, .func (.func 25) #[] #[.pointer (some ⟨B, 0, none⟩)]] w fun e w' => e = .returned (.tuple #[]) ∧ Buf w' N B g cap [UInt8.ofNat k] ∧ Below N w w' := by
  have C := tellI_U N B g cap 1 k [] w (fun l c W h hr hN => put_U B g cap N l c W h hr hN) h (by simpa using hc) hN (by omega) (by omega)
  rw [List.nil_append, tell_one] at C
  exact C
theorem tellI_one_I {N B g cap k : Nat} {w : World} (h : Buf w N B g cap []) (hc : 1 ≤ cap) (hk : k ≤ 8) (hN : N ≤ w.heap.size) :
    Calls Try.prog 26 #[.int .i64 k, .int .i64 1, .func (.func 27) #[] #[.pointer (some ⟨B, 0, none⟩)]] w fun e w' => e = .returned (.tuple #[]) ∧ Buf w' N B g cap [UInt8.ofNat k] ∧ Below N w w' := by
  have C := tellI_I N B g cap 1 k [] w (fun l c W h hr hN => put_I B g cap N l c W h hr hN) h (by simpa using hc) hN (by omega) (by omega)
  rw [List.nil_append, tell_one] at C
  exact C
theorem tellU_rest {N B g cap k n : Nat} {w : World} (hn : n < 18446744073709551616) (h : Buf w N B g cap [UInt8.ofNat k]) (hc : 1 + k ≤ cap) (hk : k ≤ 8) (hN : N ≤ w.heap.size) :
    Calls Try.prog 18 #[.int .u64 n, .int .i64 k, .func (.func 25) #[] #[.pointer (some ⟨B, 0, none⟩)]] w fun e w' => e = .returned (.tuple #[]) ∧ Buf w' N B g cap (UInt8.ofNat k :: tellL n k) ∧ Below N w w' :=
  tellU_U N B g cap k n [UInt8.ofNat k] w (fun l c W h hr hN => put_U B g cap N l c W h hr hN) h (by simpa using hc) hN hk hn
theorem tellI_rest {N B g cap k n : Nat} {w : World} (hn : n < 9223372036854775808) (h : Buf w N B g cap [UInt8.ofNat k]) (hc : 1 + k ≤ cap) (hk : k ≤ 8) (hN : N ≤ w.heap.size) :
    Calls Try.prog 26 #[.int .i64 n, .int .i64 k, .func (.func 27) #[] #[.pointer (some ⟨B, 0, none⟩)]] w fun e w' => e = .returned (.tuple #[]) ∧ Buf w' N B g cap (UInt8.ofNat k :: tellL n k) ∧ Below N w w' :=
  tellI_I N B g cap k n [UInt8.ofNat k] w (fun l c W h hr hN => put_I B g cap N l c W h hr hN) h (by simpa using hc) hN hk hn
set_option maxHeartbeats 1000000 in
theorem layU_any (n : Nat) (s : Int) (w : World) (hn : n < 18446744073709551616) (hs0 : 0 ≤ s) (hs1 : s ≤ 1000000) :
    Calls Try.prog 20 #[.int .u64 n, .int .i64 s] w fun e w' => ∃ v, e = .returned v ∧ NewBytes w w' (numB n) v := by
  obtain ⟨i0, hi0, hz0, hz1, hz2⟩ := info_parts infoU8
  have h8 := sizeOf8_le n hn
  have HN := Lib.hid hn
  clear hn
  have HZ := Lib.hid (size_any n · HN.out)
  obtain ⟨k, hk⟩ : ∃ k, sizeOf8 n = k := ⟨_, rfl⟩
  rw [hk] at h8 HZ
  have HK := Lib.hid hk
  clear hk
  go_enter Try.func20, Try.ntmps20
  go_wp2_with (first | (go_at_call 17; refine (HZ.out _).mono ?_; rintro e w' ⟨rfl, rfl⟩) | (at_make; refine wpList_make_own _ rfl _ _ 22 rfl w.heap.size 5 i0 (.int .u8 0) 1 Try.underlying22 hi0 hz0 hz1 _ _ _ (1 + k + s.toNat) rfl rfl ?c1 ?c2 ?c3 ?c4 ?_))
  case c1 => omega
  case c2 => rw [hz2]; omega
  case c3 => unfold maxLen; omega
  case c4 => simp
  intro w1 hown1 hg1
  have HB := Lib.hid (buf_new hown1 hg1)
  have h1 := hg1.size
  clear hown1 hg1
  go_wp2_with (first | (go_at_call 26; refine (tellI_one_U HB.out.1 (by omega) h8 (by simp; omega)).mono ?_; rintro e w2 ⟨rfl, hb2, hbw2⟩) | (go_at_call 18; refine (tellU_rest HN.out hb2 (by omega) h8 (by have := hbw2.size; simp at this; omega)).mono ?_; rintro e w3 ⟨rfl, hb3, hbw3⟩; have hc := buf_cell hb3 (show (UInt8.ofNat k :: tellL n k).length = 1 + k by simp [tellL_length]; omega)))
  go_ret
  obtain rfl := HK.out
  have hl := numB_length n
  refine ⟨_, rfl, _, _, Nat.le_refl _, by rw [hl]; rfl, ?_, ?_⟩
  · exact hb3.own
  · exact HB.out.2.trans (hbw2.trans hbw3)
set_option maxHeartbeats 1000000 in
theorem layI_any (n : Nat) (s : Int) (w : World) (hn : n < 9223372036854775808) (hs0 : 0 ≤ s) (hs1 : s ≤ 1000000) :
    Calls Try.prog 21 #[.int .i64 n, .int .i64 s] w fun e w' => ∃ v, e = .returned v ∧ NewBytes w w' (numB n) v := by
  obtain ⟨i0, hi0, hz0, hz1, hz2⟩ := info_parts infoU8
  have h8 := sizeOf8_le n (by omega)
  have hn1 : (n : Int) ≤ 9223372036854775807 := by omega
  have HN := Lib.hid hn
  clear hn
  have HZ := Lib.hid (size_any n · (by have := HN.out; omega))
  obtain ⟨k, hk⟩ : ∃ k, sizeOf8 n = k := ⟨_, rfl⟩
  rw [hk] at h8 HZ
  have HK := Lib.hid hk
  clear hk
  go_enter Try.func21, Try.ntmps21
  go_wp2_with (first | (go_at_call 17; refine (HZ.out _).mono ?_; rintro e w' ⟨rfl, rfl⟩) | (at_make; refine wpList_make_own _ rfl _ _ 22 rfl w.heap.size 5 i0 (.int .u8 0) 1 Try.underlying22 hi0 hz0 hz1 _ _ _ (1 + k + s.toNat) rfl rfl ?c1 ?c2 ?c3 ?c4 ?_))
  case c1 => omega
  case c2 => rw [hz2]; omega
  case c3 => unfold maxLen; omega
  case c4 => simp
  intro w1 hown1 hg1
  have HB := Lib.hid (buf_new hown1 hg1)
  have h1 := hg1.size
  clear hown1 hg1
  go_wp2_with fail
  refine (tellI_one_I HB.out.1 (by omega) h8 (by simp; omega)).mono ?_
  rintro e w2 ⟨rfl, hb2, hbw2⟩
  go_wp2_with fail
  refine (tellI_rest HN.out hb2 (by omega) h8 (by have := hbw2.size; simp at this; omega)).mono ?_
  rintro e w3 ⟨rfl, hb3, hbw3⟩
  have hc := buf_cell hb3 (show (UInt8.ofNat k :: tellL n k).length = 1 + k by simp [tellL_length]; omega)
  go_wp2
  go_ret
  obtain rfl := HK.out
  have hl := numB_length n
  refine ⟨_, rfl, _, _, Nat.le_refl _, by rw [hl]; rfl, ?_, ?_⟩
  · exact hb3.own
  · exact HB.out.2.trans (hbw2.trans hbw3)

theorem Number_any (n : Nat) (w : World) (hn : n < 18446744073709551616) :
    Calls Try.prog 9 #[.int .u64 n] w fun e w' => ∃ v, e = .returned v ∧ NewBytes w w' (numB n) v := by
  have HC := Lib.hid (layU_any n 0 · hn (by omega) (by omega))
  clear hn
  go_enter Try.func9, Try.ntmps9
  go_wp2_with (first | (go_at_call 20; refine (HC.out _).mono ?_; rintro e w' ⟨v, rfl, hv⟩; have HV := Lib.hid hv; clear hv))
  go_ret
  exact ⟨_, rfl, HV.out⟩

/-- a text's bytes -/
def txtL (l : List UInt8) : List UInt8 := numB l.length ++ l
theorem u8s_str (s : ByteArray) : Lib.strCells s = u8s s.data.toList := rfl
set_option maxHeartbeats 1000000 in
theorem Text_any (s : ByteArray) (w : World) (hs : s.size ≤ 1000000) :
    Calls Try.prog 11 #[.string s] w fun e w' => ∃ v, e = .returned v ∧ NewBytes w w' (txtL s.data.toList) v := by
  obtain ⟨i0, hi0, hz0, hz1, hz2⟩ := info_parts infoU8
  have HC := Lib.hid (layI_any s.size s.size · (by omega) (by omega) (by omega))
  have h8 := sizeOf8_le s.size (by omega)
  obtain ⟨L, hL⟩ : ∃ L, (numB s.size).length = L := ⟨_, rfl⟩
  have hL9 : L ≤ 9 := by have := numB_length s.size; omega
  have HL := Lib.hid hL
  clear hL
  go_enter Try.func11, Try.ntmps11
  go_wp2_with (first | (go_at_call 21; refine (HC.out _).mono ?_; rintro e w1 ⟨v, rfl, g, room, hg, rfl, hown, hb⟩; rw [HL.out] at hown ⊢) | (at_builtin; refine Lib.wpList_append_own_string _ rfl _ _ 22 9 rfl w.heap.size 5 i0 Try.underlying22 Try.underlying9 hi0 hz0 hz1 hz2 (.slice (some ⟨g, 0, none⟩) L room) L (u8s (numB s.size)) rfl hown s rfl ?a1 ?a2 ?a3 ?_))
  case a1 => unfold maxLen; omega
  case a2 => omega
  case a3 => exact hb.size
  intro v2 w2 hown2 hg2 _
  rw [u8s_str] at hown2
  have e1 : u8s (numB s.size) ++ u8s s.data.toList = u8s (txtL s.data.toList) := by unfold u8s txtL; rw [List.map_append, Array.length_toList]; rfl
  have e2 : L + s.size = (txtL s.data.toList).length := by unfold txtL; rw [List.length_append, Array.length_toList, ← HL.out]; rfl
  rw [e1, e2] at hown2
  obtain ⟨g2, cap2, rfl⟩ := Joins.ownsRow_form hown2 (by rw [← e2, ← HL.out, numB_length]; omega)
  have hlg := (hown2.lt g2 rfl).1
  have HF : Hid (NewBytes w w2 (txtL s.data.toList) (.slice (some ⟨g2, 0, none⟩) (txtL s.data.toList).length cap2)) := Lib.hid ⟨g2, cap2, hlg, rfl, hown2, hb.grown hg2 hb.size (fun x h => by cases h; exact hg)⟩
  clear hown hown2 hg2 e1 e2
  go_wp2
  go_ret
  exact ⟨_, rfl, HF.out⟩
end Go.Proofs.Ytkjdhkpnbgflhaa
