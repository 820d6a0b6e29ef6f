/-
  octet.Fixed; swingbridgelaw02.num and works.
-/
import Derived.Test.YtdbjdebffngngaaORNum
import Derived.Lib.SlBytesConst
namespace Go.Proofs.Ytdbjdebffngngaa
open Go.RowKit

/-- string(b) -/
theorem bytes_string {w : World} {v : Value} {l : List UInt8} (h : BytesAt w v l) : (convert 23 9 v).run Try.prog w = .ok (.string ⟨l.toArray⟩) w := by
  obtain ⟨oa, cap, rfl, _, hc⟩ := h
  cases oa with
  | none =>
    obtain rfl : l = [] := by
      cases l with
      | nil => rfl
      | cons x l => obtain ⟨a, ha, _⟩ := hc 0 (by simp); cases ha
    rw [run_convert_bytes_string w 23 9 5 none _ cap Try.underlying23 Try.underlying5 Try.underlying9]
    rfl
  | some a =>
    refine run_convert_bytes_back w 23 9 5 a cap l Try.underlying23 Try.underlying5 Try.underlying9 (fun j hj => ?_)
    obtain ⟨a', ha, hcell⟩ := hc j hj
    cases ha
    exact hcell
theorem NewBytes.at {w w' : World} {l : List UInt8} {v : Value} (h : NewBytes w w' l v) : BytesAt w' v l ∧ Below w.heap.size w w' := by
  obtain ⟨g, room, hg, rfl, hown, hb⟩ := h
  have hcap : l.length ≤ room := by
    rcases hown.2 with ⟨h, _⟩ | ⟨g', cap, cur, he, _, _, hn, _⟩
    · cases h
    · cases he; exact hn
  refine ⟨⟨_, room, rfl, hcap, fun j hj => ⟨_, rfl, ?_⟩⟩, hb⟩
  rw [hown.cells rfl j _ (by unfold u8s; rw [List.getElem?_map, List.getElem?_eq_getElem hj]; rfl)]
theorem bytes_nil (w : World) : BytesAt w (.slice none 0 0) [] := ⟨none, 0, rfl, by simp, fun j h => by simp at h⟩

/-- Fixed's error -/
def fixNo (n : Nat) (many : Int) : Int := if many < 1 ∨ 8 < many then 2 else if many < sizeOf8 n then 4 else 0
def fixL (n : Nat) (many : Int) : List UInt8 := if fixNo n many = 0 then tellL n many.toNat else []
set_option maxHeartbeats 1000000 in
theorem Fixed_any (n : Nat) (many : Int) (w : World) (hn : n < 18446744073709551616) :
    Calls Try.prog 19 #[.int .u64 n, .int .i64 many] w fun e w' => ∃ v, e = .returned (.tuple #[v, .int .i64 (fixNo n many)]) ∧ BytesAt w' v (fixL n many) ∧ Below w.heap.size w w' := by
  by_cases h1 : many < 1
  · have hno : fixNo n many = 2 := by unfold fixNo; rw [if_pos (.inl h1)]
    have hl : fixL n many = [] := by unfold fixL; rw [hno]; rfl
    rw [hno, hl]
    clear hno hl
    go_enter Try.func19, Try.ntmps19
    go_wp2
    go_ret2
    exact ⟨_, rfl, bytes_nil _, Below.refl _ _⟩
  · by_cases h8 : 8 < many
    · have hno : fixNo n many = 2 := by unfold fixNo; rw [if_pos (.inr h8)]
      have hl : fixL n many = [] := by unfold fixL; rw [hno]; rfl
      rw [hno, hl]
      clear hno hl
      go_enter Try.func19, Try.ntmps19
      go_wp2
      go_ret2
      exact ⟨_, rfl, bytes_nil _, Below.refl _ _⟩
    · obtain ⟨m, rfl⟩ := Int.eq_ofNat_of_zero_le (show 0 ≤ many by omega)
      obtain ⟨k, hk⟩ : ∃ k, sizeOf8 n = k := ⟨_, rfl⟩
      have Z := fun w => size_any n w hn
      rw [hk] at Z
      have HZ := Lib.hid Z
      clear Z
      by_cases h4 : (m : Int) < k
      · have hno : fixNo n m = 4 := by unfold fixNo; rw [if_neg (by omega), hk, if_pos h4]
        have hl : fixL n m = [] := by unfold fixL; rw [hno]; rfl
        rw [hno, hl]
        clear hno hl hk
        go_enter Try.func19, Try.ntmps19
        go_wp2_with (first | (go_at_call 33; refine (HZ.out _).mono ?_; rintro e w' ⟨rfl, rfl⟩))
        go_ret2
        exact ⟨_, rfl, bytes_nil _, Below.refl _ _⟩
      · have hno : fixNo n m = 0 := by unfold fixNo; rw [if_neg (by omega), hk, if_neg h4]
        have hl : fixL n m = tellL n m := by unfold fixL; rw [hno]; rfl
        rw [hno, hl]
        clear hno hl hk
        obtain ⟨i0, hi0, hz0, hz1, hz2⟩ := info_parts infoU8
        have HN := Lib.hid hn
        clear hn
        go_enter Try.func19, Try.ntmps19
        go_wp2_with (first | (go_at_call 33; refine (HZ.out _).mono ?_; rintro e w' ⟨rfl, rfl⟩) | (at_make; refine wpList_make_own _ rfl _ _ 23 rfl w.heap.size 5 i0 (.int .u8 0) 1 Try.underlying23 hi0 hz0 hz1 _ _ _ m rfl rfl ?c1 ?c2 ?c3 ?c4 ?_))
        case c1 => omega
        case c2 => rw [hz2]; omega
        case c3 => unfold maxLen; omega
        case c4 => simp
        intro w1 hown1 hg1
        have HB := Lib.hid (buf_new hown1 hg1)
        have h1 := hg1.size
        clear hown1 hg1
        have HC := Lib.hid (tellU_F w.heap.size w1.heap.size w.heap.size m m n [] _ (fun l c W h hr hN => put_F w1.heap.size w.heap.size m w.heap.size l c W h hr hN) HB.out.1 (by simp) (by simp; omega) (by omega) HN.out)
        go_wp2_with (first | (go_at_call 34; refine HC.out.mono ?_; rintro e w2 ⟨rfl, hb2, hbw2⟩; have hc := buf_cell hb2 (show ([] ++ tellL n m).length = m by simp [tellL_length])))
        go_ret2
        have hl := tellL_length n m
        have hN : NewBytes w w2 (tellL n m) (.slice (some ⟨w.heap.size, 0, none⟩) m m) := by
          have := hb2.own
          rw [List.nil_append, hl] at this
          exact ⟨w.heap.size, m, Nat.le_refl _, by rw [hl], by rw [hl]; exact this, HB.out.2.trans hbw2⟩
        exact ⟨_, rfl, hN.at.1, hN.at.2⟩

theorem num_id (n : Int) (w : World) : Calls Try.prog 13 #[.int .i64 n] w fun e w' => e = .returned (.int .i64 n) ∧ w = w' := by
  go_enter Try.func13, Try.ntmps13
  go_wp2
  go_ret
  exact ⟨rfl, rfl⟩

/-- a list of bytes written out -/
theorem bytes_lit (W : World) (l : List UInt8) (cs : Array Value) (n : Nat) (hc : cs = (u8s l).toArray) (hn : l.length = n) : BytesAt (W.alloc (.cells cs 5)) (.slice (some ⟨W.heap.size, 0, none⟩) n n) l := by
  subst hn hc
  refine ⟨_, _, rfl, Nat.le_refl _, fun j hj => ⟨_, rfl, ?_⟩⟩
  rw [Addr.add_lit, Nat.zero_add, World.cell?_alloc_new]
  simp [u8s, hj]
theorem bytes_litc (W : World) (l : List UInt8) (cs : Array Value) (n : Nat) (hc : cs = (u8s l).toArray) (hn : l.length = n) : BytesAt (W.alloc (.cells cs 5 (n, n + 1))) (.slice (some ⟨W.heap.size, 0, none⟩) n n) l := by
  subst hn hc
  refine ⟨_, _, rfl, Nat.le_refl _, fun j hj => ⟨_, rfl, ?_⟩⟩
  rw [Addr.add_lit, Nat.zero_add, cell_of_row _ _ j _ _ _ (heap_alloc_new W _)]
  simp [u8s, hj]
theorem BytesAt.keep {w w' : World} {v : Value} {l : List UInt8} {B : Nat} (h : BytesAt w v l) (hb : Below B w w') (hB : w.heap.size ≤ B) : BytesAt w' v l := by
  obtain ⟨oa, cap, rfl, hl, hc⟩ := h
  refine ⟨oa, cap, rfl, hl, fun j hj => ?_⟩
  obtain ⟨a, ha, hcell⟩ := hc j hj
  exact ⟨a, ha, by rw [hb.cell (by have := World.block_lt_of_cell? w _ hcell; omega)]; exact hcell⟩
theorem below_alloc {W w' : World} {o : Obj} (h : Below (W.alloc o).heap.size (W.alloc o) w') : Below W.heap.size W w' := ((Below.refl _ _).alloc (Nat.le_refl _) _).trans (h.mono (by simp))
theorem rn_a (W : World) : Calls Try.prog 10 #[.slice (some ⟨W.heap.size, 0, none⟩) 2 2] (W.alloc (.cells #[.int .u8 1, .int .u8 0] 5)) fun e w' => e = .returned (.tuple #[.int .u64 0, .int .i64 0, .int .i64 120]) ∧ Below W.heap.size W w' := by
  refine (ReadNumber_any _ [1, 0] _ (bytes_lit W [1, 0] _ 2 rfl rfl) (by decide)).mono ?_
  rintro e w' ⟨rfl, hb⟩
  exact ⟨rfl, below_alloc hb⟩
theorem rn_b (W : World) : Calls Try.prog 10 #[.slice (some ⟨W.heap.size, 0, none⟩) 4 4] (W.alloc (.cells #[.int .u8 2, .int .u8 1, .int .u8 2, .int .u8 7] 5)) fun e w' => e = .returned (.tuple #[.int .u64 258, .int .i64 3, .int .i64 0]) ∧ Below W.heap.size W w' := by
  refine (ReadNumber_any _ [2, 1, 2, 7] _ (bytes_lit W [2, 1, 2, 7] _ 4 rfl rfl) (by decide)).mono ?_
  rintro e w' ⟨rfl, hb⟩
  exact ⟨rfl, below_alloc hb⟩
theorem fx_a (W : World) : Calls Try.prog 19 #[.int .u64 258, .int .i64 3] W fun e w' => ∃ v, e = .returned (.tuple #[v, .int .i64 0]) ∧ BytesAt w' v [0, 1, 2] ∧ Below W.heap.size W w' := Fixed_any 258 3 W (by decide)
theorem fx_b (W : World) : Calls Try.prog 19 #[.int .u64 258, .int .i64 1] W fun e w' => ∃ v, e = .returned (.tuple #[v, .int .i64 4]) ∧ BytesAt w' v [] ∧ Below W.heap.size W w' := Fixed_any 258 1 W (by decide)
/-- what is told as bytes can be read as a text -/
def TellsStr (W : World) (l : List UInt8) (e : Ending) (w' : World) : Prop := ∃ v, e = .returned v ∧ (convert 23 9 v).run Try.prog w' = .ok (.string ⟨l.toArray⟩) w' ∧ Below W.heap.size W w'
theorem nb_a (W : World) : Calls Try.prog 9 #[.int .u64 0] W (TellsStr W [0]) := (Number_any 0 W (by decide)).mono fun _ _ ⟨v, he, h⟩ => ⟨v, he, bytes_string h.at.1, h.at.2⟩
theorem nb_b (W : World) : Calls Try.prog 9 #[.int .u64 258] W (TellsStr W [2, 1, 2]) := (Number_any 258 W (by decide)).mono fun _ _ ⟨v, he, h⟩ => ⟨v, he, bytes_string h.at.1, h.at.2⟩
theorem tx_a (W : World) : Calls Try.prog 15 #[.string ⟨#[97, 98]⟩] W (TellsStr W [1, 2, 97, 98]) := (Text_any ⟨#[97, 98]⟩ W (by decide)).mono fun _ _ ⟨v, he, h⟩ => ⟨v, he, bytes_string h.at.1, h.at.2⟩
theorem sm_0 (W : World) : Calls Try.prog 23 #[.slice none 0 0] W fun e w' => e = .returned (.int .u32 0) ∧ W = w' := Sum_any _ [] W ⟨none, 0, rfl, fun j h => by simp at h⟩ (by decide) (by simp)
def nine : List UInt8 := [49, 50, 51, 52, 53, 54, 55, 56, 57]
theorem row_one {W : World} {v : Value} {l : List UInt8} (h : BytesAt W v l) (t : TypeId) : RowsAt (W.alloc (.cells #[v] t)) (.slice (some ⟨W.heap.size, 0, none⟩) 1 1) [(v, l)] := by
  refine ⟨_, 1, rfl, fun j hj => ⟨_, rfl, ?_, ?_⟩⟩
  · obtain rfl : j = 0 := by simpa using hj
    simp [go_sem]
  · obtain rfl : j = 0 := by simpa using hj
    exact h.keep ((Below.refl _ _).alloc (Nat.le_refl _) _) (Nat.le_refl _)
theorem sm_9 (W : World) : Calls Try.prog 23 #[.slice (some ⟨W.heap.size + 1, 0, none⟩) 1 1] ((W.alloc (.cells #[.int .u8 49, .int .u8 50, .int .u8 51, .int .u8 52, .int .u8 53, .int .u8 54, .int .u8 55, .int .u8 56, .int .u8 57] 5 (9, 10))).alloc (.cells #[.slice (some ⟨W.heap.size, 0, none⟩) 9 9] 23)) fun e w' => e = .returned (.int .u32 3808858755) ∧ Below W.heap.size W w' := by
  have hr := row_one (bytes_litc W nine _ 9 rfl rfl) 23
  rw [World.size_alloc] at hr
  refine (Sum_any _ _ _ hr (by simp) (by simp [nine])).mono ?_
  rintro e w' ⟨rfl, rfl⟩
  exact ⟨congrArg (fun n : Nat => Ending.returned (.int .u32 n)) (show crc (catL [(Value.slice (some ⟨W.heap.size, 0, none⟩) 9 9, nine)]) = 3808858755 from (by decide +kernel : crc nine = 3808858755)), ((Below.refl _ _).alloc (Nat.le_refl _) _).alloc (by simp) _⟩

set_option maxRecDepth 100000 in
set_option maxHeartbeats 4000000 in
theorem works_true (w : World) : Calls Try.prog 8 #[] w fun e w' => e = .returned (.bool true) ∧ Below w.heap.size w w' := by
  have A1 := Lib.hid rn_a
  have A2 := Lib.hid rn_b
  have F1 := Lib.hid fx_a
  have F2 := Lib.hid fx_b
  have N1 := Lib.hid nb_a
  have N2 := Lib.hid nb_b
  have T1 := Lib.hid tx_a
  have S0 := Lib.hid sm_0
  have S9 := Lib.hid sm_9
  have kc := fun (w : World) (C : Array Value) (n c : Nat) => Lib.run_convert_bytes_const (P := Try.prog) w 23 5 C n c Try.underlying23 Try.underlying5
  go_enter Try.func8, Try.ntmps8
  go_wp2_with fail
  refine (A1.out _).mono ?_
  rintro e w1 ⟨rfl, hb1⟩
  go_wp2_with fail
  refine (A2.out _).mono ?_
  rintro e w2 ⟨rfl, hb2⟩
  go_wp2_with fail
  refine (F1.out _).mono ?_
  rintro e w3 ⟨va, rfl, hva, hb3⟩
  have HA := Lib.hid hva
  clear hva
  go_wp2_with fail
  refine (F2.out _).mono ?_
  rintro e w4 ⟨vb, rfl, hvb, hb4⟩
  clear hvb
  go_wp2_with fail
  refine (N1.out _).mono ?_
  rintro e w5 ⟨v5, rfl, hc5, hb5⟩
  go_wp2_with fail
  refine (N2.out _).mono ?_
  rintro e w6 ⟨v6, rfl, hc6, hb6⟩
  go_wp2_with (first | (go_at_call 13; refine (num_id _ _).mono ?_; rintro e w' ⟨rfl, rfl⟩))
  refine (T1.out _).mono ?_
  rintro e w7 ⟨v7, rfl, hc7, hb7⟩
  go_wp2_with fail
  refine (S9.out _).mono ?_
  rintro e w8 ⟨rfl, hb8⟩
  go_wp2_with fail
  refine (S0.out _).mono ?_
  rintro e w9 ⟨rfl, rfl⟩
  have h34 := hb4.trans ((hb5.trans ((hb6.trans ((hb7.trans (hb8.mono hb7.size)).mono hb6.size)).mono hb5.size)).mono hb4.size)
  have hca := bytes_string (HA.out.keep h34 (Nat.le_refl _))
  have HB := Lib.hid (hb1.trans ((hb2.trans ((hb3.trans (h34.mono hb3.size)).mono hb2.size)).mono hb1.size))
  clear h34 hb1 hb2 hb3 hb4 hb5 hb6 hb7 hb8
  go_wp2_with (first | (go_at_call 13; refine (num_id _ _).mono ?_; rintro e w' ⟨rfl, rfl⟩))
  go_ret
  exact ⟨rfl, HB.out⟩
end Go.Proofs.Ytdbjdebffngngaa
