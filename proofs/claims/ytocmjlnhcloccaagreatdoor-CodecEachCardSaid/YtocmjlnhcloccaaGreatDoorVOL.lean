/-
  swingbridgeref01.Order, Lists, Same.
-/
import Derived.Test.YtocmjlnhcloccaaGreatDoorVVl
namespace Go.Proofs.YtocmjlnhcloccaaGreatDoor
open Go.RowKit

theorem rby_true (w : World) : Calls Tryz.prog 69 #[.bool true] w fun e w' => e = .returned (.int .i64 (-1)) ∧ w = w' := by
  go_enter Tryz.func69, Tryz.ntmps69
  go_wp2
  go_ret
  exact ⟨rfl, rfl⟩
theorem rby_false (w : World) : Calls Tryz.prog 69 #[.bool false] w fun e w' => e = .returned (.int .i64 1) ∧ w = w' := by
  go_enter Tryz.func69, Tryz.ntmps69
  go_wp2
  go_ret
  exact ⟨rfl, rfl⟩
theorem rby_any (b : Bool) (w : World) : Calls Tryz.prog 69 #[.bool b] w fun e w' => e = .returned (.int .i64 (if b = true then -1 else 1)) ∧ w = w' := by
  cases b
  · exact rby_false w
  · exact rby_true w
theorem neB {a b : Int} (h : a ≠ b) : (a != b) = true := by simpa using h
theorem eqB (a : Int) : (a != a) = false := by simp
theorem cmpI_ne {a b : Int} (h : a ≠ b) : cmpI a b ≠ 0 := by unfold cmpI; split; (· decide); (· split <;> omega)
theorem cmpI_ne_eq {a b : Int} (h : a ≠ b) : cmpI a b = if decide (a < b) = true then -1 else 1 := by
  unfold cmpI
  by_cases h1 : a < b
  · simp [h1]
  · rw [if_neg h1, if_pos (by omega)]; simp [h1]
theorem cmpI_self (a : Int) : cmpI a a = 0 := by unfold cmpI; simp

set_option maxHeartbeats 1000000 in
theorem rOrder_k (k i u : Int) (s : ByteArray) (k' i' u' : Int) (s' : ByteArray) (w : World) (h : k ≠ k') :
    Calls Tryz.prog 68 #[.agg #[.int .i64 k, .int .i64 i, .int .u64 u, .string s], .agg #[.int .i64 k', .int .i64 i', .int .u64 u', .string s']] w fun e w' => e = .returned (.int .i64 (ord k i u s k' i' u' s')) ∧ Below w.heap.size w w' := by
  have h1 := neB h
  rw [show ord k i u s k' i' u' s' = if decide (k < k') = true then -1 else 1 by rw [← cmpI_ne_eq h]; unfold ord or4; rw [if_pos (cmpI_ne h)]]
  obtain ⟨b, hb⟩ : ∃ b, b = decide (k < k') := ⟨_, rfl⟩
  rw [← hb]
  cases b
  all_goals
    have hb' := hb.symm
    clear hb
    go_enter Tryz.func68, Tryz.ntmps68
    go_wp2_with (first | (go_at_call 69; refine (rby_any _ _).mono ?_; rintro e w' ⟨rfl, rfl⟩))
    go_ret
    exact ⟨rfl, by go_grown⟩

set_option maxHeartbeats 1000000 in
theorem rOrder_i (k i u : Int) (s : ByteArray) (i' u' : Int) (s' : ByteArray) (w : World) (h : i ≠ i') :
    Calls Tryz.prog 68 #[.agg #[.int .i64 k, .int .i64 i, .int .u64 u, .string s], .agg #[.int .i64 k, .int .i64 i', .int .u64 u', .string s']] w fun e w' => e = .returned (.int .i64 (ord k i u s k i' u' s')) ∧ Below w.heap.size w w' := by
  have h1 := neB h
  have h0 := eqB k
  rw [show ord k i u s k i' u' s' = if decide (i < i') = true then -1 else 1 by rw [← cmpI_ne_eq h]; unfold ord or4; rw [cmpI_self, if_neg (by decide), if_pos (cmpI_ne h)]]
  obtain ⟨b, hb⟩ : ∃ b, b = decide (i < i') := ⟨_, rfl⟩
  rw [← hb]
  cases b
  all_goals
    have hb' := hb.symm
    clear hb
    go_enter Tryz.func68, Tryz.ntmps68
    go_wp2_with (first | (go_at_call 69; refine (rby_any _ _).mono ?_; rintro e w' ⟨rfl, rfl⟩))
    go_ret
    exact ⟨rfl, by go_grown⟩

set_option maxHeartbeats 1000000 in
theorem rOrder_u (k i u : Int) (s : ByteArray) (u' : Int) (s' : ByteArray) (w : World) (h : u ≠ u') :
    Calls Tryz.prog 68 #[.agg #[.int .i64 k, .int .i64 i, .int .u64 u, .string s], .agg #[.int .i64 k, .int .i64 i, .int .u64 u', .string s']] w fun e w' => e = .returned (.int .i64 (ord k i u s k i u' s')) ∧ Below w.heap.size w w' := by
  have h1 := neB h
  have h0 := eqB k
  have h2 := eqB i
  rw [show ord k i u s k i u' s' = if decide (u < u') = true then -1 else 1 by rw [← cmpI_ne_eq h]; unfold ord or4; rw [cmpI_self, cmpI_self, if_neg (by decide), if_neg (by decide), if_pos (cmpI_ne h)]]
  obtain ⟨b, hb⟩ : ∃ b, b = decide (u < u') := ⟨_, rfl⟩
  rw [← hb]
  cases b
  all_goals
    have hb' := hb.symm
    clear hb
    go_enter Tryz.func68, Tryz.ntmps68
    go_wp2_with (first | (go_at_call 69; refine (rby_any _ _).mono ?_; rintro e w' ⟨rfl, rfl⟩))
    go_ret
    exact ⟨rfl, by go_grown⟩

set_option maxHeartbeats 1000000 in
theorem rOrder_s (k i u : Int) (s s' : ByteArray) (w : World) (h : (s.toList == s'.toList) = false) :
    Calls Tryz.prog 68 #[.agg #[.int .i64 k, .int .i64 i, .int .u64 u, .string s], .agg #[.int .i64 k, .int .i64 i, .int .u64 u, .string s']] w fun e w' => e = .returned (.int .i64 (ord k i u s k i u s')) ∧ Below w.heap.size w w' := by
  have h0 := eqB k
  have h2 := eqB i
  have h3 := eqB u
  rw [show ord k i u s k i u s' = if Op.bytesLess s.toList s'.toList = true then -1 else 1 by unfold ord or4 cmpS; rw [cmpI_self, cmpI_self, cmpI_self, h]; simp]
  obtain ⟨b, hb⟩ : ∃ b, b = Op.bytesLess s.toList s'.toList := ⟨_, rfl⟩
  rw [← hb]
  cases b
  all_goals
    have hb' := hb.symm
    clear hb
    go_enter Tryz.func68, Tryz.ntmps68
    go_wp2_with (first | (go_at_call 69; refine (rby_any _ _).mono ?_; rintro e w' ⟨rfl, rfl⟩))
    go_ret
    exact ⟨rfl, by go_grown⟩

set_option maxHeartbeats 1000000 in
theorem rOrder_same (k i u : Int) (s s' : ByteArray) (w : World) (h : (s.toList == s'.toList) = true) (h' : Op.bytesLess s.toList s'.toList = false) :
    Calls Tryz.prog 68 #[.agg #[.int .i64 k, .int .i64 i, .int .u64 u, .string s], .agg #[.int .i64 k, .int .i64 i, .int .u64 u, .string s']] w fun e w' => e = .returned (.int .i64 (ord k i u s k i u s')) ∧ Below w.heap.size w w' := by
  have h0 := eqB k
  have h2 := eqB i
  have h3 := eqB u
  rw [show ord k i u s k i u s' = 0 by unfold ord or4 cmpS; rw [cmpI_self, cmpI_self, cmpI_self, h, h']; simp]
  go_enter Tryz.func68, Tryz.ntmps68
  go_wp2_with (first | (go_at_call 69; refine (rby_any _ _).mono ?_; rintro e w' ⟨rfl, rfl⟩))
  go_ret
  exact ⟨rfl, by go_grown⟩

theorem less_irrefl : ∀ l : List UInt8, Op.bytesLess l l = false
  | [] => rfl
  | a :: l => by
    have := less_irrefl l
    simp [Op.bytesLess, this]

theorem rOrder_any (k i u : Int) (s : ByteArray) (k' i' u' : Int) (s' : ByteArray) (w : World) :
    Calls Tryz.prog 68 #[.agg #[.int .i64 k, .int .i64 i, .int .u64 u, .string s], .agg #[.int .i64 k', .int .i64 i', .int .u64 u', .string s']] w fun e w' => e = .returned (.int .i64 (ord k i u s k' i' u' s')) ∧ Below w.heap.size w w' := by
  by_cases hk : k = k'
  · subst hk
    by_cases hi : i = i'
    · subst hi
      by_cases hu : u = u'
      · subst hu
        cases hs : s.toList == s'.toList
        · exact rOrder_s k i u s s' w hs
        · have e : s.toList = s'.toList := by simpa using hs
          exact rOrder_same k i u s s' w hs (by rw [e]; exact less_irrefl _)
      · exact rOrder_u k i u s u' s' w hu
    · exact rOrder_i k i u s i' u' s' w hi
  · exact rOrder_k k i u s k' i' u' s' w hk
end Go.Proofs.YtocmjlnhcloccaaGreatDoor
namespace Go.Proofs.YtocmjlnhcloccaaGreatDoor
open Go.RowKit

theorem cmpI_lt {a b : Int} (h : a < b) : cmpI a b = -1 := by unfold cmpI; rw [if_pos h]
theorem cmpI_gt {a b : Int} (h : b < a) : cmpI a b = 1 := by unfold cmpI; rw [if_neg (by omega), if_pos h]

set_option maxHeartbeats 1000000 in
theorem rLists_some (a b : Addr) (ca cb : Nat) (l m : List Vl) (w : World) (hv : ValsAt w a l) (hv' : ValsAt w b m) (hl : l.length ≤ 9223372036854775807) (_hm : m.length ≤ 9223372036854775807) :
    Calls Tryz.prog 36 #[.slice (some a) l.length ca, .slice (some b) m.length cb] w fun e w' => e = .returned (.int .i64 (lists l m)) ∧ Below w.heap.size w w' := by
  go_enter Tryz.func36, Tryz.ntmps36
  go_wp2
  go_loopw [5] (fun i wr => ∃ (k : Nat), k ≤ l.length ∧ k ≤ m.length ∧ i = .int .i64 k ∧ LRel l m k ∧ Below w.heap.size w wr) (fun i _ => l.length - (intOf i).toNat)
  case atStart => exact ⟨0, by omega, by omega, rfl, LRel.zero _ _, by go_grown⟩
  case round =>
    obtain ⟨k, hk, hk', rfl, hrel, hbw⟩ := hrel
    by_cases hkl : k < l.length
    · by_cases hkm : k < m.length
      · obtain ⟨x, hx⟩ : ∃ v, l[k] = v := ⟨_, rfl⟩
        obtain ⟨y, hy⟩ : ∃ v, m[k] = v := ⟨_, rfl⟩
        have hX := (hv k hkl).keep hbw (Nat.le_refl _)
        have hY := (hv' k hkm).keep hbw (Nat.le_refl _)
        rw [hx] at hX
        rw [hy] at hY
        obtain ⟨h0, h1, h2, h3⟩ := hX
        obtain ⟨g0, g1, g2, g3⟩ := hY
        have hal : (a.add (k * 4)).block < wr.heap.size := ValAt.lt (v := x) ⟨h0, h1, h2, h3⟩
        have hbl : (b.add (k * 4)).block < wr.heap.size := ValAt.lt (v := y) ⟨g0, g1, g2, g3⟩
        have C : ∀ W, Calls Tryz.prog 68 #[.agg #[.int .i64 x.k, .int .i64 x.i, .int .u64 x.u, .string x.s], .agg #[.int .i64 y.k, .int .i64 y.i, .int .u64 y.u, .string y.s]] W fun e w' => e = .returned (.int .i64 (x.ord y)) ∧ Below W.heap.size W w' := fun W => rOrder_any _ _ _ _ _ _ _ _ _
        obtain ⟨o, ho⟩ : ∃ o, x.ord y = o := ⟨_, rfl⟩
        rw [ho] at C
        have HC := Lib.hid C
        clear C
        by_cases h00 : o = 0
        · have HK := Lib.hid (hrel.yes hkl hkm hx hy (ho.trans h00))
          clear hrel hx hy ho
          subst h00
          go_wp2_with fail
          go_region_held3 (fun w' => w'.cell? (a.add (k * 4)) = some (Value.int IntKind.i64 x.k) ∧ w'.cell? { block := (a.add (k * 4)).block, off := (a.add (k * 4)).off + 1 } = some (Value.int IntKind.i64 x.i) ∧ w'.cell? { block := (a.add (k * 4)).block, off := (a.add (k * 4)).off + 2 } = some (Value.int IntKind.u64 x.u) ∧ w'.cell? { block := (a.add (k * 4)).block, off := (a.add (k * 4)).off + 3 } = some (Value.string x.s) ∧ w'.cell? (b.add (k * 4)) = some (Value.int IntKind.i64 y.k) ∧ w'.cell? { block := (b.add (k * 4)).block, off := (b.add (k * 4)).off + 1 } = some (Value.int IntKind.i64 y.i) ∧ w'.cell? { block := (b.add (k * 4)).block, off := (b.add (k * 4)).off + 2 } = some (Value.int IntKind.u64 y.u) ∧ w'.cell? { block := (b.add (k * 4)).block, off := (b.add (k * 4)).off + 3 } = some (Value.string y.s)) (first | (go_keep; done) | (simp [*, go_sem]; done) | (refine ⟨?_, ?_, ?_, ?_, ?_, ?_, ?_, ?_⟩ <;> (rw [hb3.cell (by first | (simp; done) | (simp; omega))]; first | assumption | (simp [*, go_sem]; done))))
            (first | (go_at_call 68; refine (HC.out _).mono ?_; rintro e w3 ⟨rfl, hb3⟩))
          all_goals go_wp2_with fail
          all_goals go_roundw
          case rel => exact ⟨k + 1, by omega, by omega, by go_num, HK.out, hbw.trans (((show Below wr.heap.size wr _ from by go_grown).trans (hb3.mono (by simp; try omega))).mono hbw.size)⟩
          case measure => simp [intOf]; omega
        · have HK := Lib.hid ((hrel.no hkl hkm hx hy (by omega)).trans ho)
          clear hrel hx hy ho
          go_wp2_with fail
          go_region_held3 (fun w' => w'.cell? (a.add (k * 4)) = some (Value.int IntKind.i64 x.k) ∧ w'.cell? { block := (a.add (k * 4)).block, off := (a.add (k * 4)).off + 1 } = some (Value.int IntKind.i64 x.i) ∧ w'.cell? { block := (a.add (k * 4)).block, off := (a.add (k * 4)).off + 2 } = some (Value.int IntKind.u64 x.u) ∧ w'.cell? { block := (a.add (k * 4)).block, off := (a.add (k * 4)).off + 3 } = some (Value.string x.s) ∧ w'.cell? (b.add (k * 4)) = some (Value.int IntKind.i64 y.k) ∧ w'.cell? { block := (b.add (k * 4)).block, off := (b.add (k * 4)).off + 1 } = some (Value.int IntKind.i64 y.i) ∧ w'.cell? { block := (b.add (k * 4)).block, off := (b.add (k * 4)).off + 2 } = some (Value.int IntKind.u64 y.u) ∧ w'.cell? { block := (b.add (k * 4)).block, off := (b.add (k * 4)).off + 3 } = some (Value.string y.s)) (first | (go_keep; done) | (simp [*, go_sem]; done) | (refine ⟨?_, ?_, ?_, ?_, ?_, ?_, ?_, ?_⟩ <;> (rw [hb3.cell (by first | (simp; done) | (simp; omega))]; first | assumption | (simp [*, go_sem]; done))))
            (first | (go_at_call 68; refine (HC.out _).mono ?_; rintro e w3 ⟨rfl, hb3⟩))
          all_goals go_wp2_with fail
          all_goals go_ret
          all_goals exact ⟨by rw [HK.out]; rfl, hbw.trans (((show Below wr.heap.size wr _ from by go_grown).trans (hb3.mono (by simp; try omega))).mono hbw.size)⟩
      · have HK := Lib.hid (hrel.all (by omega) (by omega) (by omega))
        clear hrel
        by_cases he : (l.length : Int) = m.length
        · have he' : ((l.length : Int) == m.length) = true := by simpa using he
          go_wp2_with fail
          go_ret
          exact ⟨by rw [HK.out, he, cmpI_self]; rfl, hbw⟩
        · have he' : ((l.length : Int) == m.length) = false := by simpa using he
          go_wp2_with (first | (go_at_call 69; refine (rby_any _ _).mono ?_; rintro e w' ⟨rfl, rfl⟩))
          go_ret
          exact ⟨by rw [HK.out]; first | (rw [cmpI_lt (by omega)]; rfl) | (rw [cmpI_gt (by omega)]; rfl), hbw⟩
    · have HK := Lib.hid (hrel.all (by omega) (by omega) (by omega))
      clear hrel
      by_cases he : (l.length : Int) = m.length
      · have he' : ((l.length : Int) == m.length) = true := by simpa using he
        go_wp2_with fail
        go_ret
        exact ⟨by rw [HK.out, he, cmpI_self]; rfl, hbw⟩
      · have he' : ((l.length : Int) == m.length) = false := by simpa using he
        go_wp2_with (first | (go_at_call 69; refine (rby_any _ _).mono ?_; rintro e w' ⟨rfl, rfl⟩))
        go_ret
        exact ⟨by rw [HK.out]; first | (rw [cmpI_lt (by omega)]; rfl) | (rw [cmpI_gt (by omega)]; rfl), hbw⟩

set_option maxHeartbeats 1000000 in
theorem rLists_nn  (w : World) :
    Calls Tryz.prog 36 #[.slice none 0 0, .slice none 0 0] w fun e w' => e = .returned (.int .i64 (lists [] [])) ∧ Below w.heap.size w w' := by
  have HK := Lib.hid (LRel.all (l := []) (m := []) (k := 0) (LRel.zero _ _) (by omega) (by omega) (by simp))
  go_enter Tryz.func36, Tryz.ntmps36
  go_wp2
  go_loop [5] (fun i => i = .int .i64 0) (fun i => 0)
  case atStart => rfl
  case round =>
    subst hrel
    have HV := Lib.hid (show lists [] [] = 0 by rw [HK.out]; rfl)
    go_wp2_with (first | (go_at_call 69; refine (rby_any _ _).mono ?_; rintro e w' ⟨rfl, rfl⟩))
    go_ret
    exact ⟨by rw [HV.out]; rfl, Below.refl _ _⟩

set_option maxHeartbeats 1000000 in
theorem rLists_ns (b : Addr) (cb : Nat) (m : List Vl) (w : World) :
    Calls Tryz.prog 36 #[.slice none 0 0, .slice (some b) m.length cb] w fun e w' => e = .returned (.int .i64 (lists [] m)) ∧ Below w.heap.size w w' := by
  have HK := Lib.hid (LRel.all (l := []) (m := m) (k := 0) (LRel.zero _ _) (by omega) (by omega) (by simp))
  go_enter Tryz.func36, Tryz.ntmps36
  go_wp2
  go_loop [5] (fun i => i = .int .i64 0) (fun i => 0)
  case atStart => rfl
  case round =>
    subst hrel
    rcases Nat.eq_zero_or_pos m.length with h0 | h0
    · have HV := Lib.hid (show lists [] m = 0 by rw [HK.out, h0]; rfl)
      have hb : ((0 : Int) == (m.length : Int)) = true := by simp [h0]
      go_wp2_with (first | (go_at_call 69; refine (rby_any _ _).mono ?_; rintro e w' ⟨rfl, rfl⟩))
      go_ret
      exact ⟨by rw [HV.out]; rfl, Below.refl _ _⟩
    · have HV := Lib.hid (HK.out.trans (cmpI_lt (by simp; omega)))
      have hb : ((0 : Int) == (m.length : Int)) = false := by rw [beq_eq_false_iff_ne]; omega
      go_wp2_with (first | (go_at_call 69; refine (rby_any _ _).mono ?_; rintro e w' ⟨rfl, rfl⟩))
      go_ret
      exact ⟨by rw [HV.out]; rfl, Below.refl _ _⟩

set_option maxHeartbeats 1000000 in
theorem rLists_sn (a : Addr) (ca : Nat) (l : List Vl) (w : World) (_hl : l.length ≤ 9223372036854775807) :
    Calls Tryz.prog 36 #[.slice (some a) l.length ca, .slice none 0 0] w fun e w' => e = .returned (.int .i64 (lists l [])) ∧ Below w.heap.size w w' := by
  have HK := Lib.hid (LRel.all (l := l) (m := []) (k := 0) (LRel.zero _ _) (by omega) (by omega) (by simp))
  go_enter Tryz.func36, Tryz.ntmps36
  go_wp2
  go_loop [5] (fun i => i = .int .i64 0) (fun i => 0)
  case atStart => rfl
  case round =>
    subst hrel
    rcases Nat.eq_zero_or_pos l.length with h0 | h0
    · have HV := Lib.hid (show lists l [] = 0 by rw [HK.out, h0]; rfl)
      have hb : ((l.length : Int) == (0 : Int)) = true := by simp [h0]
      go_wp2_with (first | (go_at_call 69; refine (rby_any _ _).mono ?_; rintro e w' ⟨rfl, rfl⟩))
      go_ret
      exact ⟨by rw [HV.out]; rfl, Below.refl _ _⟩
    · have HV := Lib.hid (HK.out.trans (cmpI_gt (by rw [List.length_nil]; omega)))
      have hb : ((l.length : Int) == (0 : Int)) = false := by rw [beq_eq_false_iff_ne]; omega
      go_wp2_with (first | (go_at_call 69; refine (rby_any _ _).mono ?_; rintro e w' ⟨rfl, rfl⟩))
      go_ret
      exact ⟨by rw [HV.out]; rfl, Below.refl _ _⟩

theorem rLists_any (v v' : Value) (l m : List Vl) (w : World) (hv : SliceOf w v l) (hv' : SliceOf w v' m) (hl : l.length ≤ 9223372036854775807) (hm : m.length ≤ 9223372036854775807) :
    Calls Tryz.prog 36 #[v, v'] w fun e w' => e = .returned (.int .i64 (lists l m)) ∧ Below w.heap.size w w' := by
  rcases hv with ⟨rfl, rfl⟩ | ⟨a, ca, rfl, hla, ha⟩
  · rcases hv' with ⟨rfl, rfl⟩ | ⟨b, cb, rfl, _, hb⟩
    · exact rLists_nn w
    · exact rLists_ns b cb m w
  · rcases hv' with ⟨rfl, rfl⟩ | ⟨b, cb, rfl, _, hb⟩
    · exact rLists_sn a ca l w hl
    · exact rLists_some a b ca cb l m w ha hb hl hm
theorem rSame_any (v v' : Value) (l m : List Vl) (w : World) (hv : SliceOf w v l) (hv' : SliceOf w v' m) (hl : l.length ≤ 9223372036854775807) (hm : m.length ≤ 9223372036854775807) :
    Calls Tryz.prog 17 #[v, v'] w fun e w' => e = .returned (.bool (lists l m == 0)) ∧ Below w.heap.size w w' := by
  have HC := Lib.hid (rLists_any v v' l m w hv hv' hl hm)
  clear hv hv' hl hm
  obtain ⟨o, ho⟩ : ∃ o, lists l m = o := ⟨_, rfl⟩
  rw [ho] at HC ⊢
  clear ho
  cases hoz : o == 0 <;>
  ( go_enter Tryz.func17, Tryz.ntmps17
    go_wp2_with (first | (go_at_call 36; refine HC.out.mono ?_; rintro e w' ⟨rfl, hb⟩))
    go_ret
    exact ⟨by rfl, hb⟩ )
end Go.Proofs.YtocmjlnhcloccaaGreatDoor
