/-
  convert.Row; swingbridgeref06.Row.
-/
import Derived.Test.YtmgeefhacnadcaaGreatDoorVVl
import Derived.Test.YtmgeefhacnadcaaGreatDoorSSch
import Derived.Test.YtmgeefhacnadcaaGreatDoorVTop
import Derived.Test.YtmgeefhacnadcaaGreatDoorVConv
import Derived.Test.YtmgeefhacnadcaaGreatDoorVRCv
import Derived.Deep.OwnRows
namespace Go.Proofs.YtmgeefhacnadcaaGreatDoor
open Go.RowKit

theorem rby_true (w : World) : Calls Tryz.prog 73 #[.bool true] w fun e w' => e = .returned (.int .i64 (-1)) ∧ w = w' := by
  go_enter Tryz.func73, Tryz.ntmps73
  go_wp2
  go_ret
  exact ⟨rfl, rfl⟩
theorem rby_false (w : World) : Calls Tryz.prog 73 #[.bool false] w fun e w' => e = .returned (.int .i64 1) ∧ w = w' := by
  go_enter Tryz.func73, Tryz.ntmps73
  go_wp2
  go_ret
  exact ⟨rfl, rfl⟩
theorem rby_any (b : Bool) (w : World) : Calls Tryz.prog 73 #[.bool b] w fun e w' => e = .returned (.int .i64 (if b = true then -1 else 1)) ∧ w = w' := by
  cases b
  · exact rby_false w
  · exact rby_true w
theorem neB {a b : Int} (h : a ≠ b) : (a != b) = true := by simpa using h
theorem eqB (a : Int) : (a != a) = false := by simp
theorem cmpI_ne {a b : Int} (h : a ≠ b) : cmpI a b ≠ 0 := by unfold cmpI; split; (· decide); (· split <;> omega)
theorem cmpI_ne_eq {a b : Int} (h : a ≠ b) : cmpI a b = if decide (a < b) = true then -1 else 1 := by
  unfold cmpI
  by_cases h1 : a < b
  · simp [h1]
  · rw [if_neg h1, if_pos (by omega)]; simp [h1]
theorem cmpI_self (a : Int) : cmpI a a = 0 := by unfold cmpI; simp

set_option maxHeartbeats 1000000 in
theorem rOrder_k (k i u : Int) (s : ByteArray) (k' i' u' : Int) (s' : ByteArray) (w : World) (h : k ≠ k') :
    Calls Tryz.prog 72 #[.agg #[.int .i64 k, .int .i64 i, .int .u64 u, .string s], .agg #[.int .i64 k', .int .i64 i', .int .u64 u', .string s']] w fun e w' => e = .returned (.int .i64 (ord k i u s k' i' u' s')) ∧ Below w.heap.size w w' := by
  have h1 := neB h
  rw [show ord k i u s k' i' u' s' = if decide (k < k') = true then -1 else 1 by rw [← cmpI_ne_eq h]; unfold ord or4; rw [if_pos (cmpI_ne h)]]
  obtain ⟨b, hb⟩ : ∃ b, b = decide (k < k') := ⟨_, rfl⟩
  rw [← hb]
  cases b
  all_goals
    have hb' := hb.symm
    clear hb
    go_enter Tryz.func72, Tryz.ntmps72
    go_wp2_with (first | (go_at_call 73; refine (rby_any _ _).mono ?_; rintro e w' ⟨rfl, rfl⟩))
    go_ret
    exact ⟨rfl, by go_grown⟩

set_option maxHeartbeats 1000000 in
theorem rOrder_i (k i u : Int) (s : ByteArray) (i' u' : Int) (s' : ByteArray) (w : World) (h : i ≠ i') :
    Calls Tryz.prog 72 #[.agg #[.int .i64 k, .int .i64 i, .int .u64 u, .string s], .agg #[.int .i64 k, .int .i64 i', .int .u64 u', .string s']] w fun e w' => e = .returned (.int .i64 (ord k i u s k i' u' s')) ∧ Below w.heap.size w w' := by
  have h1 := neB h
  have h0 := eqB k
  rw [show ord k i u s k i' u' s' = if decide (i < i') = true then -1 else 1 by rw [← cmpI_ne_eq h]; unfold ord or4; rw [cmpI_self, if_neg (by decide), if_pos (cmpI_ne h)]]
  obtain ⟨b, hb⟩ : ∃ b, b = decide (i < i') := ⟨_, rfl⟩
  rw [← hb]
  cases b
  all_goals
    have hb' := hb.symm
    clear hb
    go_enter Tryz.func72, Tryz.ntmps72
    go_wp2_with (first | (go_at_call 73; refine (rby_any _ _).mono ?_; rintro e w' ⟨rfl, rfl⟩))
    go_ret
    exact ⟨rfl, by go_grown⟩

set_option maxHeartbeats 1000000 in
theorem rOrder_u (k i u : Int) (s : ByteArray) (u' : Int) (s' : ByteArray) (w : World) (h : u ≠ u') :
    Calls Tryz.prog 72 #[.agg #[.int .i64 k, .int .i64 i, .int .u64 u, .string s], .agg #[.int .i64 k, .int .i64 i, .int .u64 u', .string s']] w fun e w' => e = .returned (.int .i64 (ord k i u s k i u' s')) ∧ Below w.heap.size w w' := by
  have h1 := neB h
  have h0 := eqB k
  have h2 := eqB i
  rw [show ord k i u s k i u' s' = if decide (u < u') = true then -1 else 1 by rw [← cmpI_ne_eq h]; unfold ord or4; rw [cmpI_self, cmpI_self, if_neg (by decide), if_neg (by decide), if_pos (cmpI_ne h)]]
  obtain ⟨b, hb⟩ : ∃ b, b = decide (u < u') := ⟨_, rfl⟩
  rw [← hb]
  cases b
  all_goals
    have hb' := hb.symm
    clear hb
    go_enter Tryz.func72, Tryz.ntmps72
    go_wp2_with (first | (go_at_call 73; refine (rby_any _ _).mono ?_; rintro e w' ⟨rfl, rfl⟩))
    go_ret
    exact ⟨rfl, by go_grown⟩

set_option maxHeartbeats 1000000 in
theorem rOrder_s (k i u : Int) (s s' : ByteArray) (w : World) (h : (s.toList == s'.toList) = false) :
    Calls Tryz.prog 72 #[.agg #[.int .i64 k, .int .i64 i, .int .u64 u, .string s], .agg #[.int .i64 k, .int .i64 i, .int .u64 u, .string s']] w fun e w' => e = .returned (.int .i64 (ord k i u s k i u s')) ∧ Below w.heap.size w w' := by
  have h0 := eqB k
  have h2 := eqB i
  have h3 := eqB u
  rw [show ord k i u s k i u s' = if Op.bytesLess s.toList s'.toList = true then -1 else 1 by unfold ord or4 cmpS; rw [cmpI_self, cmpI_self, cmpI_self, h]; simp]
  obtain ⟨b, hb⟩ : ∃ b, b = Op.bytesLess s.toList s'.toList := ⟨_, rfl⟩
  rw [← hb]
  cases b
  all_goals
    have hb' := hb.symm
    clear hb
    go_enter Tryz.func72, Tryz.ntmps72
    go_wp2_with (first | (go_at_call 73; refine (rby_any _ _).mono ?_; rintro e w' ⟨rfl, rfl⟩))
    go_ret
    exact ⟨rfl, by go_grown⟩

set_option maxHeartbeats 1000000 in
theorem rOrder_same (k i u : Int) (s s' : ByteArray) (w : World) (h : (s.toList == s'.toList) = true) (h' : Op.bytesLess s.toList s'.toList = false) :
    Calls Tryz.prog 72 #[.agg #[.int .i64 k, .int .i64 i, .int .u64 u, .string s], .agg #[.int .i64 k, .int .i64 i, .int .u64 u, .string s']] w fun e w' => e = .returned (.int .i64 (ord k i u s k i u s')) ∧ Below w.heap.size w w' := by
  have h0 := eqB k
  have h2 := eqB i
  have h3 := eqB u
  rw [show ord k i u s k i u s' = 0 by unfold ord or4 cmpS; rw [cmpI_self, cmpI_self, cmpI_self, h, h']; simp]
  go_enter Tryz.func72, Tryz.ntmps72
  go_wp2_with (first | (go_at_call 73; refine (rby_any _ _).mono ?_; rintro e w' ⟨rfl, rfl⟩))
  go_ret
  exact ⟨rfl, by go_grown⟩

theorem less_irrefl : ∀ l : List UInt8, Op.bytesLess l l = false
  | [] => rfl
  | a :: l => by
    have := less_irrefl l
    simp [Op.bytesLess, this]

theorem rOrder_any (k i u : Int) (s : ByteArray) (k' i' u' : Int) (s' : ByteArray) (w : World) :
    Calls Tryz.prog 72 #[.agg #[.int .i64 k, .int .i64 i, .int .u64 u, .string s], .agg #[.int .i64 k', .int .i64 i', .int .u64 u', .string s']] w fun e w' => e = .returned (.int .i64 (ord k i u s k' i' u' s')) ∧ Below w.heap.size w w' := by
  by_cases hk : k = k'
  · subst hk
    by_cases hi : i = i'
    · subst hi
      by_cases hu : u = u'
      · subst hu
        cases hs : s.toList == s'.toList
        · exact rOrder_s k i u s s' w hs
        · have e : s.toList = s'.toList := by simpa using hs
          exact rOrder_same k i u s s' w hs (by rw [e]; exact less_irrefl _)
      · exact rOrder_u k i u s u' s' w hu
    · exact rOrder_i k i u s i' u' s' w hi
  · exact rOrder_k k i u s k' i' u' s' w hk
end Go.Proofs.YtmgeefhacnadcaaGreatDoor
namespace Go.Proofs.YtmgeefhacnadcaaGreatDoor
open Go.RowKit

theorem cmpI_lt {a b : Int} (h : a < b) : cmpI a b = -1 := by unfold cmpI; rw [if_pos h]
theorem cmpI_gt {a b : Int} (h : b < a) : cmpI a b = 1 := by unfold cmpI; rw [if_neg (by omega), if_pos h]

set_option maxHeartbeats 1000000 in
theorem rLists_some (a b : Addr) (ca cb : Nat) (l m : List Vl) (w : World) (hv : ValsAt w a l) (hv' : ValsAt w b m) (hl : l.length ≤ 9223372036854775807) (_hm : m.length ≤ 9223372036854775807) :
    Calls Tryz.prog 38 #[.slice (some a) l.length ca, .slice (some b) m.length cb] w fun e w' => e = .returned (.int .i64 (lists l m)) ∧ Below w.heap.size w w' := by
  go_enter Tryz.func38, Tryz.ntmps38
  go_wp2
  go_loopw [5] (fun i wr => ∃ (k : Nat), k ≤ l.length ∧ k ≤ m.length ∧ i = .int .i64 k ∧ LRel l m k ∧ Below w.heap.size w wr) (fun i _ => l.length - (intOf i).toNat)
  case atStart => exact ⟨0, by omega, by omega, rfl, LRel.zero _ _, by go_grown⟩
  case round =>
    obtain ⟨k, hk, hk', rfl, hrel, hbw⟩ := hrel
    by_cases hkl : k < l.length
    · by_cases hkm : k < m.length
      · obtain ⟨x, hx⟩ : ∃ v, l[k] = v := ⟨_, rfl⟩
        obtain ⟨y, hy⟩ : ∃ v, m[k] = v := ⟨_, rfl⟩
        have hX := (hv k hkl).keep hbw (Nat.le_refl _)
        have hY := (hv' k hkm).keep hbw (Nat.le_refl _)
        rw [hx] at hX
        rw [hy] at hY
        obtain ⟨h0, h1, h2, h3⟩ := hX
        obtain ⟨g0, g1, g2, g3⟩ := hY
        have hal : (a.add (k * 4)).block < wr.heap.size := ValAt.lt (v := x) ⟨h0, h1, h2, h3⟩
        have hbl : (b.add (k * 4)).block < wr.heap.size := ValAt.lt (v := y) ⟨g0, g1, g2, g3⟩
        have C : ∀ W, Calls Tryz.prog 72 #[.agg #[.int .i64 x.k, .int .i64 x.i, .int .u64 x.u, .string x.s], .agg #[.int .i64 y.k, .int .i64 y.i, .int .u64 y.u, .string y.s]] W fun e w' => e = .returned (.int .i64 (x.ord y)) ∧ Below W.heap.size W w' := fun W => rOrder_any _ _ _ _ _ _ _ _ _
        obtain ⟨o, ho⟩ : ∃ o, x.ord y = o := ⟨_, rfl⟩
        rw [ho] at C
        have HC := Lib.hid C
        clear C
        by_cases h00 : o = 0
        · have HK := Lib.hid (hrel.yes hkl hkm hx hy (ho.trans h00))
          clear hrel hx hy ho
          subst h00
          go_wp2_with fail
          go_region_held3 (fun w' => w'.cell? (a.add (k * 4)) = some (Value.int IntKind.i64 x.k) ∧ w'.cell? { block := (a.add (k * 4)).block, off := (a.add (k * 4)).off + 1 } = some (Value.int IntKind.i64 x.i) ∧ w'.cell? { block := (a.add (k * 4)).block, off := (a.add (k * 4)).off + 2 } = some (Value.int IntKind.u64 x.u) ∧ w'.cell? { block := (a.add (k * 4)).block, off := (a.add (k * 4)).off + 3 } = some (Value.string x.s) ∧ w'.cell? (b.add (k * 4)) = some (Value.int IntKind.i64 y.k) ∧ w'.cell? { block := (b.add (k * 4)).block, off := (b.add (k * 4)).off + 1 } = some (Value.int IntKind.i64 y.i) ∧ w'.cell? { block := (b.add (k * 4)).block, off := (b.add (k * 4)).off + 2 } = some (Value.int IntKind.u64 y.u) ∧ w'.cell? { block := (b.add (k * 4)).block, off := (b.add (k * 4)).off + 3 } = some (Value.string y.s)) (first | (go_keep; done) | (simp [*, go_sem]; done) | (refine ⟨?_, ?_, ?_, ?_, ?_, ?_, ?_, ?_⟩ <;> (rw [hb3.cell (by first | (simp; done) | (simp; omega))]; first | assumption | (simp [*, go_sem]; done))))
            (first | (go_at_call 72; refine (HC.out _).mono ?_; rintro e w3 ⟨rfl, hb3⟩))
          all_goals go_wp2_with fail
          all_goals go_roundw
          case rel => exact ⟨k + 1, by omega, by omega, by go_num, HK.out, hbw.trans (((show Below wr.heap.size wr _ from by go_grown).trans (hb3.mono (by simp; try omega))).mono hbw.size)⟩
          case measure => simp [intOf]; omega
        · have HK := Lib.hid ((hrel.no hkl hkm hx hy (by omega)).trans ho)
          clear hrel hx hy ho
          go_wp2_with fail
          go_region_held3 (fun w' => w'.cell? (a.add (k * 4)) = some (Value.int IntKind.i64 x.k) ∧ w'.cell? { block := (a.add (k * 4)).block, off := (a.add (k * 4)).off + 1 } = some (Value.int IntKind.i64 x.i) ∧ w'.cell? { block := (a.add (k * 4)).block, off := (a.add (k * 4)).off + 2 } = some (Value.int IntKind.u64 x.u) ∧ w'.cell? { block := (a.add (k * 4)).block, off := (a.add (k * 4)).off + 3 } = some (Value.string x.s) ∧ w'.cell? (b.add (k * 4)) = some (Value.int IntKind.i64 y.k) ∧ w'.cell? { block := (b.add (k * 4)).block, off := (b.add (k * 4)).off + 1 } = some (Value.int IntKind.i64 y.i) ∧ w'.cell? { block := (b.add (k * 4)).block, off := (b.add (k * 4)).off + 2 } = some (Value.int IntKind.u64 y.u) ∧ w'.cell? { block := (b.add (k * 4)).block, off := (b.add (k * 4)).off + 3 } = some (Value.string y.s)) (first | (go_keep; done) | (simp [*, go_sem]; done) | (refine ⟨?_, ?_, ?_, ?_, ?_, ?_, ?_, ?_⟩ <;> (rw [hb3.cell (by first | (simp; done) | (simp; omega))]; first | assumption | (simp [*, go_sem]; done))))
            (first | (go_at_call 72; refine (HC.out _).mono ?_; rintro e w3 ⟨rfl, hb3⟩))
          all_goals go_wp2_with fail
          all_goals go_ret
          all_goals exact ⟨by rw [HK.out]; rfl, hbw.trans (((show Below wr.heap.size wr _ from by go_grown).trans (hb3.mono (by simp; try omega))).mono hbw.size)⟩
      · have HK := Lib.hid (hrel.all (by omega) (by omega) (by omega))
        clear hrel
        by_cases he : (l.length : Int) = m.length
        · have he' : ((l.length : Int) == m.length) = true := by simpa using he
          go_wp2_with fail
          go_ret
          exact ⟨by rw [HK.out, he, cmpI_self]; rfl, hbw⟩
        · have he' : ((l.length : Int) == m.length) = false := by simpa using he
          go_wp2_with (first | (go_at_call 73; refine (rby_any _ _).mono ?_; rintro e w' ⟨rfl, rfl⟩))
          go_ret
          exact ⟨by rw [HK.out]; first | (rw [cmpI_lt (by omega)]; rfl) | (rw [cmpI_gt (by omega)]; rfl), hbw⟩
    · have HK := Lib.hid (hrel.all (by omega) (by omega) (by omega))
      clear hrel
      by_cases he : (l.length : Int) = m.length
      · have he' : ((l.length : Int) == m.length) = true := by simpa using he
        go_wp2_with fail
        go_ret
        exact ⟨by rw [HK.out, he, cmpI_self]; rfl, hbw⟩
      · have he' : ((l.length : Int) == m.length) = false := by simpa using he
        go_wp2_with (first | (go_at_call 73; refine (rby_any _ _).mono ?_; rintro e w' ⟨rfl, rfl⟩))
        go_ret
        exact ⟨by rw [HK.out]; first | (rw [cmpI_lt (by omega)]; rfl) | (rw [cmpI_gt (by omega)]; rfl), hbw⟩

set_option maxHeartbeats 1000000 in
theorem rLists_nn  (w : World) :
    Calls Tryz.prog 38 #[.slice none 0 0, .slice none 0 0] w fun e w' => e = .returned (.int .i64 (lists [] [])) ∧ Below w.heap.size w w' := by
  have HK := Lib.hid (LRel.all (l := []) (m := []) (k := 0) (LRel.zero _ _) (by omega) (by omega) (by simp))
  go_enter Tryz.func38, Tryz.ntmps38
  go_wp2
  go_loop [5] (fun i => i = .int .i64 0) (fun i => 0)
  case atStart => rfl
  case round =>
    subst hrel
    have HV := Lib.hid (show lists [] [] = 0 by rw [HK.out]; rfl)
    go_wp2_with (first | (go_at_call 73; refine (rby_any _ _).mono ?_; rintro e w' ⟨rfl, rfl⟩))
    go_ret
    exact ⟨by rw [HV.out]; rfl, Below.refl _ _⟩

set_option maxHeartbeats 1000000 in
theorem rLists_ns (b : Addr) (cb : Nat) (m : List Vl) (w : World) :
    Calls Tryz.prog 38 #[.slice none 0 0, .slice (some b) m.length cb] w fun e w' => e = .returned (.int .i64 (lists [] m)) ∧ Below w.heap.size w w' := by
  have HK := Lib.hid (LRel.all (l := []) (m := m) (k := 0) (LRel.zero _ _) (by omega) (by omega) (by simp))
  go_enter Tryz.func38, Tryz.ntmps38
  go_wp2
  go_loop [5] (fun i => i = .int .i64 0) (fun i => 0)
  case atStart => rfl
  case round =>
    subst hrel
    rcases Nat.eq_zero_or_pos m.length with h0 | h0
    · have HV := Lib.hid (show lists [] m = 0 by rw [HK.out, h0]; rfl)
      have hb : ((0 : Int) == (m.length : Int)) = true := by simp [h0]
      go_wp2_with (first | (go_at_call 73; refine (rby_any _ _).mono ?_; rintro e w' ⟨rfl, rfl⟩))
      go_ret
      exact ⟨by rw [HV.out]; rfl, Below.refl _ _⟩
    · have HV := Lib.hid (HK.out.trans (cmpI_lt (by simp; omega)))
      have hb : ((0 : Int) == (m.length : Int)) = false := by rw [beq_eq_false_iff_ne]; omega
      go_wp2_with (first | (go_at_call 73; refine (rby_any _ _).mono ?_; rintro e w' ⟨rfl, rfl⟩))
      go_ret
      exact ⟨by rw [HV.out]; rfl, Below.refl _ _⟩

set_option maxHeartbeats 1000000 in
theorem rLists_sn (a : Addr) (ca : Nat) (l : List Vl) (w : World) (_hl : l.length ≤ 9223372036854775807) :
    Calls Tryz.prog 38 #[.slice (some a) l.length ca, .slice none 0 0] w fun e w' => e = .returned (.int .i64 (lists l [])) ∧ Below w.heap.size w w' := by
  have HK := Lib.hid (LRel.all (l := l) (m := []) (k := 0) (LRel.zero _ _) (by omega) (by omega) (by simp))
  go_enter Tryz.func38, Tryz.ntmps38
  go_wp2
  go_loop [5] (fun i => i = .int .i64 0) (fun i => 0)
  case atStart => rfl
  case round =>
    subst hrel
    rcases Nat.eq_zero_or_pos l.length with h0 | h0
    · have HV := Lib.hid (show lists l [] = 0 by rw [HK.out, h0]; rfl)
      have hb : ((l.length : Int) == (0 : Int)) = true := by simp [h0]
      go_wp2_with (first | (go_at_call 73; refine (rby_any _ _).mono ?_; rintro e w' ⟨rfl, rfl⟩))
      go_ret
      exact ⟨by rw [HV.out]; rfl, Below.refl _ _⟩
    · have HV := Lib.hid (HK.out.trans (cmpI_gt (by rw [List.length_nil]; omega)))
      have hb : ((l.length : Int) == (0 : Int)) = false := by rw [beq_eq_false_iff_ne]; omega
      go_wp2_with (first | (go_at_call 73; refine (rby_any _ _).mono ?_; rintro e w' ⟨rfl, rfl⟩))
      go_ret
      exact ⟨by rw [HV.out]; rfl, Below.refl _ _⟩

theorem rLists_any (v v' : Value) (l m : List Vl) (w : World) (hv : SliceOf w v l) (hv' : SliceOf w v' m) (hl : l.length ≤ 9223372036854775807) (hm : m.length ≤ 9223372036854775807) :
    Calls Tryz.prog 38 #[v, v'] w fun e w' => e = .returned (.int .i64 (lists l m)) ∧ Below w.heap.size w w' := by
  rcases hv with ⟨rfl, rfl⟩ | ⟨a, ca, rfl, hla, ha⟩
  · rcases hv' with ⟨rfl, rfl⟩ | ⟨b, cb, rfl, _, hb⟩
    · exact rLists_nn w
    · exact rLists_ns b cb m w
  · rcases hv' with ⟨rfl, rfl⟩ | ⟨b, cb, rfl, _, hb⟩
    · exact rLists_sn a ca l w hl
    · exact rLists_some a b ca cb l m w ha hb hl hm
theorem rSame_any (v v' : Value) (l m : List Vl) (w : World) (hv : SliceOf w v l) (hv' : SliceOf w v' m) (hl : l.length ≤ 9223372036854775807) (hm : m.length ≤ 9223372036854775807) :
    Calls Tryz.prog 20 #[v, v'] w fun e w' => e = .returned (.bool (lists l m == 0)) ∧ Below w.heap.size w w' := by
  have HC := Lib.hid (rLists_any v v' l m w hv hv' hl hm)
  clear hv hv' hl hm
  obtain ⟨o, ho⟩ : ∃ o, lists l m = o := ⟨_, rfl⟩
  rw [ho] at HC ⊢
  clear ho
  cases hoz : o == 0 <;>
  ( go_enter Tryz.func20, Tryz.ntmps20
    go_wp2_with (first | (go_at_call 38; refine HC.out.mono ?_; rintro e w' ⟨rfl, hb⟩))
    go_ret
    exact ⟨by rfl, hb⟩ )
end Go.Proofs.YtmgeefhacnadcaaGreatDoor
namespace Go.Proofs.YtmgeefhacnadcaaGreatDoor
open Go.RowKit

/-- what the value of that place is converted to, and its error's number -/
def cvAt (cs ds : List Col) (vs : List Vl) (j : Nat) : Int × Vl := cvO (cs.getD j col0) (ds.getD j col0) (vs.getD j val0)
/-- the first number that is not 0 -/
def cvrE (f : Nat → Int) : Nat → Int
  | 0 => 0
  | n + 1 => if cvrE f n = 0 then f n else cvrE f n
theorem cvrE_stop {f : Nat → Int} {k : Nat} {m : Int} (h0 : cvrE f k = 0) (hm : f k = m) (h : m ≠ 0) : ∀ n, k < n → cvrE f n = m
  | 0, hk => absurd hk (Nat.not_lt_zero k)
  | n + 1, hk => by
    unfold cvrE
    by_cases e : k = n
    · subst e
      rw [if_pos h0, hm]
    · have ih := cvrE_stop h0 hm h n (by omega)
      rw [if_neg (by rw [ih]; exact h), ih]
theorem cvrE_next {f : Nat → Int} {k : Nat} (h0 : cvrE f k = 0) (hm : f k = 0) : cvrE f (k + 1) = 0 := by
  unfold cvrE
  rw [if_pos h0, hm]
def cvrL (cs ds : List Col) (vs : List Vl) (n : Nat) : List Vl := (List.range n).map fun j => (cvAt cs ds vs j).2
theorem cvrL_len (cs ds : List Col) (vs : List Vl) (n : Nat) : (cvrL cs ds vs n).length = n := by simp [cvrL]
theorem cvrL_at (cs ds : List Col) (vs : List Vl) {k n : Nat} (h : k < n) : (cvrL cs ds vs n).getD k val0 = (cvAt cs ds vs k).2 := by
  unfold cvrL
  rw [List.getD_eq_getElem?_getD, List.getElem?_map, List.getElem?_range h]
  rfl
theorem cvrL_next (cs ds : List Col) (vs : List Vl) (k : Nat) : cvrL cs ds vs (k + 1) = cvrL cs ds vs k ++ [(cvAt cs ds vs k).2] := by
  unfold cvrL
  rw [List.range_succ, List.map_append]
  rfl
def cvrN (cs ds : List Col) (vs : List Vl) : Int := if ds.length = cs.length ∧ vs.length = cs.length then cvrE (fun j => (cvAt cs ds vs j).1) vs.length else 130
def cvrR (cs ds : List Col) (vs : List Vl) : List Vl := if cvrN cs ds vs = 0 then cvrL cs ds vs vs.length else []
theorem cvAt_at {cs ds : List Col} {vs : List Vl} {k : Nat} {c d : Col} {v : Vl} (h1 : k < cs.length) (h2 : k < ds.length) (h3 : k < vs.length) (e1 : cs[k] = c) (e2 : ds[k] = d) (e3 : vs[k] = v) : cvAt cs ds vs k = cvO c d v := by
  unfold cvAt
  rw [List.getD_eq_getElem?_getD, List.getD_eq_getElem?_getD, List.getD_eq_getElem?_getD, List.getElem?_eq_getElem h1, List.getElem?_eq_getElem h2, List.getElem?_eq_getElem h3, e1, e2, e3]
  rfl
/-- twelve cells, and what is below a place -/
structure Cells12 (W : World) (a b c : Addr) (x y : Col) (v : Vl) : Prop where
  x : ColAt W a x
  y : ColAt W b y
  v : ValAt W c v
theorem slice_vals {W : World} {b : Nat} {l : List Vl} {n : Nat} (hn : l.length = n) (h : ValsIn W (some ⟨b, 0, none⟩) l) : SliceOf W (.slice (some ⟨b, 0, none⟩) n n) l :=
  .inr ⟨⟨b, 0, none⟩, n, by rw [hn], by omega, fun j hj => by
    obtain ⟨a, e, hv⟩ := h j hj
    cases e
    exact hv⟩
end Go.Proofs.YtmgeefhacnadcaaGreatDoor
namespace Go.Proofs.YtmgeefhacnadcaaGreatDoor
open Go.RowKit

set_option maxRecDepth 100000 in
set_option maxHeartbeats 8000000 in
theorem wrow_any (cs ds : List Col) (vs : List Vl) (n : Nat) (oc od ov : Option Addr) (cc cd cv : Nat) (r : Nat) (es : Array MapEntry) (cl : Nat) (w : World) (hE : Env w) (hm : w.heap[r]? = some (.map es cl)) (hw : IsWays es) (hc : ColsIn w oc cs) (hd : ColsIn w od ds) (hv : ValsIn w ov vs) (h1 : cs.length = n) (h2 : ds.length = n) (h3 : vs.length = n) (hn : n ≤ 1000) (nc : ∀ c ∈ cs, c.n.size ≤ 9223372036854775807) (nd : ∀ c ∈ ds, c.n.size ≤ 9223372036854775807) (ok : ∀ v ∈ vs, v.ok) :
    Calls Tryz.prog 37 #[.map (some r), .slice oc n cc, .slice od n cd, .slice ov n cv] w fun e w' =>
      (cvrE (fun j => (cvAt cs ds vs j).1) n = 0 ∧ (∃ b, e = .returned (.tuple #[.slice (some ⟨b, 0, none⟩) n n, .nilIface]) ∧ ValsIn w' (some ⟨b, 0, none⟩) (cvrL cs ds vs n)) ∧ Below w.heap.size w w') ∨
      (cvrE (fun j => (cvAt cs ds vs j).1) n ≠ 0 ∧ (∃ b, e = .returned (.tuple #[.slice none 0 0, .iface 147 (.pointer (some ⟨b, 0, none⟩))]) ∧ w.heap.size ≤ b ∧ w'.cell? ⟨b, 1, none⟩ = some (.int .i64 (cvrE (fun j => (cvAt cs ds vs j).1) n))) ∧ Below w.heap.size w w') := by
  have hmk : ∀ W, (Instr.makeSlice 52 (.int .i64 (n : Int)) (.int .i64 (n : Int))).run Tryz.prog W = .ok (.slice (some ⟨W.heap.size, 0, none⟩) n n) (W.alloc (.cells (madeCells #[.int .i64 0, .int .i64 0, .int .u64 0, .string ⟨#[]⟩] (n * 4)) 28)) :=
    run_make4 52 28 (.agg #[.int .i64 0, .int .i64 0, .int .u64 0, .string ⟨#[]⟩]) 40 Tryz.underlying52 infoV n (by omega) (by omega)
  have HW0 : Hid (∀ (c d : Col) (v : Vl) W, c ∈ cs → d ∈ ds → v ∈ vs → Below w.heap.size w W → Calls Tryz.prog 27 #[.map (some r), .agg #[.string c.n, .int .i64 c.t, .int .i64 c.z, .bool c.u], .agg #[.string d.n, .int .i64 d.t, .int .i64 d.z, .bool d.u], .agg #[.int .i64 v.k, .int .i64 v.i, .int .u64 v.u, .string v.s]] W (CvPost (cvO c d v) W)) := Lib.hid (fun c d v W mc md mv hb => wconvert_any c d v r es cl W (hE.keep hb) (heap_keep hm hb) hw (nc c mc) (nd d md) (ok v mv))
  have HC := Lib.hid hc
  have HD := Lib.hid hd
  have HV := Lib.hid hv
  clear hc hd hv hE hm hw nc nd ok
  go_enter Tryz.func37, Tryz.ntmps37
  go_wp2_with (go_at_call 71; refine (Of_any _ _ _).mono ?_; rintro e w' ⟨rfl, rfl⟩)
  have hrow0 := rowIs_made4 w #[.int .i64 0, .int .i64 0, .int .u64 0, .string ⟨#[]⟩] rfl n 28
  have hb0 : Below w.heap.size w (w.alloc (.cells (madeCells #[.int .i64 0, .int .i64 0, .int .u64 0, .string ⟨#[]⟩] (n * 4)) 28)) := (Below.refl _ _).alloc (Nat.le_refl _) _
  generalize w.alloc (.cells (madeCells #[.int .i64 0, .int .i64 0, .int .u64 0, .string ⟨#[]⟩] (n * 4)) 28) = w1 at *
  go_loopw [33] (fun i wr => ∃ (k : Nat), k ≤ n ∧ i = .int .i64 k ∧ Hid (cvrE (fun j => (cvAt cs ds vs j).1) k = 0) ∧ wr.rowIs w.heap.size 28 (n * 4) (rowOf valCell (fun j => (#[.int .i64 0, .int .i64 0, .int .u64 0, .string ⟨#[]⟩] : Array Value)[j]!) val0 (cvrL cs ds vs n) k) ∧ Below w.heap.size w wr) (fun i _ => n - (intOf i).toNat)
  case atStart => exact ⟨0, by omega, rfl, Lib.hid rfl, hrow0.congr (fun j _ => by simp [rowOf]), hb0⟩
  case round =>
    obtain ⟨k, hk, rfl, HK, hrow, hbw⟩ := hrel
    clear hrow0 hb0 hmk
    have hgl := hrow.lt
    by_cases hkl : k < n
    · have k1 : k < cs.length := by omega
      have k2 : k < ds.length := by omega
      have k3 : k < vs.length := by omega
      obtain ⟨c, hcc⟩ : ∃ c, cs[k] = c := ⟨_, rfl⟩
      obtain ⟨d, hdd⟩ : ∃ c, ds[k] = c := ⟨_, rfl⟩
      obtain ⟨v, hvv⟩ : ∃ c, vs[k] = c := ⟨_, rfl⟩
      obtain ⟨ac, rfl, hac⟩ := HC.out.keep hbw (Nat.le_refl _) k k1
      obtain ⟨ad, rfl, had⟩ := HD.out.keep hbw (Nat.le_refl _) k k2
      obtain ⟨av, rfl, hav⟩ := HV.out.keep hbw (Nat.le_refl _) k k3
      rw [hcc] at hac
      rw [hdd] at had
      rw [hvv] at hav
      have hal := hac.lt
      have hdl := had.lt
      have hvl := hav.lt
      have HCV := Lib.hid (cvAt_at k1 k2 k3 hcc hdd hvv)
      have HWv : Hid (∀ W, Below w.heap.size w W → Calls Tryz.prog 27 #[.map (some r), .agg #[.string c.n, .int .i64 c.t, .int .i64 c.z, .bool c.u], .agg #[.string d.n, .int .i64 d.t, .int .i64 d.z, .bool d.u], .agg #[.int .i64 v.k, .int .i64 v.i, .int .u64 v.u, .string v.s]] W (CvPost (cvO c d v) W)) := Lib.hid (fun W hb => HW0.out c d v W (by rw [← hcc]; exact List.getElem_mem k1) (by rw [← hdd]; exact List.getElem_mem k2) (by rw [← hvv]; exact List.getElem_mem k3) hb)
      clear hcc hdd hvv HC HD HV HW0 k1 k2 k3
      obtain ⟨c0, c1, c2, c3⟩ := hac
      obtain ⟨d0, d1, d2, d3⟩ := had
      obtain ⟨v0, v1, v2, v3⟩ := hav
      go_upto_region 7 with fail
      obtain ⟨W1, hW1⟩ : ∃ W1, wr.alloc (.cells #[.int .i64 v.k, .int .i64 v.i, .int .u64 v.u, .string v.s] 28) = W1 := ⟨_, rfl⟩
      have hb1 : Below wr.heap.size wr W1 := by rw [← hW1]; exact (Below.refl _ _).alloc (Nat.le_refl _) _
      have hrow1 : W1.rowIs w.heap.size 28 (n * 4) (rowOf valCell (fun j => (#[.int .i64 0, .int .i64 0, .int .u64 0, .string ⟨#[]⟩] : Array Value)[j]!) val0 (cvrL cs ds vs n) k) := by rw [← hW1]; exact hrow.alloc _
      have b0 : W1.cell? ⟨wr.heap.size, 0, none⟩ = some (.int .i64 v.k) := by rw [← hW1]; simp [go_sem]
      have b1 : W1.cell? ⟨wr.heap.size, 1, none⟩ = some (.int .i64 v.i) := by rw [← hW1]; simp [go_sem]
      have b2 : W1.cell? ⟨wr.heap.size, 2, none⟩ = some (.int .u64 v.u) := by rw [← hW1]; simp [go_sem]
      have b3 : W1.cell? ⟨wr.heap.size, 3, none⟩ = some (.string v.s) := by rw [← hW1]; simp [go_sem]
      replace c0 := keep_cell hb1 c0
      replace c1 := keep_cell hb1 c1
      replace c2 := keep_cell hb1 c2
      replace c3 := keep_cell hb1 c3
      replace d0 := keep_cell hb1 d0
      replace d1 := keep_cell hb1 d1
      replace d2 := keep_cell hb1 d2
      replace d3 := keep_cell hb1 d3
      rw [hW1]
      have hbW := held_trans hbw hb1
      have HB1 := Lib.hid hbW
      have hz1 := hb1.size
      have hz2 := hbw.size
      have hz3 : wr.heap.size < W1.heap.size := World.block_lt_of_cell? _ _ b0
      have HROW := Lib.hid hrow1
      clear v0 v1 v2 v3 hrow hrow1 hW1 hb1 hbW hbw
      have HS : Hid (∀ W, Below W1.heap.size W1 W → W.cell? (ac.add (k * 4)) = some (.string c.n) ∧ W.cell? ⟨(ac.add (k * 4)).block, (ac.add (k * 4)).off + 1, none⟩ = some (.int .i64 c.t) ∧ W.cell? ⟨(ac.add (k * 4)).block, (ac.add (k * 4)).off + 2, none⟩ = some (.int .i64 c.z) ∧ W.cell? ⟨(ac.add (k * 4)).block, (ac.add (k * 4)).off + 3, none⟩ = some (.bool c.u) ∧ W.cell? (ad.add (k * 4)) = some (.string d.n) ∧ W.cell? ⟨(ad.add (k * 4)).block, (ad.add (k * 4)).off + 1, none⟩ = some (.int .i64 d.t) ∧ W.cell? ⟨(ad.add (k * 4)).block, (ad.add (k * 4)).off + 2, none⟩ = some (.int .i64 d.z) ∧ W.cell? ⟨(ad.add (k * 4)).block, (ad.add (k * 4)).off + 3, none⟩ = some (.bool d.u) ∧ W.cell? ⟨wr.heap.size, 0, none⟩ = some (.int .i64 v.k) ∧ W.cell? ⟨wr.heap.size, 1, none⟩ = some (.int .i64 v.i) ∧ W.cell? ⟨wr.heap.size, 2, none⟩ = some (.int .u64 v.u) ∧ W.cell? ⟨wr.heap.size, 3, none⟩ = some (.string v.s) ∧ Below W1.heap.size W1 W) := Lib.hid (fun W hb => ⟨keep_cell hb c0, keep_cell hb c1, keep_cell hb c2, keep_cell hb c3, keep_cell hb d0, keep_cell hb d1, keep_cell hb d2, keep_cell hb d3, keep_cell hb b0, keep_cell hb b1, keep_cell hb b2, keep_cell hb b3, hb⟩)
      cases hcv : cvO c d v with
      | mk m x =>
      have HCV2 := Lib.hid (HCV.out.trans hcv)
      rw [hcv] at HWv
      clear hcv HCV
      by_cases hm0 : m = 0
      · subst hm0
        have HW : Hid (∀ W, Below W1.heap.size W1 W → Calls Tryz.prog 27 #[.map (some r), .agg #[.string c.n, .int .i64 c.t, .int .i64 c.z, .bool c.u], .agg #[.string d.n, .int .i64 d.t, .int .i64 d.z, .bool d.u], .agg #[.int .i64 v.k, .int .i64 v.i, .int .u64 v.u, .string v.s]] W fun e w' => e = .returned (.tuple #[.agg #[.int .i64 x.k, .int .i64 x.i, .int .u64 x.u, .string x.s], .nilIface]) ∧ Below W.heap.size W w') := Lib.hid (fun W hb => (HWv.out W (held_trans HB1.out hb)).mono fun e w' h => by
          rcases h with ⟨_, e, hb⟩ | ⟨h, _⟩
          · exact ⟨e, hb⟩
          · exact absurd rfl h)
        have HK2 := Lib.hid (cvrE_next HK.out (by show (cvAt cs ds vs k).1 = 0; rw [HCV2.out]))
        have HP := Lib.hid (show (cvrL cs ds vs n).getD k val0 = x by rw [cvrL_at cs ds vs hkl, HCV2.out])
        clear HWv HCV2 HK
        go_cut [13, 14] from 34 to 59 (fun s13 s14 wx => ∃ q, s13 = .pointer (some ⟨q, 0, none⟩) ∧ s14 = .nilIface ∧ W1.heap.size ≤ q ∧ wx.cell? ⟨q, 0, none⟩ = some (.int .i64 x.k) ∧ wx.cell? ⟨q, 1, none⟩ = some (.int .i64 x.i) ∧ wx.cell? ⟨q, 2, none⟩ = some (.int .u64 x.u) ∧ wx.cell? ⟨q, 3, none⟩ = some (.string x.s) ∧ Below W1.heap.size W1 wx)
        case first =>
          go_region_held3 (fun w' => w'.cell? (ac.add (k * 4)) = some (.string c.n) ∧ w'.cell? ⟨(ac.add (k * 4)).block, (ac.add (k * 4)).off + 1, none⟩ = some (.int .i64 c.t) ∧ w'.cell? ⟨(ac.add (k * 4)).block, (ac.add (k * 4)).off + 2, none⟩ = some (.int .i64 c.z) ∧ w'.cell? ⟨(ac.add (k * 4)).block, (ac.add (k * 4)).off + 3, none⟩ = some (.bool c.u) ∧ w'.cell? (ad.add (k * 4)) = some (.string d.n) ∧ w'.cell? ⟨(ad.add (k * 4)).block, (ad.add (k * 4)).off + 1, none⟩ = some (.int .i64 d.t) ∧ w'.cell? ⟨(ad.add (k * 4)).block, (ad.add (k * 4)).off + 2, none⟩ = some (.int .i64 d.z) ∧ w'.cell? ⟨(ad.add (k * 4)).block, (ad.add (k * 4)).off + 3, none⟩ = some (.bool d.u) ∧ w'.cell? ⟨wr.heap.size, 0, none⟩ = some (.int .i64 v.k) ∧ w'.cell? ⟨wr.heap.size, 1, none⟩ = some (.int .i64 v.i) ∧ w'.cell? ⟨wr.heap.size, 2, none⟩ = some (.int .u64 v.u) ∧ w'.cell? ⟨wr.heap.size, 3, none⟩ = some (.string v.s) ∧ Below W1.heap.size W1 w') ((refine HS.out _ ?_; go_split_ands; first | (with_reducible exact below_set4 (by assumption) (by first | exact Nat.le_refl _ | omega | (simp; omega)) _ _ _ _) | (with_reducible exact Below.drew (Below.refl _ _)) | (with_reducible exact held_trans (by assumption) hb4) | (with_reducible exact below_realloc (by assumption) (by omega)) | (with_reducible exact Below.alloc (by assumption) (Below.size (by assumption)) _) | (with_reducible exact Below.alloc (Below.refl _ _) (Nat.le_refl _) _) | (with_reducible exact Below.alloc (Below.drew (Below.refl _ _)) (Nat.le_refl _) _) | (with_reducible exact Below.drew (Below.alloc (Below.refl _ _) (Nat.le_refl _) _)) | (with_reducible exact Below.drew (by assumption))))
            ((go_at_call 27; refine (HW.out _ (by go_split_ands; first | assumption | (exact Below.alloc (by assumption) (Below.size (by assumption)) _))).mono ?_; rintro e w4 ⟨rfl, hb4⟩; have hz4 := hb4.size; (try simp at hz4); (first | have P := zero4 (b := W1.heap.size) hb4 rfl | have P := zero4d (b := W1.heap.size) hb4 rfl | skip); (try (have P4 := P; obtain ⟨p0, p1, p2, p3, fp0, fp1, fp2, fp3, hpl⟩ := P))))
          all_goals go_wp2_with (go_at_call 71; refine (Of_any _ _ _).mono ?_; rintro e w' ⟨rfl, rfl⟩)
          all_goals go_meet
          all_goals rename_i hh
          all_goals refine ⟨_, rfl, rfl, by omega, ?_⟩
          all_goals (first | refine ⟨by simp [go_sem], by simp [go_sem], by simp [go_sem], by simp [go_sem], hh.2.2.2.2.2.2.2.2.2.2.2.2⟩ | (obtain ⟨k0, k1, k2, k3⟩ := zero4_set P4 (.int .i64 x.k) (.int .i64 x.i) (.int .u64 x.u) (.string x.s); refine ⟨k0, k1, k2, k3, hh.2.2.2.2.2.2.2.2.2.2.2.2⟩))
        case rest =>
          obtain ⟨q, rfl, rfl, hq, e0, e1, e2, e3, hbx⟩ := hcut
          have hrow := HROW.out.of_block (hbx.block _ (by omega))
          have r0 := hrow.cell (i := k * 4) (by omega)
          have r1 := hrow.cell (i := k * 4 + 1) (by omega)
          have r2 := hrow.cell (i := k * 4 + 2) (by omega)
          have r3 := hrow.cell (i := k * 4 + 3) (by omega)
          have f0 := hrow.frozen (k * 4)
          have f1 := hrow.frozen (k * 4 + 1)
          have f2 := hrow.frozen (k * 4 + 2)
          have f3 := hrow.frozen (k * 4 + 3)
          have hbT := held_trans HB1.out hbx
          have HBT := Lib.hid hbT
          have hql : q < wc.heap.size := World.block_lt_of_cell? _ _ e0
          have hwl : w.heap.size < wc.heap.size := World.block_lt_of_cell? _ _ r0
          have HRW := Lib.hid hrow
          clear hbx hbT HS HROW hrow c0 c1 c2 c3 d0 d1 d2 d3 b0 b1 b2 b3
          go_wp2_with (go_at_call 71; refine (Of_any _ _ _).mono ?_; rintro e w' ⟨rfl, rfl⟩)
          go_roundw
          case rel => exact ⟨k + 1, by omega, by go_num, HK2, ((((HRW.out.set _ _).set _ _).set _ _).set _ _).congr (fun j _ => rowOf_next (cell := valCell) j (valCell x 0) (valCell x 1) (valCell x 2) (valCell x 3) (by rw [HP.out]) (by rw [HP.out]) (by rw [HP.out]) (by rw [HP.out])), (((HBT.out.setCell (Nat.le_refl _) _).setCell (Nat.le_refl _) _).setCell (Nat.le_refl _) _).setCell (Nat.le_refl _) _⟩
          case measure => simp [intOf]; omega
      · have HW : Hid (∀ W, Below W1.heap.size W1 W → Calls Tryz.prog 27 #[.map (some r), .agg #[.string c.n, .int .i64 c.t, .int .i64 c.z, .bool c.u], .agg #[.string d.n, .int .i64 d.t, .int .i64 d.z, .bool d.u], .agg #[.int .i64 v.k, .int .i64 v.i, .int .u64 v.u, .string v.s]] W fun e w' => ∃ b, e = .returned (.tuple #[.agg #[.int .i64 0, .int .i64 0, .int .u64 0, .string ⟨#[]⟩], .iface 147 (.pointer (some ⟨b, 0, none⟩))]) ∧ W.heap.size ≤ b ∧ w'.cell? ⟨b, 1, none⟩ = some (.int .i64 m) ∧ Below W.heap.size W w') := Lib.hid (fun W hb => (HWv.out W (held_trans HB1.out hb)).mono fun e w' h => by
          rcases h with ⟨h, _⟩ | ⟨_, _, h⟩
          · exact absurd h hm0
          · exact h)
        have HN := Lib.hid (cvrE_stop HK.out (show (cvAt cs ds vs k).1 = m by rw [HCV2.out]) hm0 n hkl)
        have HM0 := Lib.hid hm0
        clear HWv HCV2 HK hm0
        go_cut [13, 14] from 34 to 59 (fun s13 s14 wx => ∃ q b, s13 = .pointer (some ⟨q, 0, none⟩) ∧ s14 = .iface 147 (.pointer (some ⟨b, 0, none⟩)) ∧ W1.heap.size ≤ q ∧ W1.heap.size ≤ b ∧ wx.cell? ⟨q, 0, none⟩ = some (.int .i64 0) ∧ wx.cell? ⟨q, 1, none⟩ = some (.int .i64 0) ∧ wx.cell? ⟨q, 2, none⟩ = some (.int .u64 0) ∧ wx.cell? ⟨q, 3, none⟩ = some (.string ⟨#[]⟩) ∧ wx.cell? ⟨b, 1, none⟩ = some (.int .i64 m) ∧ Below W1.heap.size W1 wx)
        case first =>
          go_region_held3 (fun w' => w'.cell? (ac.add (k * 4)) = some (.string c.n) ∧ w'.cell? ⟨(ac.add (k * 4)).block, (ac.add (k * 4)).off + 1, none⟩ = some (.int .i64 c.t) ∧ w'.cell? ⟨(ac.add (k * 4)).block, (ac.add (k * 4)).off + 2, none⟩ = some (.int .i64 c.z) ∧ w'.cell? ⟨(ac.add (k * 4)).block, (ac.add (k * 4)).off + 3, none⟩ = some (.bool c.u) ∧ w'.cell? (ad.add (k * 4)) = some (.string d.n) ∧ w'.cell? ⟨(ad.add (k * 4)).block, (ad.add (k * 4)).off + 1, none⟩ = some (.int .i64 d.t) ∧ w'.cell? ⟨(ad.add (k * 4)).block, (ad.add (k * 4)).off + 2, none⟩ = some (.int .i64 d.z) ∧ w'.cell? ⟨(ad.add (k * 4)).block, (ad.add (k * 4)).off + 3, none⟩ = some (.bool d.u) ∧ w'.cell? ⟨wr.heap.size, 0, none⟩ = some (.int .i64 v.k) ∧ w'.cell? ⟨wr.heap.size, 1, none⟩ = some (.int .i64 v.i) ∧ w'.cell? ⟨wr.heap.size, 2, none⟩ = some (.int .u64 v.u) ∧ w'.cell? ⟨wr.heap.size, 3, none⟩ = some (.string v.s) ∧ Below W1.heap.size W1 w') ((refine HS.out _ ?_; go_split_ands; first | (with_reducible exact below_set4 (by assumption) (by first | exact Nat.le_refl _ | omega | (simp; omega)) _ _ _ _) | (with_reducible exact Below.drew (Below.refl _ _)) | (with_reducible exact held_trans (by assumption) hb4) | (with_reducible exact below_realloc (by assumption) (by omega)) | (with_reducible exact Below.alloc (by assumption) (Below.size (by assumption)) _) | (with_reducible exact Below.alloc (Below.refl _ _) (Nat.le_refl _) _) | (with_reducible exact Below.alloc (Below.drew (Below.refl _ _)) (Nat.le_refl _) _) | (with_reducible exact Below.drew (Below.alloc (Below.refl _ _) (Nat.le_refl _) _)) | (with_reducible exact Below.drew (by assumption))))
            ((go_at_call 27; refine (HW.out _ (by go_split_ands; first | assumption | (exact Below.alloc (by assumption) (Below.size (by assumption)) _))).mono ?_; rintro e w4 ⟨b, rfl, hbz, hnb, hb4⟩; have hz4 := hb4.size; (try simp at hz4); (try simp at hbz); have HCB := Lib.hid hnb; clear hnb; (first | have P := zero4 (b := W1.heap.size) hb4 rfl | have P := zero4d (b := W1.heap.size) hb4 rfl | skip); (try (have P4 := P; obtain ⟨p0, p1, p2, p3, fp0, fp1, fp2, fp3, hpl⟩ := P))))
          all_goals go_wp2_with (go_at_call 71; refine (Of_any _ _ _).mono ?_; rintro e w' ⟨rfl, rfl⟩)
          all_goals go_meet
          all_goals rename_i hh
          all_goals refine ⟨_, b, rfl, rfl, by omega, by omega, ?_⟩
          all_goals (first | refine ⟨by simp [go_sem], by simp [go_sem], by simp [go_sem], by simp [go_sem], ?_, hh.2.2.2.2.2.2.2.2.2.2.2.2⟩ | (obtain ⟨k0, k1, k2, k3⟩ := zero4_set P4 (.int .i64 0) (.int .i64 0) (.int .u64 0) (.string ⟨#[]⟩); refine ⟨k0, k1, k2, k3, ?_, hh.2.2.2.2.2.2.2.2.2.2.2.2⟩))
          all_goals (first | with_reducible exact (far4 (by omega) _ _ _ _).trans HCB.out | exact (World.cell?_alloc_lt _ _ _ (cell_lt HCB.out)).trans HCB.out)
        case rest =>
          obtain ⟨q, b, rfl, rfl, hq, hbz, e0, e1, e2, e3, hnb, hbx⟩ := hcut
          have hbT := held_trans HB1.out hbx
          have HBT := Lib.hid hbT
          have HNB := Lib.hid hnb
          clear hbx hbT HS HROW hnb c0 c1 c2 c3 d0 d1 d2 d3 b0 b1 b2 b3
          go_wp2_with (go_at_call 71; refine (Of_any _ _ _).mono ?_; rintro e w' ⟨rfl, rfl⟩)
          go_ret2
          refine .inr ⟨by rw [HN.out]; exact HM0.out, ⟨b, rfl, by omega, ?_⟩, HBT.out⟩
          rw [HN.out]
          exact HNB.out
    · obtain rfl : k = n := by omega
      have HK2 := Lib.hid HK.out
      have HR := Lib.hid (rowV (l := cvrL cs ds vs k) (by rw [cvrL_len]; exact hrow))
      clear hrow
      go_wp2_with (go_at_call 71; refine (Of_any _ _ _).mono ?_; rintro e w' ⟨rfl, rfl⟩)
      go_ret2
      exact .inl ⟨HK2.out, ⟨_, rfl, HR.out⟩, hbw⟩

theorem wrow_bad (cs ds : List Col) (vs : List Vl) (oc od ov : Option Addr) (cc cd cv : Nat) (r : Nat) (w : World) (h : ¬ (ds.length = cs.length ∧ vs.length = cs.length)) :
    Calls Tryz.prog 37 #[.map (some r), .slice oc cs.length cc, .slice od ds.length cd, .slice ov vs.length cv] w fun e w' =>
      (∃ b, e = .returned (.tuple #[.slice none 0 0, .iface 147 (.pointer (some ⟨b, 0, none⟩))]) ∧ w.heap.size ≤ b ∧ w'.cell? ⟨b, 1, none⟩ = some (.int .i64 130)) ∧ Below w.heap.size w w' := by
  by_cases h1 : ds.length = cs.length
  · have h2 : vs.length ≠ cs.length := fun e => h ⟨h1, e⟩
    have b1 : ((ds.length : Int) != (cs.length : Int)) = false := by rw [h1]; simp
    have b2 : ((vs.length : Int) != (cs.length : Int)) = true := by
      rw [bne_iff_ne]; intro e; exact h2 (by omega)
    clear h h1 h2
    go_enter Tryz.func37, Tryz.ntmps37
    go_wp2_with (go_at_call 71; refine (Of_any _ _ _).mono ?_; rintro e w' ⟨rfl, rfl⟩)
    go_ret2
    exact ⟨⟨_, rfl, Nat.le_refl _, by simp [go_sem]⟩, (Below.refl _ _).alloc (Nat.le_refl _) _⟩
  · have b1 : ((ds.length : Int) != (cs.length : Int)) = true := by
      rw [bne_iff_ne]; intro e; exact h1 (by omega)
    clear h h1
    go_enter Tryz.func37, Tryz.ntmps37
    go_wp2_with (go_at_call 71; refine (Of_any _ _ _).mono ?_; rintro e w' ⟨rfl, rfl⟩)
    go_ret2
    exact ⟨⟨_, rfl, Nat.le_refl _, by simp [go_sem]⟩, (Below.refl _ _).alloc (Nat.le_refl _) _⟩
end Go.Proofs.YtmgeefhacnadcaaGreatDoor
namespace Go.Proofs.YtmgeefhacnadcaaGreatDoor
open Go.RowKit

theorem cvrN_bad {cs ds : List Col} {vs : List Vl} (h : ¬ (ds.length = cs.length ∧ vs.length = cs.length)) : cvrN cs ds vs = 130 ∧ cvrR cs ds vs = [] := by
  have e : cvrN cs ds vs = 130 := by unfold cvrN; rw [if_neg h]
  refine ⟨e, ?_⟩
  unfold cvrR
  rw [e]
  rfl
theorem cvrN_eq {cs ds : List Col} {vs : List Vl} {n : Nat} (h0 : cs.length = n) (h1 : ds.length = n) (h2 : vs.length = n) : cvrN cs ds vs = cvrE (fun j => (cvAt cs ds vs j).1) n ∧ cvrR cs ds vs = if cvrE (fun j => (cvAt cs ds vs j).1) n = 0 then cvrL cs ds vs n else [] := by
  have e : cvrN cs ds vs = cvrE (fun j => (cvAt cs ds vs j).1) n := by unfold cvrN; rw [if_pos ⟨by omega, by omega⟩, h2]
  refine ⟨e, ?_⟩
  unfold cvrR
  rw [e, h2]
set_option maxRecDepth 100000 in
set_option maxHeartbeats 4000000 in
theorem vRow_bad (cs ds : List Col) (vs : List Vl) (oc od ov : Option Addr) (cc cd cv : Nat) (w : World) (hE : Env w) (h : ¬ (ds.length = cs.length ∧ vs.length = cs.length)) :
    Calls Tryz.prog 18 #[.slice oc cs.length cc, .slice od ds.length cd, .slice ov vs.length cv] w fun e w' => e = .returned (.tuple #[.slice none 0 0, .int .i64 130]) ∧ Below w.heap.size w w' := by
  have HE := Lib.hid (fun W (hb : Below w.heap.size w W) => (hE.keep hb).et)
  have HB := Lib.hid (fun r W => wrow_bad cs ds vs oc od ov cc cd cv r W h)
  clear hE h
  go_enter Tryz.func18, Tryz.ntmps18
  go_wp2_with fail
  refine (known_any _).mono ?_
  rintro e w2 ⟨rfl, _, hb2⟩
  go_wp2_with fail
  refine (HB.out _ _).mono ?_
  rintro e w3 ⟨⟨b, rfl, hbz, hn⟩, hb3⟩
  have hB := held_trans hb2 hb3
  have hx := HE.out w3 hB
  go_wp2_with fail
  refine (xerrno_err b 130 w3 hx hn).mono ?_
  rintro e w4 ⟨rfl, hb4⟩
  have hB4 := held_trans hB hb4
  clear hn hb2 hb3 hb4 hB hx hbz
  go_wp2_with fail
  go_ret2
  exact ⟨rfl, hB4⟩
set_option maxRecDepth 100000 in
set_option maxHeartbeats 4000000 in
theorem vRow_eq (cs ds : List Col) (vs : List Vl) (n : Nat) (oc od ov : Option Addr) (cc cd cv : Nat) (w : World) (hE : Env w) (hc : ColsIn w oc cs) (hd : ColsIn w od ds) (hv : ValsIn w ov vs) (h1 : cs.length = n) (h2 : ds.length = n) (h3 : vs.length = n) (hn : n ≤ 1000) (nc : ∀ c ∈ cs, c.n.size ≤ 9223372036854775807) (nd : ∀ c ∈ ds, c.n.size ≤ 9223372036854775807) (ok : ∀ v ∈ vs, v.ok) :
    Calls Tryz.prog 18 #[.slice oc n cc, .slice od n cd, .slice ov n cv] w fun e w' => ∃ v, e = .returned (.tuple #[v, .int .i64 (cvrN cs ds vs)]) ∧ SliceOf w' v (cvrR cs ds vs) ∧ Below w.heap.size w w' := by
  obtain ⟨e1, e2⟩ := cvrN_eq h1 h2 h3
  have HE := Lib.hid (fun W (hb : Below w.heap.size w W) => (hE.keep hb).et)
  have HB := Lib.hid (fun r es cl W (hb : Below w.heap.size w W) (hm : W.heap[r]? = some (.map es cl)) (hw : IsWays es) => wrow_any cs ds vs n oc od ov cc cd cv r es cl W (hE.keep hb) hm hw (hc.keep hb (Nat.le_refl _)) (hd.keep hb (Nat.le_refl _)) (hv.keep hb (Nat.le_refl _)) h1 h2 h3 hn nc nd ok)
  rw [e1, e2]
  clear hE hc hd hv nc nd ok e1 e2
  have hlen := cvrL_len cs ds vs n
  generalize cvrL cs ds vs n = L at *
  generalize cvrE (fun j => (cvAt cs ds vs j).1) n = E at *
  go_enter Tryz.func18, Tryz.ntmps18
  go_wp2_with fail
  refine (known_any _).mono ?_
  rintro e w2 ⟨rfl, ⟨es, cl, hm, hw⟩, hb2⟩
  have H3 := Lib.hid (HB.out _ es cl w2 hb2 hm hw)
  have HB2 := Lib.hid hb2
  clear hm hw hb2 HB
  go_wp2_with fail
  refine H3.out.mono ?_
  rintro e w3 (⟨hE0, ⟨b, rfl, hvi⟩, hb3⟩ | ⟨hE0, ⟨b, rfl, hbz, hn⟩, hb3⟩)
  · subst hE0
    have HB3 := Lib.hid (held_trans HB2.out hb3)
    have HVI := Lib.hid hvi
    clear hb3 hvi
    go_wp2_with fail
    refine (xerrno_nil w3).mono ?_
    rintro e w4 ⟨rfl, hb4⟩
    have HB4 := Lib.hid (held_trans HB3.out hb4)
    have HS := Lib.hid (slice_vals hlen (HVI.out.keep hb4 (Nat.le_refl _)))
    clear hb4 hlen
    go_wp2_with fail
    go_ret2
    exact ⟨_, rfl, HS.out, HB4.out⟩
  · have HB3 := Lib.hid (held_trans HB2.out hb3)
    have hx := HE.out w3 HB3.out
    have HX := Lib.hid (xerrno_err b E w3 hx hn)
    have HE0 := Lib.hid hE0
    clear hb3 hn hx hE0 hbz
    go_wp2_with fail
    refine HX.out.mono ?_
    rintro e w4 ⟨rfl, hb4⟩
    have HB4 := Lib.hid (held_trans HB3.out hb4)
    clear hb4 hlen
    go_wp2_with fail
    go_ret2
    refine ⟨_, rfl, ?_, HB4.out⟩
    exact .inl ⟨rfl, rfl⟩
theorem vRow_any (cs ds : List Col) (vs : List Vl) (oc od ov : Option Addr) (cc cd cv : Nat) (w : World) (hE : Env w) (hc : ColsIn w oc cs) (hd : ColsIn w od ds) (hv : ValsIn w ov vs) (n1 : cs.length ≤ 1000) (_n2 : ds.length ≤ 1000) (_n3 : vs.length ≤ 1000) (nc : ∀ c ∈ cs, c.n.size ≤ 9223372036854775807) (nd : ∀ c ∈ ds, c.n.size ≤ 9223372036854775807) (ok : ∀ v ∈ vs, v.ok) :
    Calls Tryz.prog 18 #[.slice oc cs.length cc, .slice od ds.length cd, .slice ov vs.length cv] w fun e w' => ∃ v, e = .returned (.tuple #[v, .int .i64 (cvrN cs ds vs)]) ∧ SliceOf w' v (cvrR cs ds vs) ∧ Below w.heap.size w w' := by
  by_cases h : ds.length = cs.length ∧ vs.length = cs.length
  · rw [h.1, h.2]
    exact vRow_eq cs ds vs cs.length oc od ov cc cd cv w hE hc hd hv rfl h.1 h.2 n1 nc nd ok
  · obtain ⟨e1, e2⟩ := cvrN_bad h
    rw [e1, e2]
    exact (vRow_bad cs ds vs oc od ov cc cd cv w hE h).mono fun e w' ⟨he, hb⟩ => ⟨_, he, .inl ⟨rfl, rfl⟩, hb⟩
end Go.Proofs.YtmgeefhacnadcaaGreatDoor
namespace Go.Proofs.YtmgeefhacnadcaaGreatDoor
open Go.RowKit

theorem lists_same (l : List Vl) : lists l l = 0 := by
  induction l with
  | nil => simp [lists, cmpI]
  | cons x l ih =>
    unfold lists
    have : x.ord x = 0 := by
      unfold Vl.ord ord or4
      rw [cmpI_self, cmpI_self, cmpI_self]
      unfold cmpS
      rw [less_irrefl]
      simp
    rw [if_neg (by simp [this]), ih]
/-- the cells of values, one behind the other -/
def vc4 (v : Vl) : List Value := [.int .i64 v.k, .int .i64 v.i, .int .u64 v.u, .string v.s]
def vcells (l : List Vl) : List Value := l.flatMap vc4
theorem vcells_len : ∀ l : List Vl, (vcells l).length = l.length * 4
  | [] => rfl
  | x :: l => by
    show (vc4 x ++ vcells l).length = _
    rw [List.length_append, vcells_len l, List.length_cons]
    show 4 + _ = _
    omega
theorem vcells_at : ∀ (l : List Vl) (j : Nat) (h : j < l.length) (i : Nat), i < 4 → (vcells l)[j * 4 + i]? = (vc4 l[j])[i]?
  | x :: l, 0, _, i, hi => by
    show (vc4 x ++ vcells l)[0 * 4 + i]? = (vc4 x)[i]?
    rw [List.getElem?_append_left (by show 0 * 4 + i < 4; omega), show 0 * 4 + i = i by omega]
  | x :: l, j + 1, h, i, hi => by
    show (vc4 x ++ vcells l)[(j + 1) * 4 + i]? = (vc4 (x :: l)[j + 1])[i]?
    rw [List.getElem?_append_right (by show 4 ≤ (j + 1) * 4 + i; omega), show (j + 1) * 4 + i - (vc4 x).length = j * 4 + i by show (j + 1) * 4 + i - 4 = _; omega, vcells_at l j (by simpa using h) i hi]
    rfl
theorem slice_own {w : World} {base : Nat} {v : Value} {l : List Vl} (h : w.ownsRow base 28 4 v l.length (vcells l)) : SliceOf w v l := by
  have h0 := h
  rcases h.2 with ⟨e, hn⟩ | ⟨g, cap, cur, e, _, _, hnc, _⟩
  · exact .inl ⟨e, List.eq_nil_of_length_eq_zero hn⟩
  · subst e
    refine .inr ⟨_, cap, rfl, hnc, fun j hj => ?_⟩
    rw [add4]
    have q : ∀ i, i < 4 → w.cell? ⟨g, j * 4 + i, none⟩ = (vc4 l[j])[i]? := fun i hi => by
      rw [h0.cellAt (j * 4 + i) (by omega), vcells_at l j hj i hi]
    exact ⟨q 0 (by omega), q 1 (by omega), q 2 (by omega), q 3 (by omega)⟩
theorem vcells_snoc (l : List Vl) (v : Vl) : vcells (l ++ [v]) = vcells l ++ vc4 v := by
  unfold vcells
  rw [List.flatMap_append]
  simp
theorem own_keep4 {w w' : World} {B : Nat} {v : Value} {n : Nat} {xs : List Value} (h : w.ownsRow B 28 4 v n xs) (hb : Below w.heap.size w w') : w'.ownsRow B 28 4 v n xs :=
  h.kept (row := none) ⟨hb.os, hb.tape, hb.output, hb.size, fun k hk _ => hb.block k hk⟩ (by cases v.ownBlock <;> simp)

set_option maxRecDepth 100000 in
set_option maxHeartbeats 8000000 in
theorem rRow_eq (cs ds : List Col) (vs : List Vl) (n : Nat) (oc od ov : Option Addr) (cc cd cv : Nat) (w : World) (hE : Env w) (hc : ColsIn w oc cs) (hd : ColsIn w od ds) (hv : ValsIn w ov vs) (h1 : cs.length = n) (h2 : ds.length = n) (h3 : vs.length = n) (hn : n ≤ 1000) (nc : ∀ c ∈ cs, c.n.size ≤ 9223372036854775807) (nd : ∀ c ∈ ds, c.n.size ≤ 9223372036854775807) (ok : ∀ v ∈ vs, v.ok) :
    Calls Tryz.prog 19 #[.slice oc n cc, .slice od n cd, .slice ov n cv] w fun e w' => ∃ v, e = .returned (.tuple #[v, .int .i64 (cvrE (fun j => (cvAt cs ds vs j).1) n)]) ∧ SliceOf w' v (if cvrE (fun j => (cvAt cs ds vs j).1) n = 0 then cvrL cs ds vs n else []) ∧ Below w.heap.size w w' := by
  obtain ⟨i0, hi0, hz0, hz1, hz2⟩ := info_parts infoV
  obtain ⟨E, hEE⟩ : ∃ E, cvrE (fun j => (cvAt cs ds vs j).1) n = E := ⟨_, rfl⟩
  rw [hEE]
  obtain ⟨L, hLL⟩ : ∃ L, (if E = 0 then cvrL cs ds vs n else []) = L := ⟨_, rfl⟩
  rw [hLL]
  have HEE := Lib.hid hEE
  have HLL := Lib.hid hLL
  clear hEE hLL
  have HW0 : Hid (∀ (c d : Col) (v : Vl) W, c ∈ cs → d ∈ ds → v ∈ vs → Below w.heap.size w W → Calls Tryz.prog 11 #[.agg #[.string c.n, .int .i64 c.t, .int .i64 c.z, .bool c.u], .agg #[.string d.n, .int .i64 d.t, .int .i64 d.z, .bool d.u], .agg #[.int .i64 v.k, .int .i64 v.i, .int .u64 v.u, .string v.s]] W fun e w' => e = .returned (.tuple #[.agg #[.int .i64 (cvO c d v).2.k, .int .i64 (cvO c d v).2.i, .int .u64 (cvO c d v).2.u, .string (cvO c d v).2.s], .int .i64 (cvO c d v).1]) ∧ Below W.heap.size W w') := Lib.hid (fun c d v W mc md mv hb => r6Convert_any c d v W (hE.keep hb) (nc c mc) (nd d md) (ok v mv))
  have HC := Lib.hid hc
  have HD := Lib.hid hd
  have HV := Lib.hid hv
  clear hc hd hv hE nc nd ok
  go_enter Tryz.func19, Tryz.ntmps19
  go_wp2_with fail
  go_loopw [8, 9] (fun a i wr => ∃ (k : Nat), k ≤ n ∧ i = .int .i64 k ∧ Hid (cvrE (fun j => (cvAt cs ds vs j).1) k = 0) ∧ Hid (wr.ownsRow w.heap.size 28 4 a k (vcells (cvrL cs ds vs k))) ∧ Hid (Below w.heap.size w wr)) (fun _ i _ => n - (intOf i).toNat)
  case atStart => exact ⟨0, by omega, rfl, Lib.hid rfl, Lib.hid (World.ownsRow_nil _ _ _ _), Lib.hid (Below.refl _ _)⟩
  case round =>
    obtain ⟨k, hk, rfl, HK, HO, HB⟩ := hrel
    by_cases hkl : k < n
    · have k1 : k < cs.length := by omega
      have k2 : k < ds.length := by omega
      have k3 : k < vs.length := by omega
      obtain ⟨c, hcc⟩ : ∃ c, cs[k] = c := ⟨_, rfl⟩
      obtain ⟨d, hdd⟩ : ∃ c, ds[k] = c := ⟨_, rfl⟩
      obtain ⟨v, hvv⟩ : ∃ c, vs[k] = c := ⟨_, rfl⟩
      obtain ⟨ac, rfl, hac⟩ := HC.out.keep HB.out (Nat.le_refl _) k k1
      obtain ⟨ad, rfl, had⟩ := HD.out.keep HB.out (Nat.le_refl _) k k2
      obtain ⟨av, rfl, hav⟩ := HV.out.keep HB.out (Nat.le_refl _) k k3
      rw [hcc] at hac
      rw [hdd] at had
      rw [hvv] at hav
      have hal := hac.lt
      have hdl := had.lt
      have hvl := hav.lt
      have HCV := Lib.hid (cvAt_at k1 k2 k3 hcc hdd hvv)
      have HWv := Lib.hid (fun W (hb : Below wr.heap.size wr W) => HW0.out c d v W (by rw [← hcc]; exact List.getElem_mem k1) (by rw [← hdd]; exact List.getElem_mem k2) (by rw [← hvv]; exact List.getElem_mem k3) (held_trans HB.out hb))
      clear hcc hdd hvv HC HD HV HW0 k1 k2 k3
      obtain ⟨c0, c1, c2, c3⟩ := hac
      obtain ⟨d0, d1, d2, d3⟩ := had
      obtain ⟨v0, v1, v2, v3⟩ := hav
      have HS : Hid (∀ W, Below wr.heap.size wr W → W.cell? (ac.add (k * 4)) = some (.string c.n) ∧ W.cell? ⟨(ac.add (k * 4)).block, (ac.add (k * 4)).off + 1, none⟩ = some (.int .i64 c.t) ∧ W.cell? ⟨(ac.add (k * 4)).block, (ac.add (k * 4)).off + 2, none⟩ = some (.int .i64 c.z) ∧ W.cell? ⟨(ac.add (k * 4)).block, (ac.add (k * 4)).off + 3, none⟩ = some (.bool c.u) ∧ W.cell? (ad.add (k * 4)) = some (.string d.n) ∧ W.cell? ⟨(ad.add (k * 4)).block, (ad.add (k * 4)).off + 1, none⟩ = some (.int .i64 d.t) ∧ W.cell? ⟨(ad.add (k * 4)).block, (ad.add (k * 4)).off + 2, none⟩ = some (.int .i64 d.z) ∧ W.cell? ⟨(ad.add (k * 4)).block, (ad.add (k * 4)).off + 3, none⟩ = some (.bool d.u) ∧ W.cell? (av.add (k * 4)) = some (.int .i64 v.k) ∧ W.cell? ⟨(av.add (k * 4)).block, (av.add (k * 4)).off + 1, none⟩ = some (.int .i64 v.i) ∧ W.cell? ⟨(av.add (k * 4)).block, (av.add (k * 4)).off + 2, none⟩ = some (.int .u64 v.u) ∧ W.cell? ⟨(av.add (k * 4)).block, (av.add (k * 4)).off + 3, none⟩ = some (.string v.s) ∧ Below wr.heap.size wr W) := Lib.hid (fun W hb => ⟨keep_cell hb c0, keep_cell hb c1, keep_cell hb c2, keep_cell hb c3, keep_cell hb d0, keep_cell hb d1, keep_cell hb d2, keep_cell hb d3, keep_cell hb v0, keep_cell hb v1, keep_cell hb v2, keep_cell hb v3, hb⟩)
      obtain ⟨x, hx⟩ : ∃ x, (cvO c d v).2 = x := ⟨_, rfl⟩
      obtain ⟨m, hm⟩ : ∃ m, (cvO c d v).1 = m := ⟨_, rfl⟩
      have HX := Lib.hid (show (cvAt cs ds vs k).2 = x by rw [HCV.out, hx])
      have HM := Lib.hid (show (cvAt cs ds vs k).1 = m by rw [HCV.out, hm])
      have HW : Hid (∀ W, Below wr.heap.size wr W → Calls Tryz.prog 11 #[.agg #[.string c.n, .int .i64 c.t, .int .i64 c.z, .bool c.u], .agg #[.string d.n, .int .i64 d.t, .int .i64 d.z, .bool d.u], .agg #[.int .i64 v.k, .int .i64 v.i, .int .u64 v.u, .string v.s]] W fun e w' => e = .returned (.tuple #[.agg #[.int .i64 x.k, .int .i64 x.i, .int .u64 x.u, .string x.s], .int .i64 m]) ∧ Below W.heap.size W w') := Lib.hid (fun W hb => by have h := HWv.out W hb; rw [hx, hm] at h; exact h)
      clear HWv HCV hx hm
      go_upto_region 7 with fail
      go_cut [10, 11] from 24 to 52 (fun s10 s11 wx => ∃ q, s10 = .pointer (some ⟨q, 0, none⟩) ∧ s11 = .int .i64 m ∧ wr.heap.size ≤ q ∧ wx.cell? ⟨q, 0, none⟩ = some (.int .i64 x.k) ∧ wx.cell? ⟨q, 1, none⟩ = some (.int .i64 x.i) ∧ wx.cell? ⟨q, 2, none⟩ = some (.int .u64 x.u) ∧ wx.cell? ⟨q, 3, none⟩ = some (.string x.s) ∧ Below wr.heap.size wr wx)
      case first =>
        go_region_held3 (fun w' => w'.cell? (ac.add (k * 4)) = some (.string c.n) ∧ w'.cell? ⟨(ac.add (k * 4)).block, (ac.add (k * 4)).off + 1, none⟩ = some (.int .i64 c.t) ∧ w'.cell? ⟨(ac.add (k * 4)).block, (ac.add (k * 4)).off + 2, none⟩ = some (.int .i64 c.z) ∧ w'.cell? ⟨(ac.add (k * 4)).block, (ac.add (k * 4)).off + 3, none⟩ = some (.bool c.u) ∧ w'.cell? (ad.add (k * 4)) = some (.string d.n) ∧ w'.cell? ⟨(ad.add (k * 4)).block, (ad.add (k * 4)).off + 1, none⟩ = some (.int .i64 d.t) ∧ w'.cell? ⟨(ad.add (k * 4)).block, (ad.add (k * 4)).off + 2, none⟩ = some (.int .i64 d.z) ∧ w'.cell? ⟨(ad.add (k * 4)).block, (ad.add (k * 4)).off + 3, none⟩ = some (.bool d.u) ∧ w'.cell? (av.add (k * 4)) = some (.int .i64 v.k) ∧ w'.cell? ⟨(av.add (k * 4)).block, (av.add (k * 4)).off + 1, none⟩ = some (.int .i64 v.i) ∧ w'.cell? ⟨(av.add (k * 4)).block, (av.add (k * 4)).off + 2, none⟩ = some (.int .u64 v.u) ∧ w'.cell? ⟨(av.add (k * 4)).block, (av.add (k * 4)).off + 3, none⟩ = some (.string v.s) ∧ Below wr.heap.size wr w') ((refine HS.out _ ?_; go_split_ands; first | (with_reducible exact below_set4 (by assumption) (by first | exact Nat.le_refl _ | omega | (simp; omega)) _ _ _ _) | (with_reducible exact Below.drew (Below.refl _ _)) | (with_reducible exact held_trans (by assumption) hb4) | (with_reducible exact below_realloc (by assumption) (by omega)) | (with_reducible exact Below.alloc (by assumption) (Below.size (by assumption)) _) | (with_reducible exact Below.alloc (Below.refl _ _) (Nat.le_refl _) _) | (with_reducible exact Below.alloc (Below.drew (Below.refl _ _)) (Nat.le_refl _) _) | (with_reducible exact Below.drew (Below.alloc (Below.refl _ _) (Nat.le_refl _) _)) | (with_reducible exact Below.drew (by assumption))))
          ((go_at_call 11; refine (HW.out _ (by go_split_ands; first | assumption | (exact Below.alloc (by assumption) (Below.size (by assumption)) _))).mono ?_; rintro e w4 ⟨rfl, hb4⟩; have hz4 := hb4.size; (try simp at hz4); (first | have P := zero4 (b := wr.heap.size) hb4 rfl | have P := zero4d (b := wr.heap.size) hb4 rfl | skip); (try (have P4 := P; obtain ⟨p0, p1, p2, p3, fp0, fp1, fp2, fp3, hpl⟩ := P))))
        all_goals go_wp2_with fail
        all_goals go_meet
        all_goals rename_i hh
        all_goals refine ⟨_, rfl, rfl, by omega, ?_⟩
        all_goals (first | refine ⟨by simp [go_sem], by simp [go_sem], by simp [go_sem], by simp [go_sem], hh.2.2.2.2.2.2.2.2.2.2.2.2⟩ | (obtain ⟨k0, k1, k2, k3⟩ := zero4_set P4 (.int .i64 x.k) (.int .i64 x.i) (.int .u64 x.u) (.string x.s); refine ⟨k0, k1, k2, k3, hh.2.2.2.2.2.2.2.2.2.2.2.2⟩))
      case rest =>
        obtain ⟨q, rfl, rfl, hq, e0, e1, e2, e3, hbx⟩ := hcut
        have HOX := Lib.hid (own_keep4 HO.out hbx)
        have HBX := Lib.hid (held_trans HB.out hbx)
        have hql : q < wc.heap.size := World.block_lt_of_cell? _ _ e0
        have hwr := HB.out.size
        clear hbx HS HW c0 c1 c2 c3 d0 d1 d2 d3 v0 v1 v2 v3
        by_cases hm0 : m = 0
        · subst hm0
          have HK2 := Lib.hid (cvrE_next HK.out HM.out)
          have HVN := Lib.hid (show vcells (cvrL cs ds vs (k + 1)) = vcells (cvrL cs ds vs k) ++ vc4 x by rw [cvrL_next, HX.out, vcells_snoc])
          clear HM HX HK
          go_wp2_with (first | (at_builtin; refine wpList_append_own _ rfl _ _ 52 rfl w.heap.size 28 i0 (.agg #[.int .i64 0, .int .i64 0, .int .u64 0, .string ⟨#[]⟩]) 4 40 Tryz.underlying52 hi0 hz0 hz1 hz2 rfl (by decide) _ k (vcells (cvrL cs ds vs k)) rfl (HOX.out.alloc _) ⟨wc.heap.size, 0, none⟩ 1 1 (vc4 x) rfl rfl ?e1 ?e2 ?e3 ?e4 ?e5 ?_))
          case e1 =>
            intro j' u' hj'
            match j', hj' with
            | 0, hj' => simp [vc4] at hj'; subst hj'; simp [Addr.add]
            | 1, hj' => simp [vc4] at hj'; subst hj'; simp [Addr.add]
            | 2, hj' => simp [vc4] at hj'; subst hj'; simp [Addr.add]
            | 3, hj' => simp [vc4] at hj'; subst hj'; simp [Addr.add]
          case e2 => intro u' hu'; simp [vc4] at hu'; rcases hu' with rfl | rfl | rfl | rfl <;> rfl
          case e3 => unfold maxLen; omega
          case e4 => omega
          case e5 => have := HBX.out.size; simp; omega
          intro v4 w4 hown4 hg4 _
          have HB4 := Lib.hid (show Below w.heap.size w w4 from (HBX.out.alloc HBX.out.size _).grown hg4 (by have := HBX.out.size; simp; omega) (fun x h => (HOX.out.lt x h).1))
          rw [← HVN.out] at hown4
          have HO4 := Lib.hid hown4
          clear hown4 hg4
          go_wp2_with fail
          go_roundw
          case rel => exact ⟨k + 1, by omega, by go_num, HK2, HO4, HB4⟩
          case measure => simp [intOf]; omega
        · have HN := Lib.hid (cvrE_stop HK.out HM.out hm0 n hkl)
          have hmb : (m != 0) = true := by simpa using hm0
          have e1 : E = m := by rw [← HEE.out]; exact HN.out
          have e2 : L = [] := by rw [← HLL.out, if_neg (by rw [e1]; exact hm0)]
          subst e1 e2
          clear HM HX HK hm0 HEE HLL HN
          go_wp2_with fail
          go_ret2
          exact ⟨_, rfl, .inl ⟨rfl, rfl⟩, HBX.out⟩
    · obtain rfl : k = n := by omega
      have HS := Lib.hid (slice_own (l := cvrL cs ds vs k) (by rw [cvrL_len]; exact HO.out))
      have e1 : E = 0 := by rw [← HEE.out]; exact HK.out
      subst e1
      have e2 : L = cvrL cs ds vs k := by rw [← HLL.out, if_pos rfl]
      subst e2
      clear HEE HLL
      go_wp2_with fail
      go_ret2
      exact ⟨_, rfl, HS.out, HB.out⟩
set_option maxRecDepth 100000 in
set_option maxHeartbeats 4000000 in
theorem rRow_bad (cs ds : List Col) (vs : List Vl) (oc od ov : Option Addr) (cc cd cv : Nat) (w : World) (h : ¬ (ds.length = cs.length ∧ vs.length = cs.length)) :
    Calls Tryz.prog 19 #[.slice oc cs.length cc, .slice od ds.length cd, .slice ov vs.length cv] w fun e w' => e = .returned (.tuple #[.slice none 0 0, .int .i64 130]) ∧ w = w' := by
  by_cases h1 : ds.length = cs.length
  · have h2 : vs.length ≠ cs.length := fun e => h ⟨h1, e⟩
    have b1 : ((cs.length : Int) != (ds.length : Int)) = false := by rw [h1]; simp
    have b2 : ((vs.length : Int) != (cs.length : Int)) = true := by
      rw [bne_iff_ne]; intro e; exact h2 (by omega)
    clear h h1 h2
    go_enter Tryz.func19, Tryz.ntmps19
    go_wp2_with fail
    go_ret2
    exact ⟨rfl, rfl⟩
  · have b1 : ((cs.length : Int) != (ds.length : Int)) = true := by
      rw [bne_iff_ne]; intro e; exact h1 (by omega)
    clear h h1
    go_enter Tryz.func19, Tryz.ntmps19
    go_wp2_with fail
    go_ret2
    exact ⟨rfl, rfl⟩
end Go.Proofs.YtmgeefhacnadcaaGreatDoor
