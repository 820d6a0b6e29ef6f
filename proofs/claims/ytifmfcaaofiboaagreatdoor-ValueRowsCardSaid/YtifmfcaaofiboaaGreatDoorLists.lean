/-
  value.Lists and swingbridgeref01.Lists: one number.
-/
import Derived.Test.YtifmfcaaofiboaaGreatDoorFew
namespace Go.Proofs.YtifmfcaaofiboaaGreatDoor
open Go.RowKit

def Vl.ord (a b : Vl) : Int := Go.Proofs.YtifmfcaaofiboaaGreatDoor.ord a.k a.i a.u a.s b.k b.i b.u b.s
def lists : List Vl → List Vl → Int
  | x :: l, y :: m => if x.ord y ≠ 0 then x.ord y else lists l m
  | l, m => cmpI l.length m.length
def LRel (l m : List Vl) (k : Nat) : Prop := lists l m = lists (l.drop k) (m.drop k)

theorem LRel.zero (l m : List Vl) : LRel l m 0 := rfl
theorem LRel.yes {l m : List Vl} {k : Nat} {x y : Vl} (h : LRel l m k) (hl : k < l.length) (hm : k < m.length) (hx : l[k] = x) (hy : m[k] = y) (h0 : x.ord y = 0) : LRel l m (k + 1) := by
  unfold LRel at *
  rw [h, List.drop_eq_getElem_cons hl, List.drop_eq_getElem_cons hm]
  simp [lists, hx, hy, h0]
theorem LRel.no {l m : List Vl} {k : Nat} {x y : Vl} (h : LRel l m k) (hl : k < l.length) (hm : k < m.length) (hx : l[k] = x) (hy : m[k] = y) (h0 : x.ord y ≠ 0) : lists l m = x.ord y := by
  unfold LRel at *
  rw [h, List.drop_eq_getElem_cons hl, List.drop_eq_getElem_cons hm]
  simp [lists, hx, hy, h0]
theorem cmpI_sub (a b : Nat) (k : Nat) (ha : k ≤ a) (hb : k ≤ b) : cmpI ((a - k : Nat) : Int) ((b - k : Nat) : Int) = cmpI (a : Int) (b : Int) := by
  unfold cmpI
  split <;> split <;> (try split) <;> (try split) <;> omega
theorem LRel.all {l m : List Vl} {k : Nat} (h : LRel l m k) (hl : k ≤ l.length) (hm : k ≤ m.length) (he : k = l.length ∨ k = m.length) : lists l m = cmpI l.length m.length := by
  unfold LRel at h
  rw [h, ← cmpI_sub _ _ k hl hm, ← List.length_drop, ← List.length_drop]
  rcases he with rfl | rfl
  · rw [List.drop_of_length_le (Nat.le_refl _)]; simp [lists]
  · rw [List.drop_of_length_le (l := m) (Nat.le_refl _)]; cases List.drop m.length l <;> simp [lists]

theorem ValAt.lt {w : World} {a : Addr} {v : Vl} (h : ValAt w a v) : a.block < w.heap.size := World.block_lt_of_cell? w a h.1
theorem ValAt.keep {w w' : World} {B : Nat} {a : Addr} {v : Vl} (h : ValAt w a v) (hb : Below B w w') (hB : w.heap.size ≤ B) : ValAt w' a v := by
  have hl := h.lt
  refine ⟨?_, ?_, ?_, ?_⟩
  · rw [hb.cell (by omega)]; exact h.1
  · rw [hb.cell (by simp; omega)]; exact h.2.1
  · rw [hb.cell (by simp; omega)]; exact h.2.2.1
  · rw [hb.cell (by simp; omega)]; exact h.2.2.2

set_option maxHeartbeats 1000000 in
theorem hold_some (a b : Addr) (ca cb : Nat) (l m : List Vl) (w : World) (hv : ValsAt w a l) (hv' : ValsAt w b m) (hl : l.length ≤ 9223372036854775807) (_hm : m.length ≤ 9223372036854775807) (hla : l.length ≤ ca) :
    Calls Tryz.prog 36 #[.slice (some a) l.length ca, .slice (some b) m.length cb, .func (.func 13) #[] #[]] w fun e w' => e = .returned (.int .i64 (lists l m)) ∧ Below w.heap.size w w' := by
  obtain ⟨n, hn⟩ : ∃ n : Nat, min l.length m.length = n := ⟨_, rfl⟩
  have hn' : min (l.length : Int) (m.length : Int) = (n : Int) := by omega
  have hnl : n ≤ l.length := by omega
  have hnm : n ≤ m.length := by omega
  have hnc : n ≤ ca := by omega
  have HN := Lib.hid (show n = l.length ∨ n = m.length by omega)
  clear hn
  go_enter Tryz.func36, Tryz.ntmps36
  go_wp2
  go_loopw [18] (fun i wr => ∃ (k : Nat), k ≤ n ∧ i = .int .i64 k ∧ LRel l m k ∧ Below w.heap.size w wr) (fun i _ => n - (intOf i).toNat)
  case atStart => exact ⟨0, by omega, rfl, LRel.zero _ _, by go_grown⟩
  case round =>
    obtain ⟨k, hk, rfl, hrel, hbw⟩ := hrel
    by_cases hlt : k < n
    · have hkl : k < l.length := by omega
      have hkm : k < m.length := by omega
      obtain ⟨x, hx⟩ : ∃ v, l[k] = v := ⟨_, rfl⟩
      obtain ⟨y, hy⟩ : ∃ v, m[k] = v := ⟨_, rfl⟩
      have hX := (hv k hkl).keep hbw (Nat.le_refl _)
      have hY := (hv' k hkm).keep hbw (Nat.le_refl _)
      rw [hx] at hX
      rw [hy] at hY
      obtain ⟨h0, h1, h2, h3⟩ := hX
      obtain ⟨g0, g1, g2, g3⟩ := hY
      have hbl : (b.add (k * 4)).block < wr.heap.size := ValAt.lt (v := y) ⟨g0, g1, g2, g3⟩
      have C : ∀ W, Calls Tryz.prog 13 #[.agg #[.int .i64 x.k, .int .i64 x.i, .int .u64 x.u, .string x.s], .agg #[.int .i64 y.k, .int .i64 y.i, .int .u64 y.u, .string y.s]] W fun e w' => e = .returned (.int .i64 (x.ord y)) ∧ Below W.heap.size W w' := fun W => Order_any _ _ _ _ _ _ _ _ _
      obtain ⟨o, ho⟩ : ∃ o, x.ord y = o := ⟨_, rfl⟩
      rw [ho] at C
      have HC := Lib.hid C
      clear C
      by_cases h00 : o = 0
      · have HK := Lib.hid (hrel.yes hkl hkm hx hy (ho.trans h00))
        clear hrel hx hy ho
        subst h00
        go_wp2_with fail
        go_region_held3 (fun w' => w'.cell? ⟨wr.heap.size, 0, none⟩ = some (.int .i64 x.k) ∧ w'.cell? ⟨wr.heap.size, 1, none⟩ = some (.int .i64 x.i) ∧ w'.cell? ⟨wr.heap.size, 2, none⟩ = some (.int .u64 x.u) ∧ w'.cell? ⟨wr.heap.size, 3, none⟩ = some (.string x.s) ∧ w'.cell? (b.add (k * 4)) = some (Value.int IntKind.i64 y.k) ∧ w'.cell? { block := (b.add (k * 4)).block, off := (b.add (k * 4)).off + 1 } = some (Value.int IntKind.i64 y.i) ∧ w'.cell? { block := (b.add (k * 4)).block, off := (b.add (k * 4)).off + 2 } = some (Value.int IntKind.u64 y.u) ∧ w'.cell? { block := (b.add (k * 4)).block, off := (b.add (k * 4)).off + 3 } = some (Value.string y.s)) (first | (go_keep; done) | (simp [*, go_sem]; done) | (refine ⟨?_, ?_, ?_, ?_, ?_, ?_, ?_, ?_⟩ <;> (rw [hb3.cell (by first | (simp; done) | (simp; omega))]; first | assumption | (simp [*, go_sem]; done))))
          (first | (go_at_call 13; refine (HC.out _).mono ?_; rintro e w3 ⟨rfl, hb3⟩))
        all_goals go_wp2_with fail
        all_goals go_roundw
        case rel => exact ⟨k + 1, by omega, by go_num, HK.out, hbw.trans (((show Below wr.heap.size wr _ from by go_grown).trans (hb3.mono (by simp; try omega))).mono hbw.size)⟩
        case measure => simp [intOf]; omega
      · have HK := Lib.hid ((hrel.no hkl hkm hx hy (by omega)).trans ho)
        clear hrel hx hy ho
        go_wp2_with fail
        go_region_held3 (fun w' => w'.cell? ⟨wr.heap.size, 0, none⟩ = some (.int .i64 x.k) ∧ w'.cell? ⟨wr.heap.size, 1, none⟩ = some (.int .i64 x.i) ∧ w'.cell? ⟨wr.heap.size, 2, none⟩ = some (.int .u64 x.u) ∧ w'.cell? ⟨wr.heap.size, 3, none⟩ = some (.string x.s) ∧ w'.cell? (b.add (k * 4)) = some (Value.int IntKind.i64 y.k) ∧ w'.cell? { block := (b.add (k * 4)).block, off := (b.add (k * 4)).off + 1 } = some (Value.int IntKind.i64 y.i) ∧ w'.cell? { block := (b.add (k * 4)).block, off := (b.add (k * 4)).off + 2 } = some (Value.int IntKind.u64 y.u) ∧ w'.cell? { block := (b.add (k * 4)).block, off := (b.add (k * 4)).off + 3 } = some (Value.string y.s)) (first | (go_keep; done) | (simp [*, go_sem]; done) | (refine ⟨?_, ?_, ?_, ?_, ?_, ?_, ?_, ?_⟩ <;> (rw [hb3.cell (by first | (simp; done) | (simp; omega))]; first | assumption | (simp [*, go_sem]; done))))
          (first | (go_at_call 13; refine (HC.out _).mono ?_; rintro e w3 ⟨rfl, hb3⟩))
        all_goals go_wp2_with fail
        all_goals go_ret
        all_goals exact ⟨by rw [HK.out]; rfl, hbw.trans (((show Below wr.heap.size wr _ from by go_grown).trans (hb3.mono (by simp; try omega))).mono hbw.size)⟩
    · have HK := Lib.hid (hrel.all (by omega) (by omega) (by have := HN.out; omega))
      clear hrel
      go_wp2_with (first | (go_at_call 53; refine (cmp_int _ _ _).mono ?_; rintro e w' ⟨rfl, rfl⟩))
      go_ret
      exact ⟨by rw [HK.out]; rfl, hbw⟩

set_option maxHeartbeats 1000000 in
theorem hold_nn  (w : World) :
    Calls Tryz.prog 36 #[.slice none 0 0, .slice none 0 0, .func (.func 13) #[] #[]] w fun e w' => e = .returned (.int .i64 (lists [] [])) ∧ Below w.heap.size w w' := by
  have HK := Lib.hid (LRel.all (l := []) (m := []) (k := 0) (LRel.zero _ _) (by omega) (by omega) (by simp))
  go_enter Tryz.func36, Tryz.ntmps36
  go_wp2
  go_loop [18] (fun i => i = .int .i64 0) (fun i => 0)
  case atStart => rfl
  case round =>
    subst hrel
    go_wp2_with (first | (go_at_call 53; refine (cmp_int _ _ _).mono ?_; rintro e w' ⟨rfl, rfl⟩) | (go_at_call 35; refine (rby_any _ _).mono ?_; rintro e w' ⟨rfl, rfl⟩))
    go_ret
    exact ⟨by rw [HK.out]; try simp; try rfl, Below.refl _ _⟩

set_option maxHeartbeats 1000000 in
theorem hold_ns (b : Addr) (cb : Nat) (m : List Vl) (w : World) :
    Calls Tryz.prog 36 #[.slice none 0 0, .slice (some b) m.length cb, .func (.func 13) #[] #[]] w fun e w' => e = .returned (.int .i64 (lists [] m)) ∧ Below w.heap.size w w' := by
  have HK := Lib.hid (LRel.all (l := []) (m := m) (k := 0) (LRel.zero _ _) (by omega) (by omega) (by simp))
  have hmin : min (0 : Int) (m.length : Int) = 0 := by omega
  go_enter Tryz.func36, Tryz.ntmps36
  go_wp2
  go_loop [18] (fun i => i = .int .i64 0) (fun i => 0)
  case atStart => rfl
  case round =>
    subst hrel
    go_wp2_with (first | (go_at_call 53; refine (cmp_int _ _ _).mono ?_; rintro e w' ⟨rfl, rfl⟩) | (go_at_call 35; refine (rby_any _ _).mono ?_; rintro e w' ⟨rfl, rfl⟩))
    go_ret
    exact ⟨by rw [HK.out]; try simp; try rfl, Below.refl _ _⟩

set_option maxHeartbeats 1000000 in
theorem hold_sn (a : Addr) (ca : Nat) (l : List Vl) (w : World) (_hl : l.length ≤ 9223372036854775807) :
    Calls Tryz.prog 36 #[.slice (some a) l.length ca, .slice none 0 0, .func (.func 13) #[] #[]] w fun e w' => e = .returned (.int .i64 (lists l [])) ∧ Below w.heap.size w w' := by
  have HK := Lib.hid (LRel.all (l := l) (m := []) (k := 0) (LRel.zero _ _) (by omega) (by omega) (by simp))
  have hmin : min (l.length : Int) 0 = 0 := by omega
  go_enter Tryz.func36, Tryz.ntmps36
  go_wp2
  go_loop [18] (fun i => i = .int .i64 0) (fun i => 0)
  case atStart => rfl
  case round =>
    subst hrel
    go_wp2_with (first | (go_at_call 53; refine (cmp_int _ _ _).mono ?_; rintro e w' ⟨rfl, rfl⟩) | (go_at_call 35; refine (rby_any _ _).mono ?_; rintro e w' ⟨rfl, rfl⟩))
    go_ret
    exact ⟨by rw [HK.out]; try simp; try rfl, Below.refl _ _⟩

theorem hold_any (v v' : Value) (l m : List Vl) (w : World) (hv : SliceOf w v l) (hv' : SliceOf w v' m) (hl : l.length ≤ 9223372036854775807) (hm : m.length ≤ 9223372036854775807) :
    Calls Tryz.prog 36 #[v, v', .func (.func 13) #[] #[]] w fun e w' => e = .returned (.int .i64 (lists l m)) ∧ Below w.heap.size w w' := by
  rcases hv with ⟨rfl, rfl⟩ | ⟨a, ca, rfl, hla, ha⟩
  · rcases hv' with ⟨rfl, rfl⟩ | ⟨b, cb, rfl, _, hb⟩
    · exact hold_nn w
    · exact hold_ns b cb m w
  · rcases hv' with ⟨rfl, rfl⟩ | ⟨b, cb, rfl, _, hb⟩
    · exact hold_sn a ca l w hl
    · exact hold_some a b ca cb l m w ha hb hl hm hla
theorem Lists_any (v v' : Value) (l m : List Vl) (w : World) (hv : SliceOf w v l) (hv' : SliceOf w v' m) (hl : l.length ≤ 9223372036854775807) (hm : m.length ≤ 9223372036854775807) :
    Calls Tryz.prog 15 #[v, v'] w fun e w' => e = .returned (.int .i64 (lists l m)) ∧ Below w.heap.size w w' := by
  have HC := Lib.hid (hold_any v v' l m w hv hv' hl hm)
  clear hv hv' hl hm
  go_enter Tryz.func15, Tryz.ntmps15
  go_wp2_with (first | (go_at_call 36; refine HC.out.mono ?_; rintro e w' ⟨rfl, hb⟩))
  go_ret
  exact ⟨rfl, hb⟩
end Go.Proofs.YtifmfcaaofiboaaGreatDoor
