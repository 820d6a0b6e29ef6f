/-
  swingbridgelaw01's text, none and works.
-/
import Derived.Test.YtifmfcaaofiboaaGreatDoorRow
import Derived.Test.YtifmfcaaofiboaaGreatDoorVPrs
namespace Go.Proofs.YtifmfcaaofiboaaGreatDoor
open Go.RowKit

set_option maxHeartbeats 1000000 in
theorem ltext_ok (v : Vl) (w : World) (h : v.chk = 0) (hr : v.ok) (ht : HasTab w) (hg : HasET w) :
    Calls Tryz.prog 26 #[v.val] w fun e w' => e = .returned (.string v.txt) ∧ Below w.heap.size w w' := by
  have C := Text_any v.k v.i v.u v.s (w.alloc (.cells #[.int .i64 v.k, .int .i64 v.i, .int .u64 v.u, .string v.s] 25)) hr (ht.below ((Below.refl _ _).alloc (Nat.le_refl _) _) ht.lt) (hg.below ((Below.refl _ _).alloc (Nat.le_refl _) _) hg.lt)
  unfold textRes at C
  rw [if_pos (show chk v.k v.i v.u v.s = 0 from h)] at C
  have HC := Lib.hid C
  clear C ht hg hr h
  unfold Vl.val Vl.txt
  go_enter Tryz.func26, Tryz.ntmps26
  go_wp2_with fail
  refine HC.out.mono ?_
  rintro e w3 ⟨rfl, hb3⟩
  go_wp2_with (first | (go_at_call 10; refine (num_any _ _).mono ?_; rintro e w' ⟨rfl, rfl⟩))
  go_ret
  exact ⟨rfl, below_box hb3⟩

theorem lnone_any (s : ByteArray) (k i u : Int) (s' : ByteArray) (n : Int) (b : Bool) (w : World) (hs : s.size ≤ 800) (hv : parseRes s.data.toList = .tuple #[.agg #[.int .i64 k, .int .i64 i, .int .u64 u, .string s'], .int .i64 n]) (hb : (n == 110) = b) (hg : HasET w) :
    Calls Tryz.prog 27 #[.string s] w fun e w' => e = .returned (.bool b) ∧ Below w.heap.size w w' := by
  have C := Parse_any s w hs hg
  rw [hv] at C
  have HC := Lib.hid C
  clear C hv hg
  go_enter Tryz.func27, Tryz.ntmps27
  go_wp2_with (first | (go_at_call 19; refine HC.out.mono ?_; rintro e w3 ⟨rfl, hb3⟩))
  go_wp2_with (first | (go_at_call 10; refine (num_any _ _).mono ?_; rintro e w' ⟨rfl, rfl⟩))
  go_ret
  subst hb
  exact ⟨rfl, hb3.alloc hb3.size _⟩

theorem cur {w : World} {f : Nat} {args : Array Value} {r : Value} (ht : HasTab w) (hg : HasET w) (C : ∀ W, HasTab W → HasET W → Calls Tryz.prog f args W fun e w' => e = .returned r ∧ Below W.heap.size W w') (W : World) (hb : Below w.heap.size w W) :
    Calls Tryz.prog f args W fun e w' => e = .returned r ∧ Below w.heap.size w w' := by
  refine (C W (ht.below hb ht.lt) (hg.below hb hg.lt)).mono ?_
  rintro e w' ⟨rfl, h⟩
  exact ⟨rfl, hb.trans (h.mono hb.size)⟩
theorem wtext {w : World} (ht : HasTab w) (hg : HasET w) (v : Vl) (t : ByteArray) (h : v.chk = 0) (hr : v.ok) (hv : v.txt = t) (W : World) (hb : Below w.heap.size w W) :
    Calls Tryz.prog 26 #[v.val] W fun e w' => e = .returned (.string t) ∧ Below w.heap.size w w' :=
  cur ht hg (fun W ht hg => by rw [← hv]; exact ltext_ok v W h hr ht hg) W hb
theorem wnone {w : World} (ht : HasTab w) (hg : HasET w) (s : ByteArray) (hs : s.size ≤ 800) (hv : (readOf s.data.toList).ok = false) (W : World) (hb : Below w.heap.size w W) :
    Calls Tryz.prog 27 #[.string s] W fun e w' => e = .returned (.bool true) ∧ Below w.heap.size w w' :=
  cur ht hg (fun W _ hg => lnone_any s 0 0 0 ⟨#[]⟩ 110 true W hs (by unfold parseRes; rw [if_pos hv]; rfl) rfl hg) W hb
theorem worder {w : World} (ht : HasTab w) (hg : HasET w) (v v' : Vl) (n : Int) (h : v.ord v' = n) (W : World) (hb : Below w.heap.size w W) :
    Calls Tryz.prog 13 #[v.val, v'.val] W fun e w' => e = .returned (.int .i64 n) ∧ Below w.heap.size w w' :=
  cur ht hg (fun W _ _ => by rw [← h]; exact Order_any _ _ _ _ _ _ _ _ _) W hb
def v0 : Vl := ⟨0, 0, 0, ⟨#[]⟩⟩
def v1 : Vl := ⟨1, -5, 0, ⟨#[]⟩⟩
def v2 : Vl := ⟨2, 0, 5, ⟨#[]⟩⟩
def v3 : Vl := ⟨4, 0, 0, ⟨#[0, 255]⟩⟩
def v4 : Vl := ⟨3, 1, 0, ⟨#[]⟩⟩
def v5 : Vl := ⟨1, -1, 0, ⟨#[]⟩⟩
def v6 : Vl := ⟨1, 2, 0, ⟨#[]⟩⟩
def v7 : Vl := ⟨2, 0, 1, ⟨#[]⟩⟩
theorem okOf (v : Vl) (h : decide (-9223372036854775808 ≤ v.i) && decide (v.i ≤ 9223372036854775807) && decide (0 ≤ v.u) && decide (v.u ≤ 18446744073709551615) && decide (v.s.size ≤ 300) = true) : v.ok := by
  simp only [Bool.and_eq_true, decide_eq_true_eq] at h
  exact ⟨h.1.1.1.1, h.1.1.1.2, h.1.1.2, h.1.2, h.2⟩

set_option maxRecDepth 100000 in
set_option maxHeartbeats 4000000 in
theorem works_true (w : World) (ht : HasTab w) (hg : HasET w) :
    Calls Tryz.prog 9 #[] w fun e w' => e = .returned (.bool true) ∧ Below w.heap.size w w' := by
  have t1 : ∀ W, Below w.heap.size w W → Calls Tryz.prog 26 #[.agg #[.int .i64 1, .int .i64 (-5), .int .u64 0, .string ⟨#[]⟩]] W fun e w' => e = .returned (.string ⟨#[45, 53]⟩) ∧ Below w.heap.size w w' := wtext ht hg v1 ⟨#[45, 53]⟩ (by decide +kernel) (okOf _ (by decide +kernel)) (by decide +kernel)
  have T1 := Lib.hid t1
  clear t1
  have t2 : ∀ W, Below w.heap.size w W → Calls Tryz.prog 26 #[.agg #[.int .i64 2, .int .i64 0, .int .u64 5, .string ⟨#[]⟩]] W fun e w' => e = .returned (.string ⟨#[53, 117]⟩) ∧ Below w.heap.size w w' := wtext ht hg v2 ⟨#[53, 117]⟩ (by decide +kernel) (okOf _ (by decide +kernel)) (by decide +kernel)
  have T2 := Lib.hid t2
  clear t2
  have t3 : ∀ W, Below w.heap.size w W → Calls Tryz.prog 26 #[.agg #[.int .i64 4, .int .i64 0, .int .u64 0, .string ⟨#[0, 255]⟩]] W fun e w' => e = .returned (.string ⟨#[120, 39, 48, 48, 102, 102, 39]⟩) ∧ Below w.heap.size w w' := wtext ht hg v3 ⟨#[120, 39, 48, 48, 102, 102, 39]⟩ (by decide +kernel) (okOf _ (by decide +kernel)) (by decide +kernel)
  have T3 := Lib.hid t3
  clear t3
  have t4 : ∀ W, Below w.heap.size w W → Calls Tryz.prog 26 #[.agg #[.int .i64 3, .int .i64 1, .int .u64 0, .string ⟨#[]⟩]] W fun e w' => e = .returned (.string ⟨#[116, 114, 117, 101]⟩) ∧ Below w.heap.size w w' := wtext ht hg v4 ⟨#[116, 114, 117, 101]⟩ (by decide +kernel) (okOf _ (by decide +kernel)) (by decide +kernel)
  have T4 := Lib.hid t4
  clear t4
  have N1 := Lib.hid (wnone ht hg ⟨#[45, 48]⟩ (by decide +kernel) (by decide +kernel))
  have N2 := Lib.hid (wnone ht hg ⟨#[48, 53, 117]⟩ (by decide +kernel) (by decide +kernel))
  have N3 := Lib.hid (wnone ht hg ⟨#[120, 39, 48, 39]⟩ (by decide +kernel) (by decide +kernel))
  have N4 := Lib.hid (wnone ht hg ⟨#[45, 49, 117]⟩ (by decide +kernel) (by decide +kernel))
  have o1 : ∀ W, Below w.heap.size w W → Calls Tryz.prog 13 #[.agg #[.int .i64 0, .int .i64 0, .int .u64 0, .string ⟨#[]⟩], .agg #[.int .i64 1, .int .i64 (-1), .int .u64 0, .string ⟨#[]⟩]] W fun e w' => e = .returned (.int .i64 (-1)) ∧ Below w.heap.size w w' := worder ht hg v0 v5 (-1) (by decide +kernel)
  have O1 := Lib.hid o1
  clear o1
  have o2 : ∀ W, Below w.heap.size w W → Calls Tryz.prog 13 #[.agg #[.int .i64 1, .int .i64 2, .int .u64 0, .string ⟨#[]⟩], .agg #[.int .i64 2, .int .i64 0, .int .u64 1, .string ⟨#[]⟩]] W fun e w' => e = .returned (.int .i64 (-1)) ∧ Below w.heap.size w w' := worder ht hg v6 v7 (-1) (by decide +kernel)
  have O2 := Lib.hid o2
  clear o2
  have R := Row_any (.slice (some ⟨w.heap.size, 0, none⟩) 2 2) [v0, v4] (w.alloc (.cells #[.int .i64 0, .int .i64 0, .int .u64 0, .string ⟨#[]⟩, .int .i64 3, .int .i64 1, .int .u64 0, .string ⟨#[]⟩] 25)) (.inr ⟨_, 2, rfl, by decide, fun j hj => by
    match j, hj with
    | 0, _ => exact ⟨by simp [go_sem]; rfl, by simp [go_sem]; rfl, by simp [go_sem]; rfl, by simp [go_sem]; rfl⟩
    | 1, _ => exact ⟨by simp [go_sem, Addr.add]; rfl, by simp [go_sem, Addr.add]; rfl, by simp [go_sem, Addr.add]; rfl, by simp [go_sem, Addr.add]; rfl⟩⟩) (by
      intro v hv
      simp at hv
      rcases hv with rfl | rfl <;> exact okOf _ (by decide +kernel)) (by decide) (ht.below ((Below.refl _ _).alloc (Nat.le_refl _) _) ht.lt) (hg.below ((Below.refl _ _).alloc (Nat.le_refl _) _) hg.lt)
  rw [rowRes_all (show firstBad [v0, v4] = 0 by decide +kernel), show rowText [v0, v4] = ⟨#[110, 117, 108, 108, 44, 32, 116, 114, 117, 101]⟩ by decide +kernel] at R
  have RR := Lib.hid R
  clear ht hg R
  go_enter Tryz.func9, Tryz.ntmps9
  go_wp2_with (first | (go_at_call 21; refine RR.out.mono ?_; rintro e w' ⟨rfl, hb'⟩; have hb := below_box hb') | (go_at_call 26; with_reducible refine (T1.out _ (by assumption)).mono ?_; rintro e w' ⟨rfl, hb⟩) | (go_at_call 26; with_reducible refine (T2.out _ (by assumption)).mono ?_; rintro e w' ⟨rfl, hb⟩) | (go_at_call 26; with_reducible refine (T3.out _ (by assumption)).mono ?_; rintro e w' ⟨rfl, hb⟩) | (go_at_call 26; with_reducible refine (T4.out _ (by assumption)).mono ?_; rintro e w' ⟨rfl, hb⟩) | (go_at_call 27; with_reducible refine (N1.out _ (by assumption)).mono ?_; rintro e w' ⟨rfl, hb⟩) | (go_at_call 27; with_reducible refine (N2.out _ (by assumption)).mono ?_; rintro e w' ⟨rfl, hb⟩) | (go_at_call 27; with_reducible refine (N3.out _ (by assumption)).mono ?_; rintro e w' ⟨rfl, hb⟩) | (go_at_call 27; with_reducible refine (N4.out _ (by assumption)).mono ?_; rintro e w' ⟨rfl, hb⟩) | (go_at_call 13; with_reducible refine (O1.out _ (by assumption)).mono ?_; rintro e w' ⟨rfl, hb⟩) | (go_at_call 13; with_reducible refine (O2.out _ (by assumption)).mono ?_; rintro e w' ⟨rfl, hb⟩) | (go_at_call 10; refine (num_any _ _).mono ?_; rintro e w' ⟨rfl, rfl⟩))
  go_ret
  exact ⟨rfl, by assumption⟩
end Go.Proofs.YtifmfcaaofiboaaGreatDoor
