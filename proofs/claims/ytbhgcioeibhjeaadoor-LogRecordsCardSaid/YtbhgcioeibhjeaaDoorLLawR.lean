/-
  swingbridgelaw10.LogRecords: the law.
-/
import Derived.Test.YtbhgcioeibhjeaaDoorLWks
import Derived.Test.YtbhgcioeibhjeaaDoorLRef
namespace Go.Proofs.YtbhgcioeibhjeaaDoor
open Go.RowKit

theorem zeros_of (W : World) (K : Nat) : BytesOf (W.alloc (.cells (madeCells #[.int .u8 0] K) 5)) (.slice (some ⟨W.heap.size, 0, none⟩) (List.replicate K (0 : UInt8)).length K) (List.replicate K 0) := by
  refine .inr ⟨_, K, rfl, by simp, fun j hj => ?_⟩
  rw [List.length_replicate] at hj
  have ea : ((⟨W.heap.size, 0, none⟩ : Addr).add j) = ⟨W.heap.size, j, none⟩ := by
    unfold Addr.add
    split
    · simp_all
    · simp
  have hh := heap_alloc_at W (.cells (madeCells #[.int .u8 0] K) 5)
  have ht : (madeCells #[.int .u8 0] K).toList = List.replicate K (.int .u8 0) := toList_madeCells_one _ _
  rw [ea]
  simp only [World.cell?]
  rw [hh]
  have hq : (madeCells #[.int .u8 0] K)[j]? = some (.int .u8 0) := by
    rw [← Array.getElem?_toList, ht, List.getElem?_replicate, if_pos hj]
  show (madeCells #[.int .u8 0] K)[j]? = _
  rw [hq]
  simp
theorem zlen (K : Nat) : (recL (List.replicate K 0)).length = 8 + K := by rw [recL_length, List.length_replicate]
set_option maxRecDepth 100000 in
set_option maxHeartbeats 4000000 in
theorem lawR_far (v : Value) (l : List UInt8) (more : Int) (w : World) (hv : BytesOf w v l) (hET : HasET w) (hl : l.length ≤ 9223372036854775807) (h : 500 < l.length ∨ more < -1 ∨ 1 < more) :
    Calls Tryd.prog 3 #[v, .int .i64 more] w fun e w' => e = .returned (.bool true) ∧ Below w.heap.size w w' := by
  obtain ⟨ob, cb, rfl⟩ := hv.form
  have HW := Lib.hid (works_trueL w hET)
  clear hv hET
  generalize l.length = n at *
  by_cases h0 : 500 < n
  · clear h
    go_enter Tryd.func3, Tryd.ntmps3
    go_wp2_with (first | (go_at_call 5; with_reducible refine HW.out.mono ?_; rintro e w1 ⟨rfl, hb1⟩))
    go_ret
    exact ⟨rfl, hb1⟩
  · by_cases h1 : more < -1
    · clear h
      go_enter Tryd.func3, Tryd.ntmps3
      go_wp2_with (first | (go_at_call 5; with_reducible refine HW.out.mono ?_; rintro e w1 ⟨rfl, hb1⟩))
      go_ret
      exact ⟨rfl, hb1⟩
    · have h2 : 1 < more := by omega
      clear h
      go_enter Tryd.func3, Tryd.ntmps3
      go_wp2_with (first | (go_at_call 5; with_reducible refine HW.out.mono ?_; rintro e w1 ⟨rfl, hb1⟩))
      go_ret
      exact ⟨rfl, hb1⟩
def zD0 : Dk := newD 100000
theorem z0e : wholeN (zD0.F 0) = 0 ∧ (zD0.F 0).length = 0 ∧ zD0.L.length < 900 ∧ zD0.left = 100000 := by decide +kernel
theorem z0a (K : Nat) (hK : K ≤ 60000) : appE zD0 0 (recL (List.replicate K 0)).length = 0 := by
  unfold appE
  rw [if_neg (by omega), if_neg]
  rw [z0e.2.2.2, zlen]
  omega
set_option maxRecDepth 100000 in
set_option maxHeartbeats 4000000 in
theorem lawR_in (v : Value) (l : List UInt8) (K : Nat) (w : World) (hv : BytesOf w v l) (hET : HasET w) (hl : l.length ≤ 500) (hK1 : 59999 ≤ K) (hK2 : K ≤ 60000) :
    Calls Tryd.prog 3 #[v, .int .i64 ((K : Int) - 60000)] w fun e w' => e = .returned (.bool true) ∧ Below w.heap.size w w' := by
  obtain ⟨ob, cb, rfl⟩ := hv.form
  have HR : Hid (Calls Tryd.prog 6 #[.slice ob l.length cb] w fun e w' => ∃ o c, e = .returned (.tuple #[.slice o (8 + l.length) c, .int .i64 0]) ∧ Hid (BytesOf w' (.slice o (8 + l.length) c) (recL l)) ∧ Hid (Below w.heap.size w w') ∧ Hid (BytesOf w' (.slice ob l.length cb) l)) := Lib.hid (by
    refine (Record_ok _ l w hv (by omega)).mono ?_
    rintro e w' ⟨v', rfl, hn⟩
    have hB := hn.of (by rw [recL_length]; omega)
    obtain ⟨o, c, rfl⟩ := hB.form
    rw [recL_length] at hB ⊢
    exact ⟨o, c, rfl, Lib.hid hB, Lib.hid hn.2, Lib.hid (hv.keep hn.2 (Nat.le_refl _))⟩)
  have HF := Lib.hid (fun W => rRecord_ok ⟨l.toArray⟩ W (by show l.toArray.size ≤ 60000; simp; omega))
  have HRK : Hid (∀ W : World, Calls Tryd.prog 6 #[.slice (some ⟨W.heap.size, 0, none⟩) K K] (W.alloc (.cells (madeCells #[.int .u8 0] K) 5)) fun e W' => ∃ o c, e = .returned (.tuple #[.slice o (8 + K) c, .int .i64 0]) ∧ Hid (Below W.heap.size W W')) := Lib.hid fun W => by
    have hz := zeros_of W K
    have h := Record_ok _ _ _ hz (by simp; omega)
    rw [List.length_replicate] at h
    refine h.mono ?_
    rintro e W' ⟨v', rfl, hn⟩
    obtain ⟨o, c, rfl⟩ := (hn.of (by rw [zlen]; omega)).form
    rw [zlen]
    exact ⟨o, c, rfl, Lib.hid (((Below.refl _ W).alloc (Nat.le_refl _) _).trans (hn.2.mono (by simp)))⟩
  have HN : Hid (∀ W : World, Calls Tryd.prog 8 #[.int .i64 100000] W fun e w' => ∃ p, e = .returned (.tuple #[.pointer (some ⟨p, 0, none⟩), .int .i64 0]) ∧ Hid (Run W w' p zD0)) := Lib.hid fun W => by
    refine (run_new 100000 W (by decide) (by decide)).mono ?_
    rintro e w' ⟨p, e0, h⟩
    exact ⟨p, e0, Lib.hid h⟩
  have HO : Hid (∀ W0 W p, Run W0 W p zD0 → Calls Tryd.prog 9 #[.pointer (some ⟨p, 0, none⟩), .int .i64 0] W fun x W' => ∃ q, x = .returned (.tuple #[.pointer (some ⟨q, 0, none⟩), .int .i64 0]) ∧ Hid (LRun W0 W' q p zD0 0 0 0)) := Lib.hid fun W0 W p h => by
    have h1 := r_open_whole h 0 (by decide) (by rw [z0e.1, z0e.2.1])
    rw [z0e.2.1] at h1
    refine h1.mono ?_
    rintro x W' ⟨q, e0, h2, _⟩
    exact ⟨q, e0, Lib.hid h2⟩
  have HA : Hid (∀ W0 W q p, Below w.heap.size w W0 → LRun W0 W q p zD0 0 0 0 → Calls Tryd.prog 10 #[.pointer (some ⟨q, 0, none⟩), .slice (some ⟨W.heap.size, 0, none⟩) K K] (W.alloc (.cells (madeCells #[.int .u8 0] K) 5)) fun x W' => x = .returned (.tuple #[.int .i64 0, .int .i64 0]) ∧ Hid (Below W0.heap.size W0 W')) := Lib.hid fun W0 W q p hb h => by
    have hz := zeros_of W K
    have h1 := l_append (e := 0) (h.below ((Below.refl _ W).alloc (Nat.le_refl _) (.cells (madeCells #[.int .u8 0] K) 5))) (hET.below hb hET.lt) z0e.2.2.1 (by decide) _ _ hz (by simp; omega) (z0a K hK2)
    rw [List.length_replicate] at h1
    refine h1.mono ?_
    rintro x W' ⟨e0, h2⟩
    exact ⟨e0, Lib.hid h2.bel⟩
  have HW := Lib.hid (fun (W : World) (hb : Below w.heap.size w W) => (works_trueL W (hET.below hb hET.lt)).mono (fun e w' h => And.intro h.1 (hb.trans (h.2.mono hb.size))))
  have hmk : ∀ W, (Instr.makeSlice 22 (.int .i64 (K : Int)) (.int .i64 (K : Int))).run Tryd.prog W = .ok (.slice (some ⟨W.heap.size, 0, none⟩) K K) (W.alloc (.cells (madeCells #[.int .u8 0] K) 5)) :=
    run_make_row' 22 5 (.int .u8 0) 1 Tryd.underlying22 infoU8 rfl .i64 .i64 K (by omega) (by omega)
  have hadd : (60000 : Int) + ((K : Int) - 60000) = (K : Int) := by omega
  have hadd2 : (60008 : Int) + ((K : Int) - 60000) = 8 + (K : Int) := by omega
  generalize hS : recL l = S at *
  clear hS hv hET
  generalize l.length = n at *
  have m1 : ¬ ((K : Int) - 60000 < -1) := by omega
  have m2 : ¬ (1 < (K : Int) - 60000) := by omega
  have m3 : ¬ (0 < (K : Int) - 60000) := by omega
  go_enter Tryd.func3, Tryd.ntmps3
  go_upto_region 4 with (first | (go_at_call 6; with_reducible refine HR.out.mono ?_; rintro e w1 ⟨ro, rc, rfl, HB1, HW1, HV1⟩))
  have hst := bytes_string HV1.out.at
  go_upto_region 9 with (first
    | (go_at_call 7; with_reducible refine (HF.out _).mono ?_; rintro e w2 ⟨rfl, hb2⟩; have HB2 := Lib.hid hb2; clear hb2 hst)
    | (go_at_call 6; with_reducible refine (HRK.out _).mono ?_; rintro e w3 ⟨xo, xc, rfl, HB3⟩; have HB13 := Lib.hid (HB2.out.trans (HB3.out.mono HB2.out.size)))
    | (go_at_call 8; with_reducible refine (HN.out _).mono ?_; rintro e w4 ⟨p, rfl, HR4⟩)
    | (go_at_call 9; with_reducible refine (HO.out _ _ _ HR4.out).mono ?_; rintro e w5 ⟨q, rfl, HL5⟩)
    | (go_at_call 10; with_reducible refine (HA.out _ _ _ _ (HW1.out.trans (HB13.out.mono HW1.out.size)) HL5.out).mono ?_; rintro e w6 ⟨rfl, HB6⟩))
  have hb16 : Below w1.heap.size w1 w6 := HB13.out.trans (HB6.out.mono HB13.out.size)
  have hst := bytes_string (HB1.out.keep hb16 (Nat.le_refl _)).at
  have HW6 := Lib.hid (HW.out w6 (HW1.out.trans (hb16.mono HW1.out.size)))
  clear hb16
  go_wp2_with (first | (go_at_call 11; refine (lnum10_any _ _).mono ?_; rintro e wx ⟨rfl, rfl⟩) | (go_at_call 5; with_reducible refine HW6.out.mono ?_; rintro e w7 ⟨rfl, hb7⟩))
  go_ret
  exact ⟨rfl, hb7⟩
set_option maxRecDepth 100000 in
set_option maxHeartbeats 4000000 in
theorem lawR_long (v : Value) (l : List UInt8) (w : World) (hv : BytesOf w v l) (hET : HasET w) (hl : l.length ≤ 500) :
    Calls Tryd.prog 3 #[v, .int .i64 1] w fun e w' => e = .returned (.bool true) ∧ Below w.heap.size w w' := by
  obtain ⟨ob, cb, rfl⟩ := hv.form
  have HR : Hid (Calls Tryd.prog 6 #[.slice ob l.length cb] w fun e w' => ∃ o c, e = .returned (.tuple #[.slice o (8 + l.length) c, .int .i64 0]) ∧ Hid (BytesOf w' (.slice o (8 + l.length) c) (recL l)) ∧ Hid (Below w.heap.size w w') ∧ Hid (BytesOf w' (.slice ob l.length cb) l)) := Lib.hid (by
    refine (Record_ok _ l w hv (by omega)).mono ?_
    rintro e w' ⟨v', rfl, hn⟩
    have hB := hn.of (by rw [recL_length]; omega)
    obtain ⟨o, c, rfl⟩ := hB.form
    rw [recL_length] at hB ⊢
    exact ⟨o, c, rfl, Lib.hid hB, Lib.hid hn.2, Lib.hid (hv.keep hn.2 (Nat.le_refl _))⟩)
  have HF := Lib.hid (fun W => rRecord_ok ⟨l.toArray⟩ W (by show l.toArray.size ≤ 60000; simp; omega))
  have HRK : Hid (∀ W : World, Below w.heap.size w W → Calls Tryd.prog 6 #[.slice (some ⟨W.heap.size, 0, none⟩) 60001 60001] (W.alloc (.cells (madeCells #[.int .u8 0] 60001) 5)) fun e W' => e = .returned (.tuple #[.slice none 0 0, .int .i64 3]) ∧ Hid (Below W.heap.size W W')) := Lib.hid fun W hb => by
    have hb2 : Below w.heap.size w (W.alloc (.cells (madeCells #[.int .u8 0] 60001) 5)) := hb.alloc hb.size _
    refine (Record_bad _ 60001 60001 _ (hET.below hb2 hET.lt) (by decide)).mono ?_
    rintro e W' ⟨rfl, hn⟩
    exact ⟨rfl, Lib.hid (((Below.refl _ W).alloc (Nat.le_refl _) _).trans (hn.mono (by simp)))⟩
  have HN : Hid (∀ W : World, Calls Tryd.prog 8 #[.int .i64 100000] W fun e w' => ∃ p, e = .returned (.tuple #[.pointer (some ⟨p, 0, none⟩), .int .i64 0]) ∧ Hid (Run W w' p zD0)) := Lib.hid fun W => by
    refine (run_new 100000 W (by decide) (by decide)).mono ?_
    rintro e w' ⟨p, e0, h⟩
    exact ⟨p, e0, Lib.hid h⟩
  have HO : Hid (∀ W0 W p, Run W0 W p zD0 → Calls Tryd.prog 9 #[.pointer (some ⟨p, 0, none⟩), .int .i64 0] W fun x W' => ∃ q, x = .returned (.tuple #[.pointer (some ⟨q, 0, none⟩), .int .i64 0]) ∧ Hid (LRun W0 W' q p zD0 0 0 0)) := Lib.hid fun W0 W p h => by
    have h1 := r_open_whole h 0 (by decide) (by rw [z0e.1, z0e.2.1])
    rw [z0e.2.1] at h1
    refine h1.mono ?_
    rintro x W' ⟨q, e0, h2, _⟩
    exact ⟨q, e0, Lib.hid h2⟩
  have HA : Hid (∀ W0 W q p, Below w.heap.size w W0 → LRun W0 W q p zD0 0 0 0 → Calls Tryd.prog 10 #[.pointer (some ⟨q, 0, none⟩), .slice (some ⟨W.heap.size, 0, none⟩) 60001 60001] (W.alloc (.cells (madeCells #[.int .u8 0] 60001) 5)) fun x W' => x = .returned (.tuple #[.int .i64 0, .int .i64 3]) ∧ Hid (Below W0.heap.size W0 W') ∧ Hid (LogC W' q p 0 0 0)) := Lib.hid fun W0 W q p hb h => by
    have h2 := h.below ((Below.refl _ W).alloc (Nat.le_refl _) (.cells (madeCells #[.int .u8 0] 60001) 5))
    have hb2 := hb.trans (h2.bel.mono hb.size)
    refine (lAppend_long q p 0 0 0 _ 60001 60001 _ h2.log (hET.below hb2 hET.lt) (by decide)).mono ?_
    rintro x W' ⟨e0, h3⟩
    have h4 := h2.below h3
    exact ⟨e0, Lib.hid h4.bel, Lib.hid h4.log⟩
  have HEn := Lib.hid (fun (W : World) (q p : Nat) (h : LogC W q p 0 0 0) => lEnd_ok q p 0 0 0 W h)
  have HW := Lib.hid (fun (W : World) (hb : Below w.heap.size w W) => (works_trueL W (hET.below hb hET.lt)).mono (fun e w' h => And.intro h.1 (hb.trans (h.2.mono hb.size))))
  have hmk : ∀ W, (Instr.makeSlice 22 (.int .i64 60001) (.int .i64 60001)).run Tryd.prog W = .ok (.slice (some ⟨W.heap.size, 0, none⟩) 60001 60001) (W.alloc (.cells (madeCells #[.int .u8 0] 60001) 5)) :=
    run_make_row' 22 5 (.int .u8 0) 1 Tryd.underlying22 infoU8 rfl .i64 .i64 60001 (by omega) (by omega)
  generalize madeCells #[.int .u8 0] 60001 = zc at *
  generalize hS : recL l = S at *
  clear hS hv hET
  generalize l.length = n at *
  go_enter Tryd.func3, Tryd.ntmps3
  go_upto_region 4 with (first | (go_at_call 6; with_reducible refine HR.out.mono ?_; rintro e w1 ⟨ro, rc, rfl, HB1, HW1, HV1⟩))
  have hst := bytes_string HV1.out.at
  go_upto_region 9 with (first
    | (go_at_call 7; with_reducible refine (HF.out _).mono ?_; rintro e w2 ⟨rfl, hb2⟩; have HB2 := Lib.hid hb2; clear hb2 hst)
    | (go_at_call 6; with_reducible refine (HRK.out _ (HW1.out.trans (HB2.out.mono HW1.out.size))).mono ?_; rintro e w3 ⟨rfl, HB3⟩; have HB13 := Lib.hid (HB2.out.trans (HB3.out.mono HB2.out.size)))
    | (go_at_call 8; with_reducible refine (HN.out _).mono ?_; rintro e w4 ⟨p, rfl, HR4⟩)
    | (go_at_call 9; with_reducible refine (HO.out _ _ _ HR4.out).mono ?_; rintro e w5 ⟨q, rfl, HL5⟩)
    | (go_at_call 10; with_reducible refine (HA.out _ _ _ _ (HW1.out.trans (HB13.out.mono HW1.out.size)) HL5.out).mono ?_; rintro e w6 ⟨rfl, HB6, HL6⟩))
  have hb16 : Below w1.heap.size w1 w6 := HB13.out.trans (HB6.out.mono HB13.out.size)
  have hst := bytes_string (HB1.out.keep hb16 (Nat.le_refl _)).at
  have HW6 := Lib.hid (HW.out w6 (HW1.out.trans (hb16.mono HW1.out.size)))
  clear hb16
  go_wp2_with (first | (go_at_call 11; refine (lnum10_any _ _).mono ?_; rintro e wx ⟨rfl, rfl⟩) | (go_at_call 12; with_reducible refine (HEn.out _ _ _ HL6.out).mono ?_; rintro e wx ⟨rfl, rfl⟩) | (go_at_call 5; with_reducible refine HW6.out.mono ?_; rintro e w7 ⟨rfl, hb7⟩))
  go_ret
  exact ⟨rfl, hb7⟩
theorem lawR_true (v : Value) (l : List UInt8) (more : Int) (w : World) (hv : BytesOf w v l) (hET : HasET w) (hl : l.length ≤ 9223372036854775807) :
    Calls Tryd.prog 3 #[v, .int .i64 more] w fun e w' => e = .returned (.bool true) ∧ Below w.heap.size w w' := by
  by_cases h : 500 < l.length ∨ more < -1 ∨ 1 < more
  · exact lawR_far v l more w hv hET hl h
  · by_cases h1 : more = 1
    · subst h1
      exact lawR_long v l w hv hET (by omega)
    · have h2 := lawR_in v l (more + 60000).toNat w hv hET (by omega) (by omega) (by omega)
      rw [show (((more + 60000).toNat : Nat) : Int) - 60000 = more by omega] at h2
      exact h2
end Go.Proofs.YtbhgcioeibhjeaaDoor
