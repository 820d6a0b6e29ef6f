/-
  swingbridgelaw09.works: its walk.
-/
import Derived.Test.YtlnemefegkjjiaaDoorDWorks
namespace Go.Proofs.YtlnemefegkjjiaaDoor
open Go.RowKit

theorem run_app_lit {w W : World} {p : Nat} {D : Dk} (h : Run w W p D) (hET : HasET w) (hfew : D.L.length < 900) (f : Int) (l : List UInt8) (n c : Nat) (hn : n = l.length) (r : Int) (hr : appE D f n = r) :
    Calls Tryd.prog 13 #[.pointer (some ⟨p, 0, none⟩), .int .i64 f, .slice (some ⟨W.heap.size, 0, none⟩) n c] (W.alloc (.cells (cB l).toArray 5 (n, n + 1))) fun e W' => e = .returned (.int .i64 r) ∧ Run w W' p (D.app f l) := by
  have h1 := run_app (h.below ((Below.refl _ W).alloc (Nat.le_refl _) _)) hET hfew f _ l (bt_lit W l n c (n, n + 1) hn)
  rw [← hn, hr] at h1
  exact h1
theorem modify_push (h : Array Obj) (o : Obj) (f : Obj → Obj) : (h.push o).modify h.size f = h.push (f o) := by
  apply Array.ext_getElem?
  intro i
  rw [Array.getElem?_modify, Array.getElem?_push, Array.getElem?_push]
  by_cases hi : i = h.size
  · subst hi
    simp
  · rw [if_neg (fun e => hi e.symm), if_neg hi, if_neg hi]
theorem freeze_alloc (W : World) (arr : Array Value) : (W.alloc (.cells arr 5)).freeze ⟨W.heap.size, arr.size, none⟩ 1 = W.alloc (.cells arr 5 (arr.size, arr.size + 1)) := by
  show ({ W.alloc (.cells arr 5) with heap := (W.heap.push (.cells arr 5)).modify W.heap.size _ } : World) = _
  rw [modify_push]
  rfl
theorem conv_lit (W : World) (arr : Array Value) (n c : Nat) : (convert 31 31 (.slice (some ⟨W.heap.size, 0, none⟩) n c)).run Tryd.prog (W.alloc (.cells arr 5)) = .ok (.slice (some ⟨W.heap.size, 0, none⟩) n c) (W.alloc (.cells arr 5 (arr.size, arr.size + 1))) := by
  have hh := heap_alloc_at W (.cells arr 5)
  have hs : (W.alloc (.cells arr 5)).shape? W.heap.size = some (5, arr.size) := by
    unfold World.shape?
    rw [hh]
  simp [convert, run_underlying Tryd.underlying31, run_underlying Tryd.underlying5, Result.andThen, markStringish, hs, freeze_alloc]
set_option maxRecDepth 100000 in
set_option maxHeartbeats 8000000 in
theorem works_trueD (w : World) (hET : HasET w) : Calls Tryd.prog 5 #[] w fun e w' => e = .returned (.bool true) ∧ Below w.heap.size w w' := by
  have HN := Lib.hid (run_new 10 w (by decide) (by decide))
  have H1 : Hid (∀ W p, Run w W p wD0 → Calls Tryd.prog 13 #[.pointer (some ⟨p, 0, none⟩), .int .i64 0, .slice (some ⟨W.heap.size, 0, none⟩) 3 3] (W.alloc (.cells #[.int .u8 97, .int .u8 98, .int .u8 99] 5 (3, 4))) fun e W' => e = .returned (.int .i64 0) ∧ Run w W' p wD1) := Lib.hid fun W p h => run_app_lit h hET w1e.2 0 [97, 98, 99] 3 3 rfl 0 w1e.1
  have H2 : Hid (∀ W p, Run w W p wD1 → Calls Tryd.prog 14 #[.pointer (some ⟨p, 0, none⟩)] W fun e W' => e = .returned (.int .i64 0) ∧ Run w W' p wD2) := Lib.hid fun W p h => run_sync h
  have H3 : Hid (∀ W p, Run w W p wD2 → Calls Tryd.prog 13 #[.pointer (some ⟨p, 0, none⟩), .int .i64 0, .slice (some ⟨W.heap.size, 0, none⟩) 3 3] (W.alloc (.cells #[.int .u8 100, .int .u8 101, .int .u8 102] 5 (3, 4))) fun e W' => e = .returned (.int .i64 0) ∧ Run w W' p wD3) := Lib.hid fun W p h => run_app_lit h hET w3e.2 0 [100, 101, 102] 3 3 rfl 0 w3e.1
  have H4 : Hid (∀ W p, Run w W p wD3 → Calls Tryd.prog 13 #[.pointer (some ⟨p, 0, none⟩), .int .i64 1, .slice (some ⟨W.heap.size, 0, none⟩) 2 2] (W.alloc (.cells #[.int .u8 103, .int .u8 104] 5 (2, 3))) fun e W' => e = .returned (.int .i64 0) ∧ Run w W' p wD4) := Lib.hid fun W p h => run_app_lit h hET w4e.2 1 [103, 104] 2 2 rfl 0 w4e.1
  have H5 : Hid (∀ W p, Run w W p wD4 → Calls Tryd.prog 13 #[.pointer (some ⟨p, 0, none⟩), .int .i64 2, .slice (some ⟨W.heap.size, 0, none⟩) 3 3] (W.alloc (.cells #[.int .u8 120, .int .u8 121, .int .u8 122] 5 (3, 4))) fun e W' => e = .returned (.int .i64 190) ∧ Run w W' p wD5) := Lib.hid fun W p h => run_app_lit h hET w5e.2 2 [120, 121, 122] 3 3 rfl 190 w5e.1
  have HL : Hid (∀ W p, Run w W p wD4 → Calls Tryd.prog 12 #[.pointer (some ⟨p, 0, none⟩)] W fun e W' => e = .returned (.int .i64 2) ∧ Run w W' p wD4) := Lib.hid fun W p h => by
    have h1 := run_loose h
    rw [w4l.1] at h1
    exact h1
  have HF : Hid (∀ W p, Run w W p wD4 → Calls Tryd.prog 15 #[.pointer (some ⟨p, 0, none⟩)] W fun e W' => e = .returned (.int .i64 2) ∧ Run w W' p wD4) := Lib.hid fun W p h => by
    have h1 := run_left h
    rw [w4l.2] at h1
    exact h1
  have H6 : Hid (∀ W p, Run w W p wD5 → Calls Tryd.prog 11 #[.pointer (some ⟨p, 0, none⟩), .int .i64 1, .int .i64 1] W fun e W' => e = .returned (.int .i64 0) ∧ Run w W' p wD6) := Lib.hid fun W p h => run_crash h 1 1 (by decide) (by decide)
  have HR0 : Hid (∀ W p, Run w W p wD6 → Calls Tryd.prog 10 #[.pointer (some ⟨p, 0, none⟩), .int .i64 0] W fun e W' => e = .returned (.string ⟨#[97, 98, 99, 100, 101, 102]⟩) ∧ Run w W' p wD6) := Lib.hid fun W p h => by
    have h1 := run_read h hET 0
    rw [w6r.1] at h1
    exact h1
  have HR1 : Hid (∀ W p, Run w W p wD6 → Calls Tryd.prog 10 #[.pointer (some ⟨p, 0, none⟩), .int .i64 1] W fun e W' => e = .returned (.string ⟨#[103]⟩) ∧ Run w W' p wD6) := Lib.hid fun W p h => by
    have h1 := run_read h hET 1
    rw [w6r.2] at h1
    exact h1
  have H7 : Hid (∀ W p, Run w W p wD6 → Calls Tryd.prog 16 #[.pointer (some ⟨p, 0, none⟩), .int .i64 0, .int .i64 2] W fun e W' => e = .returned (.int .i64 0) ∧ Run w W' p wD7) := Lib.hid fun W p h => by
    have h1 := run_cut h hET w7e.2 0 2
    rw [w7e.1] at h1
    exact h1
  have H8 : Hid (∀ W p, Run w W p wD7 → Calls Tryd.prog 11 #[.pointer (some ⟨p, 0, none⟩), .int .i64 0, .int .i64 9] W fun e W' => e = .returned (.int .i64 0) ∧ Run w W' p wD8) := Lib.hid fun W p h => run_crash h 0 9 (by decide) (by decide)
  have HR8 : Hid (∀ W p, Run w W p wD8 → Calls Tryd.prog 10 #[.pointer (some ⟨p, 0, none⟩), .int .i64 0] W fun e W' => e = .returned (.string ⟨#[97, 98, 99, 100, 101, 102]⟩) ∧ Run w W' p wD8) := Lib.hid fun W p h => by
    have h1 := run_read h hET 0
    rw [w8r] at h1
    exact h1
  have H9 : Hid (∀ W p, Run w W p wD8 → Calls Tryd.prog 16 #[.pointer (some ⟨p, 0, none⟩), .int .i64 0, .int .i64 7] W fun e W' => e = .returned (.int .i64 4) ∧ Run w W' p (wD8.cutd 0 7)) := Lib.hid fun W p h => by
    have h1 := run_cut h hET w9e.2 0 7
    rw [w9e.1] at h1
    exact h1
  have hcv97 : ∀ W : World, (convert 31 31 (.slice (some ⟨W.heap.size, 0, none⟩) 3 3)).run Tryd.prog (W.alloc (.cells #[.int .u8 97, .int .u8 98, .int .u8 99] 5)) = .ok (.slice (some ⟨W.heap.size, 0, none⟩) 3 3) (W.alloc (.cells #[.int .u8 97, .int .u8 98, .int .u8 99] 5 (3, 4))) := fun W => conv_lit W _ _ _
  have hcv10 : ∀ W : World, (convert 31 31 (.slice (some ⟨W.heap.size, 0, none⟩) 3 3)).run Tryd.prog (W.alloc (.cells #[.int .u8 100, .int .u8 101, .int .u8 102] 5)) = .ok (.slice (some ⟨W.heap.size, 0, none⟩) 3 3) (W.alloc (.cells #[.int .u8 100, .int .u8 101, .int .u8 102] 5 (3, 4))) := fun W => conv_lit W _ _ _
  have hcv13 : ∀ W : World, (convert 31 31 (.slice (some ⟨W.heap.size, 0, none⟩) 2 2)).run Tryd.prog (W.alloc (.cells #[.int .u8 103, .int .u8 104] 5)) = .ok (.slice (some ⟨W.heap.size, 0, none⟩) 2 2) (W.alloc (.cells #[.int .u8 103, .int .u8 104] 5 (2, 3))) := fun W => conv_lit W _ _ _
  have hcv12 : ∀ W : World, (convert 31 31 (.slice (some ⟨W.heap.size, 0, none⟩) 3 3)).run Tryd.prog (W.alloc (.cells #[.int .u8 120, .int .u8 121, .int .u8 122] 5)) = .ok (.slice (some ⟨W.heap.size, 0, none⟩) 3 3) (W.alloc (.cells #[.int .u8 120, .int .u8 121, .int .u8 122] 5 (3, 4))) := fun W => conv_lit W _ _ _
  clear hET
  go_enter Tryd.func5, Tryd.ntmps5
  go_wp2_with (first
    | (go_at_call 7; refine (lnum_any _ _).mono ?_; rintro e wx ⟨rfl, rfl⟩)
    | (go_at_call 6; refine HN.out.mono ?_; rintro e W ⟨p, rfl, hr⟩; have HR : Hid (Run w W p wD0) := Lib.hid hr; clear hr)
    | (go_at_call 13; with_reducible refine (H1.out _ p HR.out).mono ?_; rintro e W ⟨rfl, hr⟩; clear HR; have HR := Lib.hid hr; clear hr)
    | (go_at_call 13; with_reducible refine (H3.out _ p HR.out).mono ?_; rintro e W ⟨rfl, hr⟩; clear HR; have HR := Lib.hid hr; clear hr)
    | (go_at_call 13; with_reducible refine (H4.out _ p HR.out).mono ?_; rintro e W ⟨rfl, hr⟩; clear HR; have HR := Lib.hid hr; clear hr)
    | (go_at_call 13; with_reducible refine (H5.out _ p HR.out).mono ?_; rintro e W ⟨rfl, hr⟩; clear HR; have HR := Lib.hid hr; clear hr)
    | (go_at_call 14; with_reducible refine (H2.out _ p HR.out).mono ?_; rintro e W ⟨rfl, hr⟩; clear HR; have HR := Lib.hid hr; clear hr)
    | (go_at_call 12; with_reducible refine (HL.out _ p HR.out).mono ?_; rintro e W ⟨rfl, hr⟩; clear HR; have HR := Lib.hid hr; clear hr)
    | (go_at_call 15; with_reducible refine (HF.out _ p HR.out).mono ?_; rintro e W ⟨rfl, hr⟩; clear HR; have HR := Lib.hid hr; clear hr)
    | (go_at_call 11; with_reducible refine (H6.out _ p HR.out).mono ?_; rintro e W ⟨rfl, hr⟩; clear HR; have HR := Lib.hid hr; clear hr)
    | (go_at_call 11; with_reducible refine (H8.out _ p HR.out).mono ?_; rintro e W ⟨rfl, hr⟩; clear HR; have HR := Lib.hid hr; clear hr)
    | (go_at_call 10; with_reducible refine (HR0.out _ p HR.out).mono ?_; rintro e W ⟨rfl, hr⟩; clear HR; have HR := Lib.hid hr; clear hr)
    | (go_at_call 10; with_reducible refine (HR1.out _ p HR.out).mono ?_; rintro e W ⟨rfl, hr⟩; clear HR; have HR := Lib.hid hr; clear hr)
    | (go_at_call 10; with_reducible refine (HR8.out _ p HR.out).mono ?_; rintro e W ⟨rfl, hr⟩; clear HR; have HR := Lib.hid hr; clear hr)
    | (go_at_call 16; with_reducible refine (H7.out _ p HR.out).mono ?_; rintro e W ⟨rfl, hr⟩; clear HR; have HR := Lib.hid hr; clear hr)
    | (go_at_call 16; with_reducible refine (H9.out _ p HR.out).mono ?_; rintro e W ⟨rfl, hr⟩; clear HR; have HR := Lib.hid hr; clear hr))
  go_ret
  obtain ⟨_, _, hb, _⟩ := HR.out
  exact ⟨rfl, hb⟩
end Go.Proofs.YtlnemefegkjjiaaDoor
