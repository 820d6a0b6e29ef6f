/-
  swingbridgelaw10.works.
-/
import Derived.Test.YtbhgcioeibhjeaaGreatDoorLBdR
import Derived.Test.YtbhgcioeibhjeaaGreatDoorLOps
import Derived.Test.YtbhgcioeibhjeaaGreatDoorDWks
namespace Go.Proofs.YtbhgcioeibhjeaaGreatDoor
open Go.RowKit

theorem lnum10_any (n : Int) (w : World) : Calls Tryz.prog 9 #[.int .i64 n] w fun e w' => e = .returned (.int .i64 n) ∧ w = w' := by
  go_enter Tryz.func9, Tryz.ntmps9
  go_wp2
  go_ret
  exact ⟨rfl, rfl⟩
theorem LRun.run {w W : World} {q p : Nat} {D : Dk} {f e t : Int} (h : LRun w W q p D f e t) : Run w W p D := by
  obtain ⟨Φ, h1, h2, h3, _⟩ := h
  exact ⟨Φ, h1, h2, h3⟩
theorem Run.lower {w W W' : World} {p : Nat} {D : Dk} (h : Run W W' p D) (hb : Below w.heap.size w W) : Run w W' p D := by
  obtain ⟨Φ, ⟨mf, ms, V, U, lv, B, h1⟩, h2, h3⟩ := h
  exact ⟨Φ, ⟨mf, ms, V, U, lv, B, ⟨h1.p0, h1.ff, h1.gg, h1.ne, h1.cross, h1.share, ownsRow_baseL h1.row hb.size, h1.bx, h1.lb, h1.fp, h1.fmf, h1.fms, h1.fv, h1.fu, h1.fl, h1.fb, fun k hk => ⟨Nat.le_trans hb.size (h1.lt k hk).1, (h1.lt k hk).2⟩⟩⟩, hb.trans (h2.mono hb.size), h3⟩
theorem l_sync {w W : World} {q p : Nat} {D : Dk} {f e t : Int} (h : LRun w W q p D f e t) : Calls Tryz.prog 27 #[.pointer (some ⟨p, 0, none⟩)] W fun x W' => x = .returned (.int .i64 0) ∧ LRun w W' q p D.synced f e t := by
  obtain ⟨Φ, h1, h2, h3, h4, h5, h6⟩ := h
  refine (Sync_any h1 h2.size).mono ?_
  rintro x w' ⟨e0, Φ', k1, k2⟩
  exact ⟨e0, LRun.turn h1 h2 h4 h5 h6 k1 k2 h3.synced⟩
theorem l_crash {w W : World} {q p : Nat} {D : Dk} {f e t : Int} (h : LRun w W q p D f e t) (keep torn : Nat) (hk : keep ≤ 9223372036854775807) (ht : torn ≤ 9223372036854775807) :
    Calls Tryz.prog 28 #[.pointer (some ⟨p, 0, none⟩), .int .i64 keep, .int .i64 torn] W fun x W' => x = .returned (.int .i64 0) ∧ LRun w W' q p (D.crashed (min keep D.L.length) torn) f e t := by
  obtain ⟨Φ, h1, h2, h3, h4, h5, h6⟩ := h
  refine (Crash_any h1 h2.size h3 keep torn hk ht).mono ?_
  rintro x w' ⟨e0, Φ', k1, k2⟩
  exact ⟨e0, LRun.turn h1 h2 h4 h5 h6 k1 k2 (h3.crashed _ torn)⟩
theorem r_open_whole {w W : World} {p : Nat} {D : Dk} (h : Run w W p D) (f : Nat) (hf : f < 64) (hno : wholeN (D.F f) = (D.F f).length) :
    Calls Tryz.prog 8 #[.pointer (some ⟨p, 0, none⟩), .int .i64 f] W fun x W' => ∃ q, x = .returned (.tuple #[.pointer (some ⟨q, 0, none⟩), .int .i64 0]) ∧ LRun w W' q p D f ((D.F f).length : Nat) 0 ∧ Below W.heap.size W W' := by
  obtain ⟨Φ, h1, h2, h3⟩ := h
  exact open_whole h1 h2 h3 f hf hno
theorem r_open_torn {w W : World} {p : Nat} {D : Dk} (h : Run w W p D) (hET : HasET w) (hfew : D.L.length < 900) (f : Nat) (hf : f < 64) (hlt : wholeN (D.F f) < (D.F f).length) :
    Calls Tryz.prog 8 #[.pointer (some ⟨p, 0, none⟩), .int .i64 f] W fun x W' => ∃ q, x = .returned (.tuple #[.pointer (some ⟨q, 0, none⟩), .int .i64 0]) ∧ LRun w W' q p (D.cutd f (wholeN (D.F f) : Nat)) f (wholeN (D.F f) : Nat) (((D.F f).length - wholeN (D.F f) : Nat) : Int) := by
  obtain ⟨Φ, h1, h2, h3⟩ := h
  exact open_torn h1 h2 h3 hET hfew f hf hlt
theorem bytes_litL (W : World) (l : List UInt8) (n c : Nat) (fz : Nat × Nat) (hn : n = l.length) (hc : n ≤ c) : BytesOf (W.alloc (.cells (cB l).toArray 5 fz)) (.slice (some ⟨W.heap.size, 0, none⟩) n c) l := by
  subst hn
  exact .inr ⟨_, c, rfl, hc, fun j hj => lit_cellsF W (cB l) 5 fz j _ (by simp [cB, hj])⟩
theorem l_append_lit {w W : World} {q p : Nat} {D : Dk} {f t : Int} {e : Nat} (h : LRun w W q p D f e t) (hET : HasET w) (hfew : D.L.length < 900) (he : e ≤ 100000000) (l : List UInt8) (n c : Nat) (hn : n = l.length) (hc : n ≤ c) (hl : l.length ≤ 60000) (hok : appE D f (recL l).length = 0) :
    Calls Tryz.prog 21 #[.pointer (some ⟨q, 0, none⟩), .slice (some ⟨W.heap.size, 0, none⟩) n c] (W.alloc (.cells (cB l).toArray 5 (n, n + 1))) fun x W' => x = .returned (.tuple #[.int .i64 e, .int .i64 0]) ∧ LRun w W' q p (D.app f (recL l)) f ((e + 8 + l.length : Nat) : Int) t :=
  l_append (h.below ((Below.refl _ W).alloc (Nat.le_refl _) _)) hET hfew he _ l (bytes_litL W l n c (n, n + 1) hn hc) hl hok
theorem BytesOf.front {w : World} {oa : Option Addr} {n c : Nat} {l : List UInt8} (h : BytesOf w (.slice oa n c) l) (k : Nat) (hk : k ≤ l.length) : BtAt w (.slice oa k c) (l.take k) := by
  have hl : (l.take k).length = k := by rw [List.length_take]; omega
  refine ⟨oa, c, by rw [hl], fun j hj => ?_⟩
  rw [hl] at hj
  rcases h with ⟨h0, rfl⟩ | ⟨a, cap, e, _, hcell⟩
  · exact absurd hj (by simp at hk; omega)
  · cases e
    refine ⟨a, rfl, ?_⟩
    rw [hcell j (by omega)]
    simp
def wG0 : Dk := newD 1000
def wG1 : Dk := wG0.app 3 (recL [97, 98])
def wG2 : Dk := wG1.app 3 (recL [])
def wG3 : Dk := wG2.synced
def wG4 : Dk := wG3.app 3 (recL [99])
def wG5 : Dk := wG4.crashed (min 0 wG4.L.length) 4
theorem g0e : wholeN (wG0.F 3) = 0 ∧ (wG0.F 3).length = 0 ∧ wG0.L.length < 900 ∧ appE wG0 3 (recL [97, 98]).length = 0 := by decide +kernel
theorem g1e : wG1.L.length < 900 ∧ appE wG1 3 (recL []).length = 0 := by decide +kernel
theorem g2e : findO (wG2.F 3) 0 = some [97, 98] ∧ findO (wG2.F 3) 10 = some [] ∧ findO (wG2.F 3) 1 = none := by decide +kernel
theorem g3e : wG3.L.length < 900 ∧ appE wG3 3 (recL [99]).length = 0 := by decide +kernel
theorem g5e : wG5.L.length < 900 ∧ wholeN (wG5.F 3) = 18 ∧ (wG5.F 3).length = 22 := by decide +kernel
theorem rec9 : (recL [49, 50, 51, 52, 53, 54, 55, 56, 57]).take 9 = [0, 0, 0, 9, 227, 6, 146, 131, 49] ∧ (recL [49, 50, 51, 52, 53, 54, 55, 56, 57]).length = 17 := by decide +kernel
end Go.Proofs.YtbhgcioeibhjeaaGreatDoor
namespace Go.Proofs.YtbhgcioeibhjeaaGreatDoor
open Go.RowKit

set_option maxRecDepth 100000 in
set_option maxHeartbeats 8000000 in
theorem works_trueL (w : World) (hET : HasET w) : Calls Tryz.prog 6 #[] w fun e w' => e = .returned (.bool true) ∧ Below w.heap.size w w' := by
  have HREC : Hid (∀ W : World, Below w.heap.size w W → Calls Tryz.prog 26 #[.slice (some ⟨W.heap.size, 0, none⟩) 9 9] (W.alloc (.cells #[.int .u8 49, .int .u8 50, .int .u8 51, .int .u8 52, .int .u8 53, .int .u8 54, .int .u8 55, .int .u8 56, .int .u8 57] 5 (9, 10))) fun e W' => ∃ a c, e = .returned (.tuple #[.slice (some a) 17 c, .int .i64 0]) ∧ 17 ≤ c ∧ Hid (BtAt W' (.slice (some a) 9 c) [0, 0, 0, 9, 227, 6, 146, 131, 49]) ∧ Hid (Below w.heap.size w W')) := Lib.hid fun W hb => by
    refine (Record_ok _ [49, 50, 51, 52, 53, 54, 55, 56, 57] _ (bytes_litL W _ 9 9 (9, 10) rfl (Nat.le_refl _)) (by decide)).mono ?_
    rintro e W' ⟨v', rfl, hn⟩
    have hB := hn.of (by rw [rec9.2]; decide)
    rcases hB with ⟨_, h0⟩ | ⟨a, cap, rfl, hc, hcell⟩
    · have := rec9.2
      rw [h0] at this
      cases this
    · rw [rec9.2] at hc
      have h9 := BytesOf.front (w := W') (oa := some a) (n := (recL [49, 50, 51, 52, 53, 54, 55, 56, 57]).length) (c := cap) (.inr ⟨a, cap, rfl, by rw [rec9.2]; exact hc, hcell⟩) 9 (by rw [rec9.2]; decide)
      rw [rec9.1] at h9
      refine ⟨a, cap, by rw [rec9.2], hc, Lib.hid h9, Lib.hid ((hb.alloc hb.size _).trans (hn.2.mono (by simp; have := hb.size; omega)))⟩
  have HN : Hid (∀ W, Below w.heap.size w W → Calls Tryz.prog 7 #[.int .i64 1000] W fun e w' => ∃ p, e = .returned (.tuple #[.pointer (some ⟨p, 0, none⟩), .int .i64 0]) ∧ Run w w' p wG0 ∧ Below W.heap.size W w') := Lib.hid fun W hb => by
    refine (run_new 1000 W (by decide) (by decide)).mono ?_
    rintro e w' ⟨p, e0, h⟩
    obtain ⟨_, _, hb2, _⟩ := id h
    exact ⟨p, e0, h.lower hb, hb2⟩
  have HO : Hid (∀ W p, Run w W p wG0 → Calls Tryz.prog 8 #[.pointer (some ⟨p, 0, none⟩), .int .i64 3] W fun x W' => ∃ q, x = .returned (.tuple #[.pointer (some ⟨q, 0, none⟩), .int .i64 0]) ∧ LRun w W' q p wG0 3 0 0 ∧ Below W.heap.size W W') := Lib.hid fun W p h => by
    have h1 := r_open_whole h 3 (by decide) (by rw [g0e.1, g0e.2.1])
    rw [g0e.2.1] at h1
    exact h1
  have H1 : Hid (∀ W q p, LRun w W q p wG0 3 0 0 → Calls Tryz.prog 21 #[.pointer (some ⟨q, 0, none⟩), .slice (some ⟨W.heap.size, 0, none⟩) 2 2] (W.alloc (.cells #[.int .u8 97, .int .u8 98] 5 (2, 3))) fun x W' => x = .returned (.tuple #[.int .i64 0, .int .i64 0]) ∧ LRun w W' q p wG1 3 10 0) := Lib.hid fun W q p h =>
    l_append_lit (e := 0) h hET g0e.2.2.1 (by decide) [97, 98] 2 2 rfl (by decide) (by decide) g0e.2.2.2
  have H2 : Hid (∀ W q p, LRun w W q p wG1 3 10 0 → Calls Tryz.prog 21 #[.pointer (some ⟨q, 0, none⟩), .slice none 0 0] W fun x W' => x = .returned (.tuple #[.int .i64 10, .int .i64 0]) ∧ LRun w W' q p wG2 3 18 0) := Lib.hid fun W q p h =>
    l_append (e := 10) h hET g1e.1 (by decide) _ [] (.inl ⟨rfl, rfl⟩) (by decide) g1e.2
  have HR0 : Hid (∀ W q p, LRun w W q p wG2 3 18 0 → Calls Tryz.prog 22 #[.pointer (some ⟨q, 0, none⟩), .int .i64 0] W fun x W' => ∃ o c, x = .returned (.tuple #[.slice o 2 c, .int .i64 10, .int .i64 0]) ∧ BtAt W' (.slice o 2 c) [97, 98] ∧ LRun w W' q p wG2 3 18 0) := Lib.hid fun W q p h => by
    refine (lRead_yes h (by decide) 0 [97, 98] g2e.1).mono ?_
    rintro x W' ⟨⟨v, e0, hv⟩, hb⟩
    obtain ⟨o, c, rfl⟩ := hv.form
    exact ⟨o, c, e0, hv, h.below hb⟩
  have HR1 : Hid (∀ W q p v, BtAt W v [97, 98] → LRun w W q p wG2 3 18 0 → Calls Tryz.prog 22 #[.pointer (some ⟨q, 0, none⟩), .int .i64 10] W fun x W' => ∃ o c, x = .returned (.tuple #[.slice o 0 c, .int .i64 18, .int .i64 0]) ∧ BtAt W' v [97, 98] ∧ LRun w W' q p wG2 3 18 0) := Lib.hid fun W q p v h0 h => by
    refine (lRead_yes h (by decide) 10 [] g2e.2.1).mono ?_
    rintro x W' ⟨⟨v, e0, hv⟩, hb⟩
    obtain ⟨o, c, rfl⟩ := hv.form
    exact ⟨o, c, e0, h0.keep hb, h.below hb⟩
  have HR2 : Hid (∀ W q p v, BtAt W v [97, 98] → LRun w W q p wG2 3 18 0 → Calls Tryz.prog 22 #[.pointer (some ⟨q, 0, none⟩), .int .i64 1] W fun x W' => x = .returned (.tuple #[.slice none 0 0, .int .i64 0, .int .i64 4]) ∧ BtAt W' v [97, 98] ∧ LRun w W' q p wG2 3 18 0) := Lib.hid fun W q p v h0 h => by
    refine (lRead_no h hET (by decide) 1 g2e.2.2).mono ?_
    rintro x W' ⟨e0, hb⟩
    exact ⟨e0, h0.keep hb, h.below hb⟩
  have HE2 : Hid (∀ W q p, LRun w W q p wG2 3 18 0 → Calls Tryz.prog 24 #[.pointer (some ⟨q, 0, none⟩)] W fun x W' => x = .returned (.int .i64 18) ∧ W = W') := Lib.hid fun W q p h => lEnd_ok q p 3 18 0 W h.log
  have HS : Hid (∀ W q p, LRun w W q p wG2 3 18 0 → Calls Tryz.prog 27 #[.pointer (some ⟨p, 0, none⟩)] W fun x W' => x = .returned (.int .i64 0) ∧ LRun w W' q p wG3 3 18 0) := Lib.hid fun W q p h => l_sync h
  have H3 : Hid (∀ W q p, LRun w W q p wG3 3 18 0 → Calls Tryz.prog 21 #[.pointer (some ⟨q, 0, none⟩), .slice (some ⟨W.heap.size, 0, none⟩) 1 1] (W.alloc (.cells #[.int .u8 99] 5 (1, 2))) fun x W' => x = .returned (.tuple #[.int .i64 18, .int .i64 0]) ∧ LRun w W' q p wG4 3 27 0) := Lib.hid fun W q p h =>
    l_append_lit (e := 18) h hET g3e.1 (by decide) [99] 1 1 rfl (by decide) (by decide) g3e.2
  have HC : Hid (∀ W q p, LRun w W q p wG4 3 27 0 → Calls Tryz.prog 28 #[.pointer (some ⟨p, 0, none⟩), .int .i64 0, .int .i64 4] W fun x W' => x = .returned (.int .i64 0) ∧ Run w W' p wG5) := Lib.hid fun W q p h => by
    refine (l_crash h 0 4 (by decide) (by decide)).mono ?_
    rintro x W' ⟨e0, h1⟩
    exact ⟨e0, h1.run⟩
  have HO2 : Hid (∀ W p, Run w W p wG5 → Calls Tryz.prog 8 #[.pointer (some ⟨p, 0, none⟩), .int .i64 3] W fun x W' => ∃ q, x = .returned (.tuple #[.pointer (some ⟨q, 0, none⟩), .int .i64 0]) ∧ LRun w W' q p (wG5.cutd 3 18) 3 18 4) := Lib.hid fun W p h => by
    have h1 := r_open_torn h hET g5e.1 3 (by decide) (by rw [g5e.2.1, g5e.2.2]; decide)
    rw [g5e.2.1, g5e.2.2] at h1
    exact h1
  have HE3 : Hid (∀ W q p, LRun w W q p (wG5.cutd 3 18) 3 18 4 → Calls Tryz.prog 24 #[.pointer (some ⟨q, 0, none⟩)] W fun x W' => x = .returned (.int .i64 18) ∧ W = W') := Lib.hid fun W q p h => lEnd_ok q p 3 18 4 W h.log
  have HT3 : Hid (∀ W q p, LRun w W q p (wG5.cutd 3 18) 3 18 4 → Calls Tryz.prog 25 #[.pointer (some ⟨q, 0, none⟩)] W fun x W' => x = .returned (.int .i64 4) ∧ W = W') := Lib.hid fun W q p h => lTorn_ok q p 3 18 4 W h.log
  have hcv9 : ∀ W : World, (convert 43 43 (.slice (some ⟨W.heap.size, 0, none⟩) 9 9)).run Tryz.prog (W.alloc (.cells #[.int .u8 49, .int .u8 50, .int .u8 51, .int .u8 52, .int .u8 53, .int .u8 54, .int .u8 55, .int .u8 56, .int .u8 57] 5)) = .ok (.slice (some ⟨W.heap.size, 0, none⟩) 9 9) (W.alloc (.cells #[.int .u8 49, .int .u8 50, .int .u8 51, .int .u8 52, .int .u8 53, .int .u8 54, .int .u8 55, .int .u8 56, .int .u8 57] 5 (9, 10))) := fun W => conv_lit W _ _ _
  have hcv2 : ∀ W : World, (convert 43 43 (.slice (some ⟨W.heap.size, 0, none⟩) 2 2)).run Tryz.prog (W.alloc (.cells #[.int .u8 97, .int .u8 98] 5)) = .ok (.slice (some ⟨W.heap.size, 0, none⟩) 2 2) (W.alloc (.cells #[.int .u8 97, .int .u8 98] 5 (2, 3))) := fun W => conv_lit W _ _ _
  have hcv1 : ∀ W : World, (convert 43 43 (.slice (some ⟨W.heap.size, 0, none⟩) 1 1)).run Tryz.prog (W.alloc (.cells #[.int .u8 99] 5)) = .ok (.slice (some ⟨W.heap.size, 0, none⟩) 1 1) (W.alloc (.cells #[.int .u8 99] 5 (1, 2))) := fun W => conv_lit W _ _ _
  clear hET
  go_enter Tryz.func6, Tryz.ntmps6
  go_wp2_with (first
    | (go_at_call 9; refine (lnum10_any _ _).mono ?_; rintro e wx ⟨rfl, rfl⟩)
    | (go_at_call 26; with_reducible refine (HREC.out _ (Below.refl _ _)).mono ?_; rintro e W ⟨ra, rc, rfl, hrc, HRB, HRW⟩)
    | (go_at_call 7; refine (HN.out _ HRW.out).mono ?_; rintro e W1 ⟨p, rfl, hr, hw1⟩; have HR : Hid (Run w W1 p wG0) := Lib.hid hr; have HRB1 := Lib.hid (HRB.out.keep hw1); clear hr hw1)
    | (go_at_call 8; with_reducible refine (HO.out _ _ HR.out).mono ?_; rintro e W2 ⟨q, rfl, hl, hw2⟩; have hst := bt_string (HRB1.out.keep hw2); have HL := Lib.hid hl; clear hl hw2)
    | (go_at_call 21; with_reducible refine (H1.out _ _ _ HL.out).mono ?_; rintro e W3 ⟨rfl, hl⟩; clear HL hst; have HL := Lib.hid hl; clear hl)
    | (go_at_call 21; with_reducible refine (H2.out _ _ _ HL.out).mono ?_; rintro e W4 ⟨rfl, hl⟩; clear HL; have HL := Lib.hid hl; clear hl)
    | (go_at_call 21; with_reducible refine (H3.out _ _ _ HL.out).mono ?_; rintro e W3 ⟨rfl, hl⟩; clear HL; have HL := Lib.hid hl; clear hl)
    | (go_at_call 22; with_reducible refine (HR0.out _ _ _ HL.out).mono ?_; rintro e W5 ⟨vo, vc, rfl, hv, hl⟩; have HV := Lib.hid hv; clear HL hv; have HL := Lib.hid hl; clear hl)
    | (go_at_call 22; with_reducible refine (HR1.out _ _ _ _ HV.out HL.out).mono ?_; rintro e W6 ⟨o2, c2, rfl, hv, hl⟩; clear HV HL; have HV := Lib.hid hv; have HL := Lib.hid hl; clear hv hl)
    | (go_at_call 22; with_reducible refine (HR2.out _ _ _ _ HV.out HL.out).mono ?_; rintro e W7 ⟨rfl, hv, hl⟩; clear HV HL; have hst := bt_string hv; have HL := Lib.hid hl; clear hv hl)
    | (go_at_call 24; with_reducible refine (HE2.out _ _ _ HL.out).mono ?_; rintro e wx ⟨rfl, rfl⟩)
    | (go_at_call 27; with_reducible refine (HS.out _ _ _ HL.out).mono ?_; rintro e W8 ⟨rfl, hl⟩; clear HL hst; have HL := Lib.hid hl; clear hl)
    | (go_at_call 28; with_reducible refine (HC.out _ _ _ HL.out).mono ?_; rintro e W9 ⟨rfl, hl⟩; clear HL; have HR5 := Lib.hid hl; clear hl)
    | (go_at_call 8; with_reducible refine (HO2.out _ _ HR5.out).mono ?_; rintro e W10 ⟨q2, rfl, hl⟩; have HL := Lib.hid hl; clear hl)
    | (go_at_call 24; with_reducible refine (HE3.out _ _ _ HL.out).mono ?_; rintro e wx ⟨rfl, rfl⟩)
    | (go_at_call 25; with_reducible refine (HT3.out _ _ _ HL.out).mono ?_; rintro e wx ⟨rfl, rfl⟩))
  go_ret
  exact ⟨rfl, HL.out.bel⟩
end Go.Proofs.YtbhgcioeibhjeaaGreatDoor
