/-
  log.Open.
-/
import Derived.Test.YtbhgcioeibhjeaaGreatDoorLWho
namespace Go.Proofs.YtbhgcioeibhjeaaGreatDoor
open Go.RowKit

/-- how many bytes the whole part has -/
def wholeN (l : List UInt8) : Nat := endW (walkW l.length (wholeO l) 0)
theorem wholeN_le (l : List UInt8) : wholeN l ≤ l.length := by
  unfold wholeN
  have hm : ∀ x ∈ walkW l.length (wholeO l) 0, x.1 + 8 + x.2.length ≤ l.length := walkW_mem (step_whole l) _ _
  revert hm
  generalize walkW l.length (wholeO l) 0 = xs
  intro hm
  rcases List.eq_nil_or_concat xs with rfl | ⟨ys, y, rfl⟩
  · simp [endW]
  · rw [List.concat_eq_append, endW_snoc]
    exact hm y (by simp)
theorem LRun.tears {w W : World} {q p : Nat} {D : Dk} {f e t : Int} (h : LRun w W q p D f e t) (t' : Int) : LRun w (W.setCell ⟨q, 3, none⟩ (.int .i64 t')) q p D f e t' := by
  obtain ⟨Φ, ⟨mf, ms, V, U, lv, B, k1⟩, h2, h3, h4, h5, h6⟩ := h
  have hk : ∀ k, k ≠ q → (W.setCell ⟨q, 3, none⟩ (.int .i64 t')).heap[k]? = W.heap[k]? := fun k hk => Below.heap_setCell _ _ _ _ hk
  have hs : (W.setCell ⟨q, 3, none⟩ (.int .i64 t')).heap.size = W.heap.size := by simp [World.setCell]
  refine ⟨Φ, ⟨mf, ms, V, U, lv, B, k1.keep (by omega) (fun k hp => hk k (fun e => h5 (e ▸ hp)))⟩, h2.setCell (p := ⟨q, 3, none⟩) h6 _, h3, ?_, h5, h6⟩
  unfold LogC World.setCell
  unfold LogC at h4
  rw [Array.getElem?_modify, if_pos rfl, h4]
  rfl
set_option maxRecDepth 100000 in
set_option maxHeartbeats 2000000 in
theorem open_whole {w W : World} {Φ : Nat → Prop} {p : Nat} {D : Dk} (h : DkAt w.heap.size W Φ p D) (hbw : Below w.heap.size w W) (hi : D.Inv) (f : Nat) (hf : f < 64) (hno : wholeN (D.F f) = (D.F f).length) :
    Calls Tryz.prog 8 #[.pointer (some ⟨p, 0, none⟩), .int .i64 f] W fun x W' => ∃ q, x = .returned (.tuple #[.pointer (some ⟨q, 0, none⟩), .int .i64 0]) ∧ LRun w W' q p D f ((D.F f).length : Nat) 0 ∧ Below W.heap.size W W' := by
  have hfl : (D.F f).length ≤ 100000000 := by
    have h1 := len_le_sum D.F f hf
    have h2 := hi.sum
    have h3 := hi.room
    omega
  have HR := Lib.hid (Read_sl h hi f hf)
  have HWh : Hid (∀ W1 oa cap, BytesOf W1 (.slice oa (D.F f).length cap) (D.F f) → Calls Tryz.prog 16 #[.slice oa (D.F f).length cap] W1 fun e w' => e = .returned (.int .i64 ((D.F f).length : Nat)) ∧ Below W1.heap.size W1 w') := Lib.hid fun W1 oa cap hb => by
    have h1 := Whole_any oa cap (D.F f) W1 hb hfl
    rw [show endW (walkW (D.F f).length (wholeO (D.F f)) 0) = (D.F f).length from hno] at h1
    exact h1
  have HE : Hid (∀ W2, Below W.heap.size W W2 → ∀ e t, LRun w (W2.alloc (.cells #[.pointer (some ⟨p, 0, none⟩), .int .i64 f, .int .i64 e, .int .i64 t] 55)) W2.heap.size p D f e t ∧ Below W.heap.size W (W2.alloc (.cells #[.pointer (some ⟨p, 0, none⟩), .int .i64 f, .int .i64 e, .int .i64 t] 55))) := Lib.hid fun W2 hb e t => by
    have hb2 := hb.alloc hb.size (.cells #[.pointer (some ⟨p, 0, none⟩), .int .i64 f, .int .i64 e, .int .i64 t] 55)
    refine ⟨⟨Φ, h.below hb2, hbw.trans (hb2.mono hbw.size), hi, heap_alloc_at W2 _, fun hp => ?_, Nat.le_trans hbw.size hb.size⟩, hb2⟩
    obtain ⟨_, _, _, _, _, _, k⟩ := h
    have := (k.lt _ hp).2
    have := hb.size
    omega
  clear h hi hno
  generalize D.F f = lf at *
  go_enter Tryz.func8, Tryz.ntmps8
  go_wp2_with (first | (go_at_call 29; refine HR.out.mono ?_; rintro x w1 ⟨v, rfl, hb1, hw1⟩; obtain ⟨ob, cb, hvf⟩ := hb1.form; subst hvf; have HW1 := Lib.hid (HWh.out w1 ob cb hb1); have HB1 := Lib.hid hw1; clear hb1 hw1) | (go_at_call 16; with_reducible refine HW1.out.mono ?_; rintro x w2 ⟨rfl, hw2⟩; have HL := Lib.hid (HE.out w2 (HB1.out.trans (hw2.mono HB1.out.size))); clear hw2))
  go_ret2
  exact ⟨_, rfl, (HL.out _ _).1, (HL.out _ _).2⟩
end Go.Proofs.YtbhgcioeibhjeaaGreatDoor
namespace Go.Proofs.YtbhgcioeibhjeaaGreatDoor
open Go.RowKit

theorem l_cut {w W : World} {q p : Nat} {D : Dk} {f e t : Int} (h : LRun w W q p D f e t) (hET : HasET w) (hfew : D.L.length < 900) (m : Int) :
    Calls Tryz.prog 30 #[.pointer (some ⟨p, 0, none⟩), .int .i64 f, .int .i64 m] W fun x W' => x = .returned (.int .i64 (cutE D f m)) ∧ LRun w W' q p (D.cutd f m) f e t := by
  have hET2 := hET.below h.bel hET.lt
  obtain ⟨Φ, h1, h2, h3, h4, h5, h6⟩ := h
  refine (Cut_any h1 h2.size h3 hfew hET2 f m).mono ?_
  rintro x w' ⟨e0, Φ', k1, k2⟩
  exact ⟨e0, LRun.turn h1 h2 h4 h5 h6 k1 k2 (h3.cutd f m hfew)⟩
set_option maxRecDepth 100000 in
set_option maxHeartbeats 2000000 in
theorem open_torn {w W : World} {Φ : Nat → Prop} {p : Nat} {D : Dk} (h : DkAt w.heap.size W Φ p D) (hbw : Below w.heap.size w W) (hi : D.Inv) (hET : HasET w) (hfew : D.L.length < 900) (f : Nat) (hf : f < 64) (hlt : wholeN (D.F f) < (D.F f).length) :
    Calls Tryz.prog 8 #[.pointer (some ⟨p, 0, none⟩), .int .i64 f] W fun x W' => ∃ q, x = .returned (.tuple #[.pointer (some ⟨q, 0, none⟩), .int .i64 0]) ∧ LRun w W' q p (D.cutd f (wholeN (D.F f) : Nat)) f (wholeN (D.F f) : Nat) (((D.F f).length - wholeN (D.F f) : Nat) : Int) := by
  have hfl : (D.F f).length ≤ 100000000 := by
    have h1 := len_le_sum D.F f hf
    have h2 := hi.sum
    have h3 := hi.room
    omega
  have HR := Lib.hid (Read_sl h hi f hf)
  have HWh : Hid (∀ W1 oa cap, BytesOf W1 (.slice oa (D.F f).length cap) (D.F f) → Calls Tryz.prog 16 #[.slice oa (D.F f).length cap] W1 fun e w' => e = .returned (.int .i64 (wholeN (D.F f) : Nat)) ∧ Below W1.heap.size W1 w') := Lib.hid fun W1 oa cap hb => Whole_any oa cap (D.F f) W1 hb hfl
  have HE : Hid (∀ W2, Below W.heap.size W W2 → ∀ e t, LRun w (W2.alloc (.cells #[.pointer (some ⟨p, 0, none⟩), .int .i64 f, .int .i64 e, .int .i64 t] 55)) W2.heap.size p D f e t) := Lib.hid fun W2 hb e t => by
    have hb2 := hb.alloc hb.size (.cells #[.pointer (some ⟨p, 0, none⟩), .int .i64 f, .int .i64 e, .int .i64 t] 55)
    refine ⟨Φ, h.below hb2, hbw.trans (hb2.mono hbw.size), hi, heap_alloc_at W2 _, fun hp => ?_, Nat.le_trans hbw.size hb.size⟩
    obtain ⟨_, _, _, _, _, _, k⟩ := h
    have := (k.lt _ hp).2
    have := hb.size
    omega
  have HC : Hid (∀ W3 q t, LRun w W3 q p D f (wholeN (D.F f) : Nat) t → Calls Tryz.prog 30 #[.pointer (some ⟨p, 0, none⟩), .int .i64 f, .int .i64 (wholeN (D.F f) : Nat)] W3.drew fun x W' => (∃ n, x = .returned (.int .i64 n)) ∧ LogC W' q p f (wholeN (D.F f) : Nat) t ∧ LRun w W' q p (D.cutd f (wholeN (D.F f) : Nat)) f (wholeN (D.F f) : Nat) t) := Lib.hid fun W3 q t h3 => (l_cut (h3.below ((Below.refl _ W3).drew)) hET hfew _).mono (by
    rintro x w' ⟨e0, h4⟩
    exact ⟨⟨_, e0⟩, h4.log, h4⟩)
  clear h hi hET hfew
  generalize hDc : D.cutd f (wholeN (D.F f) : Nat) = D' at *
  generalize D.F f = lf at *
  generalize hwn : wholeN lf = wn at *
  have hsub : ((lf.length - wn : Nat) : Int) = (lf.length : Int) - (wn : Int) := by omega
  have hpos : (0 : Int) < (lf.length : Int) - (wn : Int) := by omega
  rw [hsub]
  clear hDc hwn hsub
  go_enter Tryz.func8, Tryz.ntmps8
  go_upto_region 7 with (first | (go_at_call 29; refine HR.out.mono ?_; rintro x w1 ⟨v, rfl, hb1, hw1⟩; obtain ⟨ob, cb, hvf⟩ := hb1.form; subst hvf; have HW1 := Lib.hid (HWh.out w1 ob cb hb1); have HB1 := Lib.hid hw1; clear hb1 hw1) | (go_at_call 16; with_reducible refine HW1.out.mono ?_; rintro x w2 ⟨rfl, hw2⟩; have HL := Lib.hid (HE.out w2 (HB1.out.trans (hw2.mono HB1.out.size)) wn ((lf.length : Int) - (wn : Int))); clear hw2))
  obtain ⟨w4, hw4⟩ : ∃ w4, w2.alloc (.cells #[.pointer (some ⟨p, 0, none⟩), .int .i64 f, .int .i64 wn, .int .i64 ((lf.length : Int) - (wn : Int))] 55) = w4 := ⟨_, rfl⟩
  rw [hw4] at HL
  try rw [hw4]
  obtain ⟨c0, c1, c2, c3⟩ := HL.out.log.cells
  have HCC := Lib.hid (HC.out w4 w2.heap.size _ HL.out)
  clear hw4
  go_region_held3 (fun X => X.cell? ⟨w2.heap.size, 0, none⟩ = some (.pointer (some ⟨p, 0, none⟩)) ∧ X.cell? ⟨w2.heap.size, 2, none⟩ = some (.int .i64 wn)) (first | exact ⟨c0, c2⟩ | assumption)
    (first | (go_at_call 30; with_reducible refine HCC.out.mono ?_; rintro x w5 ⟨⟨n5, rfl⟩, hl5, hr5⟩; have HR5 := Lib.hid hr5; obtain ⟨d0, d1, d2, d3⟩ := hl5.cells; have hS5 := And.intro d0 d2; clear hr5 hl5))
  go_wp2_with fail
  go_ret2
  exact ⟨_, rfl, HR5.out⟩
end Go.Proofs.YtbhgcioeibhjeaaGreatDoor
