/-
  log: a log and its disk, and blocks beside them that stay.
-/
import Derived.Test.YtbhgcioeibhjeaaGreatDoorLWks
namespace Go.Proofs.YtbhgcioeibhjeaaGreatDoor
open Go.RowKit

/-- a log q over a file of the disk p; the blocks of Ψ lie beside them, as they lay in V0 -/
def LK (Ψ : Nat → Prop) (V0 w W : World) (q p : Nat) (D : Dk) (f e t : Int) : Prop :=
  ∃ Φ, DkAt w.heap.size W Φ p D ∧ Below w.heap.size w W ∧ D.Inv ∧ LogC W q p f e t ∧ ¬ Φ q ∧ w.heap.size ≤ q ∧ (∀ k, Ψ k → ¬ Φ k ∧ k ≠ q ∧ k < W.heap.size ∧ W.heap[k]? = V0.heap[k]?)
theorem LK.bel {Ψ : Nat → Prop} {V0 w W : World} {q p : Nat} {D : Dk} {f e t : Int} (h : LK Ψ V0 w W q p D f e t) : Below w.heap.size w W := by
  obtain ⟨_, _, h, _⟩ := h
  exact h
theorem LK.log {Ψ : Nat → Prop} {V0 w W : World} {q p : Nat} {D : Dk} {f e t : Int} (h : LK Ψ V0 w W q p D f e t) : LogC W q p f e t := by
  obtain ⟨_, _, _, _, h, _⟩ := h
  exact h
theorem LK.inv {Ψ : Nat → Prop} {V0 w W : World} {q p : Nat} {D : Dk} {f e t : Int} (h : LK Ψ V0 w W q p D f e t) : D.Inv := by
  obtain ⟨_, _, _, h, _⟩ := h
  exact h
theorem LK.frame {Ψ : Nat → Prop} {V0 w W : World} {q p : Nat} {D : Dk} {f e t : Int} (h : LK Ψ V0 w W q p D f e t) : ∀ k, Ψ k → k < W.heap.size ∧ W.heap[k]? = V0.heap[k]? := by
  obtain ⟨_, _, _, _, _, _, _, h⟩ := h
  exact fun k hk => (h k hk).2.2
theorem LK.below {Ψ : Nat → Prop} {V0 w W W' : World} {q p : Nat} {D : Dk} {f e t : Int} (h : LK Ψ V0 w W q p D f e t) (hb : Below W.heap.size W W') : LK Ψ V0 w W' q p D f e t := by
  obtain ⟨Φ, h1, h2, h3, h4, h5, h6, h7⟩ := h
  exact ⟨Φ, h1.below hb, h2.trans (hb.mono h2.size), h3, (hb.block q (Array.getElem?_eq_some_iff.1 h4).1).trans h4, h5, h6, fun k hk => ⟨(h7 k hk).1, (h7 k hk).2.1, Nat.lt_of_lt_of_le (h7 k hk).2.2.1 hb.size, (hb.block k (h7 k hk).2.2.1).trans (h7 k hk).2.2.2⟩⟩
theorem LK.turn {Ψ : Nat → Prop} {V0 w W W' : World} {Φ Φ' : Nat → Prop} {q p : Nat} {D D' : Dk} {f e t : Int} (h7 : ∀ k, Ψ k → ¬ Φ k ∧ k ≠ q ∧ k < W.heap.size ∧ W.heap[k]? = V0.heap[k]?) (h1 : DkAt w.heap.size W Φ p D) (h2 : Below w.heap.size w W) (h4 : LogC W q p f e t) (h5 : ¬ Φ q) (h6 : w.heap.size ≤ q)
    (h' : DkAt w.heap.size W' Φ' p D') (ht : TurnD W W' Φ Φ') (hi : D'.Inv) : LK Ψ V0 w W' q p D' f e t := by
  have hq := (Array.getElem?_eq_some_iff.1 h4).1
  have hn : ∀ k, k < W.heap.size → ¬ Φ k → ¬ Φ' k := fun k hk hp hp' => by
    rcases ht.new k hp' with h0 | h0
    · exact hp h0
    · omega
  exact ⟨Φ', h', h2.trans (ht.below (fun k hk => by obtain ⟨_, _, _, _, _, _, h⟩ := h1; exact (h.lt k hk).1) h2.size), hi, (ht.block q hq h5).trans h4, hn q hq h5, h6, fun k hk => ⟨hn k (h7 k hk).2.2.1 (h7 k hk).1, (h7 k hk).2.1, Nat.lt_of_lt_of_le (h7 k hk).2.2.1 ht.size, (ht.block k (h7 k hk).2.2.1 (h7 k hk).1).trans (h7 k hk).2.2.2⟩⟩
/-- other blocks beside them -/
theorem LK.other {Ψ Ψ' : Nat → Prop} {V0 V1 w W W' : World} {q p : Nat} {D : Dk} {f e t : Int} (h : LK Ψ V0 w W q p D f e t) (hb : Below W.heap.size W W') (hΨ : ∀ k, Ψ' k → W.heap.size ≤ k ∧ k < W'.heap.size ∧ W'.heap[k]? = V1.heap[k]?) : LK Ψ' V1 w W' q p D f e t := by
  obtain ⟨Φ, h1, h2, h3, h4, h5, h6, h7⟩ := h
  refine ⟨Φ, h1.below hb, h2.trans (hb.mono h2.size), h3, (hb.block q (Array.getElem?_eq_some_iff.1 h4).1).trans h4, h5, h6, fun k hk => ⟨fun hp => ?_, fun e => ?_, (hΨ k hk).2⟩⟩
  · obtain ⟨_, _, _, _, _, _, k1⟩ := h1
    have := (k1.lt k hp).2
    have := (hΨ k hk).1
    omega
  · subst e
    have := (Array.getElem?_eq_some_iff.1 h4).1
    have := (hΨ k hk).1
    omega
theorem LK.ends {Ψ : Nat → Prop} {V0 w W : World} {q p : Nat} {D : Dk} {f e t : Int} (h : LK Ψ V0 w W q p D f e t) (e' : Int) : LK Ψ V0 w (W.setCell ⟨q, 2, none⟩ (.int .i64 e')) q p D f e' t := by
  obtain ⟨Φ, ⟨mf, ms, V, U, lv, B, k1⟩, h2, h3, h4, h5, h6, h7⟩ := h
  have hk : ∀ k, k ≠ q → (W.setCell ⟨q, 2, none⟩ (.int .i64 e')).heap[k]? = W.heap[k]? := fun k hk => Below.heap_setCell _ _ _ _ hk
  have hs : (W.setCell ⟨q, 2, none⟩ (.int .i64 e')).heap.size = W.heap.size := by simp [World.setCell]
  refine ⟨Φ, ⟨mf, ms, V, U, lv, B, k1.keep (by omega) (fun k hp => hk k (fun e => h5 (e ▸ hp)))⟩, h2.setCell (p := ⟨q, 2, none⟩) h6 _, h3, ?_, h5, h6, fun k hk' => ⟨(h7 k hk').1, (h7 k hk').2.1, by rw [hs]; exact (h7 k hk').2.2.1, (hk k (h7 k hk').2.1).trans (h7 k hk').2.2.2⟩⟩
  unfold LogC World.setCell
  unfold LogC at h4
  rw [Array.getElem?_modify, if_pos rfl, h4]
  rfl
set_option maxRecDepth 100000 in
set_option maxHeartbeats 2000000 in
theorem k_append {Ψ : Nat → Prop} {V0 w W : World} {q p : Nat} {D : Dk} {f t : Int} {e : Nat} (h : LK Ψ V0 w W q p D f e t) (hET : HasET w) (hfew : D.L.length < 900) (he : e ≤ 100000000) (v : Value) (l : List UInt8) (hv : BytesOf W v l) (hl : l.length ≤ 60000) (hok : appE D f (recL l).length = 0) :
    Calls Tryz.prog 21 #[.pointer (some ⟨q, 0, none⟩), v] W fun x W' => x = .returned (.tuple #[.int .i64 e, .int .i64 0]) ∧ LK Ψ V0 w W' q p (D.app f (recL l)) f ((e + 8 + l.length : Nat) : Int) t := by
  obtain ⟨ob, cb, hform⟩ := hv.form
  subst hform
  have HM := Lib.hid (lmayPut_ok q p f e t ob l.length cb W h.log hl)
  have HR := Lib.hid (record_any _ l W hv hl)
  have hq := isErr_eqn
  have HA : Hid (∀ w2 v', NewRow W w2 v' (recL l) → (∃ o c, v' = .slice o (8 + l.length) c) ∧ LogC w2.drew q p f e t ∧ Calls Tryz.prog 14 #[.pointer (some ⟨p, 0, none⟩), .int .i64 f, v'] w2.drew fun x w3 => x = .returned (.int .i64 0) ∧ LK Ψ V0 w w3 q p (D.app f (recL l)) f e t) := Lib.hid fun w2 v' hn => by
    have hb : Below W.heap.size W w2.drew := hn.2.drew
    have hB := hn.of (by rw [recL_length]; omega)
    obtain ⟨o, c, hvf⟩ := hB.form
    have h2 := h.below hb
    have hET2 : HasET w2.drew := hET.below h2.bel hET.lt
    refine ⟨⟨o, c, by rw [hvf, recL_length]⟩, h2.log, ?_⟩
    obtain ⟨Φ, k1, k2, k3, k4, k5, k6, k7⟩ := h2
    have hB2 : BytesOf w2.drew v' (recL l) := hB.keep ((Below.refl _ w2).drew) (Nat.le_refl _)
    refine (Append_any k1 k2.size k3 hfew hET2 f v' (recL l) hB2.bt).mono ?_
    rintro x w3 ⟨x0, Φ', j1, j2⟩
    rw [hok] at x0
    exact ⟨x0, LK.turn k7 k1 k2 k4 k5 k6 j1 j2 (k3.app f (recL l) hfew)⟩
  clear h hET hfew hv hok
  have hwr : IntKind.i64.wrap ((e : Int) + ((8 + l.length : Nat) : Int)) = ((e + 8 + l.length : Nat) : Int) := by rw [IntKind.wrap_i64]; omega
  generalize D.app f (recL l) = D' at *
  generalize recL l = rl at *
  generalize l.length = n at *
  go_enter Tryz.func21, Tryz.ntmps21
  go_upto_region 5 with (first | (go_at_call 49; with_reducible refine HM.out.mono ?_; rintro x w1 ⟨rfl, rfl⟩) | (go_at_call 50; with_reducible refine HR.out.mono ?_; rintro x w2 ⟨v', rfl, hr⟩; obtain ⟨hvv, hlc, hca⟩ := HA.out w2 v' hr; obtain ⟨o, c, hvf⟩ := hvv; subst hvf; have HC := Lib.hid hca; clear hca hr))
  obtain ⟨c0, c1, c2, c3⟩ := hlc.cells
  go_region_held3 (fun X => X.cell? ⟨q, 0, none⟩ = some (.pointer (some ⟨p, 0, none⟩)) ∧ X.cell? ⟨q, 1, none⟩ = some (.int .i64 f)) (first | exact ⟨c0, c1⟩ | assumption)
    (first | (go_at_call 14; with_reducible refine HC.out.mono ?_; rintro x w3 ⟨rfl, hr3⟩; have HR3 := Lib.hid hr3; obtain ⟨d0, d1, d2, d3⟩ := hr3.log.cells; have hS3 := And.intro d0 d1; have hfr : w3.frozen? ⟨q, 2, none⟩ = false := (by have hlg := hr3.log; unfold LogC at hlg; simp [World.frozen?, hlg]); clear hr3))
  go_wp2_with fail
  go_ret2
  refine ⟨rfl, ?_⟩
  have hE := HR3.out.ends ((e + 8 + n : Nat) : Int)
  rw [show ((e + 8 + n : Nat) : Int) = (e : Int) + (8 + (n : Int)) by omega] at hE ⊢
  exact hE
theorem k_sync {Ψ : Nat → Prop} {V0 w W : World} {q p : Nat} {D : Dk} {f e t : Int} (h : LK Ψ V0 w W q p D f e t) : Calls Tryz.prog 27 #[.pointer (some ⟨p, 0, none⟩)] W fun x W' => x = .returned (.int .i64 0) ∧ LK Ψ V0 w W' q p D.synced f e t := by
  obtain ⟨Φ, h1, h2, h3, h4, h5, h6, h7⟩ := h
  refine (Sync_any h1 h2.size).mono ?_
  rintro x w' ⟨e0, Φ', k1, k2⟩
  exact ⟨e0, LK.turn h7 h1 h2 h4 h5 h6 k1 k2 h3.synced⟩
theorem k_crash {Ψ : Nat → Prop} {V0 w W : World} {q p : Nat} {D : Dk} {f e t : Int} (h : LK Ψ V0 w W q p D f e t) (keep torn : Nat) (hk : keep ≤ 9223372036854775807) (ht : torn ≤ 9223372036854775807) :
    Calls Tryz.prog 28 #[.pointer (some ⟨p, 0, none⟩), .int .i64 keep, .int .i64 torn] W fun x W' => x = .returned (.int .i64 0) ∧ LK Ψ V0 w W' q p (D.crashed (min keep D.L.length) torn) f e t := by
  obtain ⟨Φ, h1, h2, h3, h4, h5, h6, h7⟩ := h
  refine (Crash_any h1 h2.size h3 keep torn hk ht).mono ?_
  rintro x w' ⟨e0, Φ', k1, k2⟩
  exact ⟨e0, LK.turn h7 h1 h2 h4 h5 h6 k1 k2 (h3.crashed _ torn)⟩
theorem k_cut {Ψ : Nat → Prop} {V0 w W : World} {q p : Nat} {D : Dk} {f e t : Int} (h : LK Ψ V0 w W q p D f e t) (hET : HasET w) (hfew : D.L.length < 900) (m : Int) :
    Calls Tryz.prog 30 #[.pointer (some ⟨p, 0, none⟩), .int .i64 f, .int .i64 m] W fun x W' => x = .returned (.int .i64 (cutE D f m)) ∧ LK Ψ V0 w W' q p (D.cutd f m) f e t := by
  have hET2 := hET.below h.bel hET.lt
  obtain ⟨Φ, h1, h2, h3, h4, h5, h6, h7⟩ := h
  refine (Cut_any h1 h2.size h3 hfew hET2 f m).mono ?_
  rintro x w' ⟨e0, Φ', k1, k2⟩
  exact ⟨e0, LK.turn h7 h1 h2 h4 h5 h6 k1 k2 (h3.cutd f m hfew)⟩
set_option maxRecDepth 100000 in
set_option maxHeartbeats 2000000 in
theorem k_open_whole {Ψ : Nat → Prop} {V0 w W : World} {q0 p : Nat} {D : Dk} {f0 e0 t0 : Int} (h0 : LK Ψ V0 w W q0 p D f0 e0 t0) (f : Nat) (hf : f < 64) (hno : wholeN (D.F f) = (D.F f).length) :
    Calls Tryz.prog 8 #[.pointer (some ⟨p, 0, none⟩), .int .i64 f] W fun x W' => ∃ q, x = .returned (.tuple #[.pointer (some ⟨q, 0, none⟩), .int .i64 0]) ∧ LK Ψ V0 w W' q p D f ((D.F f).length : Nat) 0 ∧ Below W.heap.size W W' := by
  obtain ⟨Φ, h, hbw, hi, _, _, _, hΨ⟩ := h0
  have hfl : (D.F f).length ≤ 100000000 := by
    have h1 := len_le_sum D.F f hf
    have h2 := hi.sum
    have h3 := hi.room
    omega
  have HR := Lib.hid (Read_sl h hi f hf)
  have HWh : Hid (∀ W1 oa cap, BytesOf W1 (.slice oa (D.F f).length cap) (D.F f) → Calls Tryz.prog 16 #[.slice oa (D.F f).length cap] W1 fun e w' => e = .returned (.int .i64 ((D.F f).length : Nat)) ∧ Below W1.heap.size W1 w') := Lib.hid fun W1 oa cap hb => by
    have h1 := Whole_any oa cap (D.F f) W1 hb hfl
    rw [show endW (walkW (D.F f).length (wholeO (D.F f)) 0) = (D.F f).length from hno] at h1
    exact h1
  have HE : Hid (∀ W2, Below W.heap.size W W2 → ∀ e t, LK Ψ V0 w (W2.alloc (.cells #[.pointer (some ⟨p, 0, none⟩), .int .i64 f, .int .i64 e, .int .i64 t] 55)) W2.heap.size p D f e t ∧ Below W.heap.size W (W2.alloc (.cells #[.pointer (some ⟨p, 0, none⟩), .int .i64 f, .int .i64 e, .int .i64 t] 55))) := Lib.hid fun W2 hb e t => by
    have hb2 := hb.alloc hb.size (.cells #[.pointer (some ⟨p, 0, none⟩), .int .i64 f, .int .i64 e, .int .i64 t] 55)
    refine ⟨⟨Φ, h.below hb2, hbw.trans (hb2.mono hbw.size), hi, heap_alloc_at W2 _, fun hp => ?_, Nat.le_trans hbw.size hb.size, fun k hk => ⟨(hΨ k hk).1, by have := (hΨ k hk).2.2.1; have := hb.size; omega, Nat.lt_of_lt_of_le (hΨ k hk).2.2.1 hb2.size, (hb2.block k (hΨ k hk).2.2.1).trans (hΨ k hk).2.2.2⟩⟩, hb2⟩
    obtain ⟨_, _, _, _, _, _, k⟩ := h
    have := (k.lt _ hp).2
    have := hb.size
    omega
  clear h hi hno hΨ
  generalize D.F f = lf at *
  go_enter Tryz.func8, Tryz.ntmps8
  go_wp2_with (first | (go_at_call 29; refine HR.out.mono ?_; rintro x w1 ⟨v, rfl, hb1, hw1⟩; obtain ⟨ob, cb, hvf⟩ := hb1.form; subst hvf; have HW1 := Lib.hid (HWh.out w1 ob cb hb1); have HB1 := Lib.hid hw1; clear hb1 hw1) | (go_at_call 16; with_reducible refine HW1.out.mono ?_; rintro x w2 ⟨rfl, hw2⟩; have HL := Lib.hid (HE.out w2 (HB1.out.trans (hw2.mono HB1.out.size))); clear hw2))
  go_ret2
  exact ⟨_, rfl, (HL.out _ _).1, (HL.out _ _).2⟩
set_option maxRecDepth 100000 in
set_option maxHeartbeats 2000000 in
theorem k_open_torn {Ψ : Nat → Prop} {V0 w W : World} {q0 p : Nat} {D : Dk} {f0 e0 t0 : Int} (h0 : LK Ψ V0 w W q0 p D f0 e0 t0) (hET : HasET w) (hfew : D.L.length < 900) (f : Nat) (hf : f < 64) (hlt : wholeN (D.F f) < (D.F f).length) :
    Calls Tryz.prog 8 #[.pointer (some ⟨p, 0, none⟩), .int .i64 f] W fun x W' => ∃ q, x = .returned (.tuple #[.pointer (some ⟨q, 0, none⟩), .int .i64 0]) ∧ LK Ψ V0 w W' q p (D.cutd f (wholeN (D.F f) : Nat)) f (wholeN (D.F f) : Nat) (((D.F f).length - wholeN (D.F f) : Nat) : Int) := by
  obtain ⟨Φ, h, hbw, hi, _, _, _, hΨ⟩ := h0
  have hfl : (D.F f).length ≤ 100000000 := by
    have h1 := len_le_sum D.F f hf
    have h2 := hi.sum
    have h3 := hi.room
    omega
  have HR := Lib.hid (Read_sl h hi f hf)
  have HWh : Hid (∀ W1 oa cap, BytesOf W1 (.slice oa (D.F f).length cap) (D.F f) → Calls Tryz.prog 16 #[.slice oa (D.F f).length cap] W1 fun e w' => e = .returned (.int .i64 (wholeN (D.F f) : Nat)) ∧ Below W1.heap.size W1 w') := Lib.hid fun W1 oa cap hb => Whole_any oa cap (D.F f) W1 hb hfl
  have HE : Hid (∀ W2, Below W.heap.size W W2 → ∀ e t, LK Ψ V0 w (W2.alloc (.cells #[.pointer (some ⟨p, 0, none⟩), .int .i64 f, .int .i64 e, .int .i64 t] 55)) W2.heap.size p D f e t) := Lib.hid fun W2 hb e t => by
    have hb2 := hb.alloc hb.size (.cells #[.pointer (some ⟨p, 0, none⟩), .int .i64 f, .int .i64 e, .int .i64 t] 55)
    refine ⟨Φ, h.below hb2, hbw.trans (hb2.mono hbw.size), hi, heap_alloc_at W2 _, fun hp => ?_, Nat.le_trans hbw.size hb.size, fun k hk => ⟨(hΨ k hk).1, by have := (hΨ k hk).2.2.1; have := hb.size; omega, Nat.lt_of_lt_of_le (hΨ k hk).2.2.1 hb2.size, (hb2.block k (hΨ k hk).2.2.1).trans (hΨ k hk).2.2.2⟩⟩
    obtain ⟨_, _, _, _, _, _, k⟩ := h
    have := (k.lt _ hp).2
    have := hb.size
    omega
  have HC : Hid (∀ W3 q t, LK Ψ V0 w W3 q p D f (wholeN (D.F f) : Nat) t → Calls Tryz.prog 30 #[.pointer (some ⟨p, 0, none⟩), .int .i64 f, .int .i64 (wholeN (D.F f) : Nat)] W3.drew fun x W' => (∃ n, x = .returned (.int .i64 n)) ∧ LogC W' q p f (wholeN (D.F f) : Nat) t ∧ LK Ψ V0 w W' q p (D.cutd f (wholeN (D.F f) : Nat)) f (wholeN (D.F f) : Nat) t) := Lib.hid fun W3 q t h3 => (k_cut (h3.below ((Below.refl _ W3).drew)) hET hfew _).mono (by
    rintro x w' ⟨e0, h4⟩
    exact ⟨⟨_, e0⟩, h4.log, h4⟩)
  clear h hi hET hfew hΨ
  generalize hDc : D.cutd f (wholeN (D.F f) : Nat) = D' at *
  generalize D.F f = lf at *
  generalize hwn : wholeN lf = wn at *
  have hsub : ((lf.length - wn : Nat) : Int) = (lf.length : Int) - (wn : Int) := by omega
  have hpos : (0 : Int) < (lf.length : Int) - (wn : Int) := by omega
  rw [hsub]
  clear hDc hwn hsub
  go_enter Tryz.func8, Tryz.ntmps8
  go_upto_region 7 with (first | (go_at_call 29; refine HR.out.mono ?_; rintro x w1 ⟨v, rfl, hb1, hw1⟩; obtain ⟨ob, cb, hvf⟩ := hb1.form; subst hvf; have HW1 := Lib.hid (HWh.out w1 ob cb hb1); have HB1 := Lib.hid hw1; clear hb1 hw1) | (go_at_call 16; with_reducible refine HW1.out.mono ?_; rintro x w2 ⟨rfl, hw2⟩; have HL := Lib.hid (HE.out w2 (HB1.out.trans (hw2.mono HB1.out.size)) wn ((lf.length : Int) - (wn : Int))); clear hw2))
  obtain ⟨w4, hw4⟩ : ∃ w4, w2.alloc (.cells #[.pointer (some ⟨p, 0, none⟩), .int .i64 f, .int .i64 wn, .int .i64 ((lf.length : Int) - (wn : Int))] 55) = w4 := ⟨_, rfl⟩
  rw [hw4] at HL
  try rw [hw4]
  obtain ⟨c0, c1, c2, c3⟩ := HL.out.log.cells
  have HCC := Lib.hid (HC.out w4 w2.heap.size _ HL.out)
  clear hw4
  go_region_held3 (fun X => X.cell? ⟨w2.heap.size, 0, none⟩ = some (.pointer (some ⟨p, 0, none⟩)) ∧ X.cell? ⟨w2.heap.size, 2, none⟩ = some (.int .i64 wn)) (first | exact ⟨c0, c2⟩ | assumption)
    (first | (go_at_call 30; with_reducible refine HCC.out.mono ?_; rintro x w5 ⟨⟨n5, rfl⟩, hl5, hr5⟩; have HR5 := Lib.hid hr5; obtain ⟨d0, d1, d2, d3⟩ := hl5.cells; have hS5 := And.intro d0 d2; clear hr5 hl5))
  go_wp2_with fail
  go_ret2
  exact ⟨_, rfl, HR5.out⟩
end Go.Proofs.YtbhgcioeibhjeaaGreatDoor
