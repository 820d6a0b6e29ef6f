/-
  log: a log and its disk in memory; Append.
-/
import Derived.Test.YtbhgcioeibhjeaaGreatDoorLAsk
import Derived.Test.YtbhgcioeibhjeaaGreatDoorDCrs
namespace Go.Proofs.YtbhgcioeibhjeaaGreatDoor
open Go.RowKit

/-- a log q over a file of the disk p -/
def LRun (w W : World) (q p : Nat) (D : Dk) (f e t : Int) : Prop :=
  ∃ Φ, DkAt w.heap.size W Φ p D ∧ Below w.heap.size w W ∧ D.Inv ∧ LogC W q p f e t ∧ ¬ Φ q ∧ w.heap.size ≤ q
theorem LRun.bel {w W : World} {q p : Nat} {D : Dk} {f e t : Int} (h : LRun w W q p D f e t) : Below w.heap.size w W := by
  obtain ⟨_, _, h, _⟩ := h
  exact h
theorem LRun.log {w W : World} {q p : Nat} {D : Dk} {f e t : Int} (h : LRun w W q p D f e t) : LogC W q p f e t := by
  obtain ⟨_, _, _, _, h, _⟩ := h
  exact h
theorem LRun.below {w W W' : World} {q p : Nat} {D : Dk} {f e t : Int} (h : LRun w W q p D f e t) (hb : Below W.heap.size W W') : LRun w W' q p D f e t := by
  obtain ⟨Φ, h1, h2, h3, h4, h5, h6⟩ := h
  exact ⟨Φ, h1.below hb, h2.trans (hb.mono h2.size), h3, (hb.block q (Array.getElem?_eq_some_iff.1 h4).1).trans h4, h5, h6⟩
theorem LRun.turn {w W W' : World} {Φ Φ' : Nat → Prop} {q p : Nat} {D D' : Dk} {f e t : Int} (h1 : DkAt w.heap.size W Φ p D) (h2 : Below w.heap.size w W) (h4 : LogC W q p f e t) (h5 : ¬ Φ q) (h6 : w.heap.size ≤ q)
    (h' : DkAt w.heap.size W' Φ' p D') (ht : TurnD W W' Φ Φ') (hi : D'.Inv) : LRun w W' q p D' f e t := by
  have hq := (Array.getElem?_eq_some_iff.1 h4).1
  exact ⟨Φ', h', h2.trans (ht.below (fun k hk => by obtain ⟨_, _, _, _, _, _, h⟩ := h1; exact (h.lt k hk).1) h2.size), hi, (ht.block q hq h5).trans h4, fun hp => by
    rcases ht.new q hp with h0 | h0
    · exact h5 h0
    · omega, h6⟩
/-- the end is another one -/
theorem LRun.ends {w W : World} {q p : Nat} {D : Dk} {f e t : Int} (h : LRun w W q p D f e t) (e' : Int) : LRun w (W.setCell ⟨q, 2, none⟩ (.int .i64 e')) q p D f e' t := by
  obtain ⟨Φ, ⟨mf, ms, V, U, lv, B, k1⟩, h2, h3, h4, h5, h6⟩ := h
  have hk : ∀ k, k ≠ q → (W.setCell ⟨q, 2, none⟩ (.int .i64 e')).heap[k]? = W.heap[k]? := fun k hk => Below.heap_setCell _ _ _ _ hk
  have hs : (W.setCell ⟨q, 2, none⟩ (.int .i64 e')).heap.size = W.heap.size := by simp [World.setCell]
  refine ⟨Φ, ⟨mf, ms, V, U, lv, B, k1.keep (by omega) (fun k hp => hk k (fun e => h5 (e ▸ hp)))⟩, h2.setCell (p := ⟨q, 2, none⟩) h6 _, h3, ?_, h5, h6⟩
  unfold LogC World.setCell
  unfold LogC at h4
  rw [Array.getElem?_modify, if_pos rfl, h4]
  rfl
theorem BytesOf.bt {w : World} {v : Value} {l : List UInt8} (h : BytesOf w v l) : BtAt w v l := by
  rcases h with ⟨rfl, rfl⟩ | ⟨a, cap, rfl, _, hc⟩
  · exact ⟨none, 0, rfl, fun j hj => absurd hj (Nat.not_lt_zero j)⟩
  · exact ⟨some a, cap, rfl, fun j hj => ⟨a, rfl, hc j hj⟩⟩
set_option maxRecDepth 100000 in
set_option maxHeartbeats 2000000 in
theorem l_append {w W : World} {q p : Nat} {D : Dk} {f t : Int} {e : Nat} (h : LRun w W q p D f e t) (hET : HasET w) (hfew : D.L.length < 900) (he : e ≤ 100000000) (v : Value) (l : List UInt8) (hv : BytesOf W v l) (hl : l.length ≤ 60000) (hok : appE D f (recL l).length = 0) :
    Calls Tryz.prog 21 #[.pointer (some ⟨q, 0, none⟩), v] W fun x W' => x = .returned (.tuple #[.int .i64 e, .int .i64 0]) ∧ LRun w W' q p (D.app f (recL l)) f ((e + 8 + l.length : Nat) : Int) t := by
  obtain ⟨ob, cb, hform⟩ := hv.form
  subst hform
  have HM := Lib.hid (lmayPut_ok q p f e t ob l.length cb W h.log hl)
  have HR := Lib.hid (record_any _ l W hv hl)
  have hq := isErr_eqn
  have HA : Hid (∀ w2 v', NewRow W w2 v' (recL l) → (∃ o c, v' = .slice o (8 + l.length) c) ∧ LogC w2.drew q p f e t ∧ Calls Tryz.prog 14 #[.pointer (some ⟨p, 0, none⟩), .int .i64 f, v'] w2.drew fun x w3 => x = .returned (.int .i64 0) ∧ LRun w w3 q p (D.app f (recL l)) f e t) := Lib.hid fun w2 v' hn => by
    have hb : Below W.heap.size W w2.drew := hn.2.drew
    have hB := hn.of (by rw [recL_length]; omega)
    obtain ⟨o, c, hvf⟩ := hB.form
    have h2 := h.below hb
    have hET2 : HasET w2.drew := hET.below h2.bel hET.lt
    refine ⟨⟨o, c, by rw [hvf, recL_length]⟩, h2.log, ?_⟩
    obtain ⟨Φ, k1, k2, k3, k4, k5, k6⟩ := h2
    have hB2 : BytesOf w2.drew v' (recL l) := hB.keep ((Below.refl _ w2).drew) (Nat.le_refl _)
    refine (Append_any k1 k2.size k3 hfew hET2 f v' (recL l) hB2.bt).mono ?_
    rintro x w3 ⟨x0, Φ', j1, j2⟩
    rw [hok] at x0
    exact ⟨x0, LRun.turn k1 k2 k4 k5 k6 j1 j2 (k3.app f (recL l) hfew)⟩
  clear h hET hfew hv hok
  have hwr : IntKind.i64.wrap ((e : Int) + ((8 + l.length : Nat) : Int)) = ((e + 8 + l.length : Nat) : Int) := by rw [IntKind.wrap_i64]; omega
  generalize D.app f (recL l) = D' at *
  generalize recL l = rl at *
  generalize l.length = n at *
  go_enter Tryz.func21, Tryz.ntmps21
  go_upto_region 5 with (first | (go_at_call 49; with_reducible refine HM.out.mono ?_; rintro x w1 ⟨rfl, rfl⟩) | (go_at_call 50; with_reducible refine HR.out.mono ?_; rintro x w2 ⟨v', rfl, hr⟩; obtain ⟨hvv, hlc, hca⟩ := HA.out w2 v' hr; obtain ⟨o, c, hvf⟩ := hvv; subst hvf; have HC := Lib.hid hca; clear hca hr))
  obtain ⟨c0, c1, c2, c3⟩ := hlc.cells
  go_region_held3 (fun X => X.cell? ⟨q, 0, none⟩ = some (.pointer (some ⟨p, 0, none⟩)) ∧ X.cell? ⟨q, 1, none⟩ = some (.int .i64 f)) (first | exact ⟨c0, c1⟩ | assumption)
    (first | (go_at_call 14; with_reducible refine HC.out.mono ?_; rintro x w3 ⟨rfl, hr3⟩; have HR3 := Lib.hid hr3; obtain ⟨d0, d1, d2, d3⟩ := hr3.log.cells; have hS3 := And.intro d0 d1; have hfr : w3.frozen? ⟨q, 2, none⟩ = false := (by have hlg := hr3.log; unfold LogC at hlg; simp [World.frozen?, hlg]); clear hr3))
  go_wp2_with fail
  go_ret2
  refine ⟨rfl, ?_⟩
  have hE := HR3.out.ends ((e + 8 + n : Nat) : Int)
  rw [show ((e + 8 + n : Nat) : Int) = (e : Int) + (8 + (n : Int)) by omega] at hE ⊢
  exact hE
end Go.Proofs.YtbhgcioeibhjeaaGreatDoor
