/-
  parts that belong together.
-/
import Derived.Test.YtbhgcioeibhjeaaGreatDoorLRZE
import Derived.Test.YtbhgcioeibhjeaaGreatDoorLRZA
import Derived.Test.YtbhgcioeibhjeaaGreatDoorLRZB
import Derived.Test.YtbhgcioeibhjeaaGreatDoorLHOp
import Derived.Test.YtbhgcioeibhjeaaGreatDoorLRIs
import Derived.Test.YtbhgcioeibhjeaaGreatDoorLRZo
namespace Go.Proofs.YtbhgcioeibhjeaaGreatDoor
open Go.RowKit

theorem k_open_any {Ψ : Nat → Prop} {V0 w W : World} {q0 p : Nat} {D : Dk} {f0 e0 t0 : Int} (h : LK Ψ V0 w W q0 p D f0 e0 t0) (hET : HasET w) (hfew : D.L.length < 900) (f : Nat) (hf : f < 64) :
    Calls Tryz.prog 8 #[.pointer (some ⟨p, 0, none⟩), .int .i64 f] W fun x W' => ∃ q, x = .returned (.tuple #[.pointer (some ⟨q, 0, none⟩), .int .i64 0]) ∧ LK Ψ V0 w W' q p (opD D f) f (((opD D f).F f).length : Nat) ((D.F f).length - wholeN (D.F f) : Nat) := by
  have hle := wholeN_le (D.F f)
  by_cases hlt : wholeN (D.F f) < (D.F f).length
  · refine (k_open_torn h hET hfew f hf hlt).mono ?_
    rintro x W' ⟨q, e0, h1⟩
    refine ⟨q, e0, ?_⟩
    rw [opD_len D f hf]
    unfold opD
    rw [if_pos hlt]
    exact h1
  · refine (k_open_whole h f hf (by omega)).mono ?_
    rintro x W' ⟨q, e0, h1, _⟩
    refine ⟨q, e0, ?_⟩
    rw [opD_len D f hf, show (D.F f).length - wholeN (D.F f) = 0 by omega, show wholeN (D.F f) = (D.F f).length by omega]
    unfold opD
    rw [if_neg hlt]
    exact h1
theorem open_refR {w : World} {c : Array Value} {D : Dk} {v : Value} (hR : RDk w c D v) (hi : D.Inv) (hfew : D.L.length < 900) (f : Nat) (hf : f < 64) : Calls Tryz.prog 10 #[.agg c, .int .i64 f] w fun e w' => ∃ cl, e = .returned (.agg cl) ∧ RLg w' cl (opD D f) f ((D.F f).length - wholeN (D.F f) : Nat) ∧ (∀ g, rowAt cl g → rowAt c g ∨ w.heap.size ≤ g) ∧ Below w.heap.size w w' := by
  have hle := wholeN_le (D.F f)
  by_cases hlt : wholeN (D.F f) < (D.F f).length
  · refine (rOpen_tornN hR hi f hf hfew hlt).mono ?_
    rintro x W' ⟨q, e0, h1, hn, h2⟩
    refine ⟨q, e0, ?_, fun g hg => .inr (hn g hg), h2⟩
    unfold opD
    rw [if_pos hlt]
    exact h1
  · refine (rOpen_wholeE hR hi f hf (by omega)).mono ?_
    rintro x W' ⟨q, e0, h1, hn, h2⟩
    refine ⟨q, e0, ?_, fun g hg => .inl ?_, h2⟩
    · rw [show (D.F f).length - wholeN (D.F f) = 0 by omega]
      unfold opD
      rw [if_neg hlt]
      exact h1
    · rw [← hn]
      exact (rowAt_ext h1.size).2 hg
/-- what a crash makes of a disk, and what it tells -/
def crD (D : Dk) (kp tn : Int) : Dk := if kp < 0 ∨ tn < 0 then D else D.crashed (min kp.toNat D.L.length) tn.toNat
def crE (kp tn : Int) : Int := if kp < 0 ∨ tn < 0 then 2 else 0
theorem crD_few (D : Dk) (kp tn : Int) : (crD D kp tn).L.length ≤ D.L.length := by
  unfold crD
  split
  · exact Nat.le_refl _
  · exact Nat.zero_le _
theorem crD_inv {D : Dk} (h : D.Inv) (kp tn : Int) : (crD D kp tn).Inv := by
  unfold crD
  split
  · exact h
  · exact h.crashed _ _
theorem opD_few (D : Dk) (f : Nat) : (opD D f).L.length ≤ D.L.length + 1 := by
  unfold opD Dk.cutd
  split
  · split
    · simp [Dk.did]
    · omega
  · omega
theorem crash_prog {Ψ : Nat → Prop} {V0 w W : World} {q p : Nat} {D : Dk} {f e t : Int} (h : LK Ψ V0 w W q p D f e t) (hET : HasET w) (kp tn : Int) (hk : kp ≤ 9223372036854775807) (ht : tn ≤ 9223372036854775807) :
    Calls Tryz.prog 28 #[.pointer (some ⟨p, 0, none⟩), .int .i64 kp, .int .i64 tn] W fun x W' => x = .returned (.int .i64 (crE kp tn)) ∧ LK Ψ V0 w W' q p (crD D kp tn) f e t := by
  unfold crE crD
  by_cases hn : kp < 0 ∨ tn < 0
  · rw [if_pos hn, if_pos hn]
    have hET2 := hET.below h.bel hET.lt
    have h0 := h
    obtain ⟨Φ, h1, _⟩ := h
    refine (Crash_arg h1 hET2 kp tn hn).mono ?_
    rintro x W' ⟨rfl, hb⟩
    exact ⟨rfl, h0.below hb⟩
  · rw [if_neg hn, if_neg hn]
    obtain ⟨k, rfl⟩ : ∃ k : Nat, kp = k := ⟨kp.toNat, by omega⟩
    obtain ⟨m, rfl⟩ : ∃ m : Nat, tn = m := ⟨tn.toNat, by omega⟩
    exact k_crash h k m (by omega) (by omega)
theorem crash_ref {w : World} {cl : Array Value} {D : Dk} {f : Nat} {t : Int} (h : RLg w cl D f t) (hi : D.Inv) (kp tn : Int) (hk : kp ≤ 9223372036854775807) (ht : tn ≤ 9223372036854775807) :
    Calls Tryz.prog 35 #[.agg (cl.extract 0 66), .int .i64 kp, .int .i64 tn] w fun e w' => ∃ c', e = .returned (.tuple #[.agg c', .int .i64 (crE kp tn)]) ∧ RDs w' c' (crD D kp tn) ∧ (∀ g, rowAt c' g → rowAt cl g) ∧ Below w.heap.size w w' := by
  unfold crE crD
  by_cases hn : kp < 0 ∨ tn < 0
  · rw [if_pos hn, if_pos hn]
    obtain ⟨v, hv⟩ := h.disk
    refine (rrCrash_arg hv kp tn hn).mono ?_
    rintro x W' ⟨rfl, hb⟩
    exact ⟨_, rfl, ⟨v, hv.keep hb⟩, fun g hg => (rowAt_ext h.size).1 hg, hb⟩
  · rw [if_neg hn, if_neg hn]
    obtain ⟨k, rfl⟩ : ∃ k : Nat, kp = k := ⟨kp.toNat, by omega⟩
    obtain ⟨m, rfl⟩ : ∃ m : Nat, tn = m := ⟨tn.toNat, by omega⟩
    refine (rrCrash_any h.disk hi k m (by omega) (by omega)).mono ?_
    rintro x W' ⟨c', rfl, h1, h2⟩
    refine ⟨c', rfl, ⟨_, h1⟩, fun g hg => ?_, h2⟩
    obtain ⟨u, hu, hg⟩ := hg
    rw [h1.things] at hu
    cases hu
    cases hg
theorem RDs.framed {W W' : World} {c : Array Value} {D : Dk} (h : RDs W c D) (hk : ∀ g, rowAt c g → W'.heap[g]? = W.heap[g]?) : RDs W' c D := by
  obtain ⟨v, hd⟩ := h
  exact ⟨v, hd.size, hd.one, hd.room, hd.file, hd.things, ownsRow_same hd.row (fun g hg => hk g ⟨v, hd.things, hg⟩)⟩
/-- from the document's Crash on -/
theorem crash_boxes {Ξ : Nat → Prop} {w W0 w3 : World} {q p : Nat} {cl : Array Value} {D : Dk} {f : Nat} {t : Int} (h : LS Ξ w W0 q p cl D f t) (hET : HasET w) (hf : f < 64) (hfew : D.L.length < 900) {wh kp tn : Int} {bs : Value} (hk : kp ≤ 9223372036854775807) (ht : tn ≤ 9223372036854775807) (hT : LB W0 w3 cl wh kp tn bs) :
    ∀ w4 c', Below w3.heap.size w3 w4 → RDs w4 c' (crD D kp tn) → (∀ g, rowAt c' g → rowAt cl g) → (w4.alloc (.cells Tryz.zeroCells36 36)).there w4.heap.size 0 c'.size ∧ (Tryz.prog.info? 36).map (·.size) = some c'.toList.length ∧ (Tryz.prog.info? 36).map (·.size) = some c'.size ∧ c'.all (·.oneCell') = true ∧ ∃ w5, (w4.alloc (.cells Tryz.zeroCells36 36)).setCells w4.heap.size 0 c'.toList = w5 ∧ (w5.cell? ⟨W0.heap.size + 1, 1, none⟩ = some (.int .i64 kp) ∧ w5.cell? ⟨W0.heap.size + 1, 2, none⟩ = some (.int .i64 tn)) ∧ Hid (Calls Tryz.prog 28 #[.pointer (some ⟨p, 0, none⟩), .int .i64 kp, .int .i64 tn] w5 fun x w6 => x = .returned (.int .i64 (crE kp tn)) ∧ w6.cell? ⟨W0.heap.size, 66, none⟩ = some (.int .i64 f) ∧ Hid (Calls Tryz.prog 8 #[.pointer (some ⟨p, 0, none⟩), .int .i64 f] w6 fun x w7 => ∃ q', x = .returned (.tuple #[.pointer (some ⟨q', 0, none⟩), .int .i64 0]) ∧ w7.rangeAt w4.heap.size 0 c'.toList ∧ w7.cell? ⟨W0.heap.size, 66, none⟩ = some (.int .i64 f) ∧ Hid (Calls Tryz.prog 10 #[.agg c', .int .i64 f] w7 fun x w8 => ∃ cl', x = .returned (.agg cl') ∧ w8.there (W0.heap.size + 2) 0 cl'.size ∧ (Tryz.prog.info? 38).map (·.size) = some cl'.size ∧ cl'.all (·.oneCell') = true ∧ Hid ((loadVar 38 ⟨W0.heap.size + 2, 0, none⟩).run Tryz.prog (w8.setCells (W0.heap.size + 2) 0 cl'.toList) = .ok (.agg cl') (w8.setCells (W0.heap.size + 2) 0 cl'.toList) ∧ (∃ t', LS Ξ w (w8.setCells (W0.heap.size + 2) 0 cl'.toList) q' p cl' (opD (crD D kp tn) f) f t') ∧ ∀ k, Ξ k → (w8.setCells (W0.heap.size + 2) 0 cl'.toList).heap[k]? = W0.heap[k]?)))) := by
  intro w4 c' hb4 hd4 hn4
  have hwW := h.run.bel.size
  have hs4 := hb4.size
  have hs3 := hT.b2.lt
  have hT4 := hT.keep hb4
  have hfew2 : (crD D kp tn).L.length < 900 := by have := crD_few D kp tn; omega
  have hi2 := crD_inv h.run.inv kp tn
  obtain ⟨D2, hD2⟩ : ∃ D2, crD D kp tn = D2 := ⟨_, rfl⟩
  have HCr := fun (Ψ : Nat → Prop) (V0 W : World) (e t : Int) (h : LK Ψ V0 w W q p D f e t) => crash_prog h hET kp tn hk ht
  rw [hD2] at hd4 hfew2 hi2 ⊢
  simp only [hD2] at HCr
  obtain ⟨v4, k4⟩ := id hd4
  have hba : Below w4.heap.size w4 (w4.alloc (.cells Tryz.zeroCells36 36)) := (Below.refl _ w4).alloc (Nat.le_refl _) _
  have hdb : DBox (w4.alloc (.cells Tryz.zeroCells36 36)) w4.heap.size Tryz.zeroCells36 := heap_alloc_at w4 _
  have hst := hdb.store (d := c') (k4.size.trans zeroCr_size.symm)
  have hd5 : RDs ((w4.alloc (.cells Tryz.zeroCells36 36)).setCells w4.heap.size 0 c'.toList) c' D2 := (hd4.keep hba).store (.inl hdb)
  have hb5 : Below w4.heap.size w4 ((w4.alloc (.cells Tryz.zeroCells36 36)).setCells w4.heap.size 0 c'.toList) := below_setCellsr (Nat.le_refl _) _ _ hba
  refine ⟨hdb.there (by rw [k4.size, zeroCr_size]; exact Nat.le_refl _), by rw [Array.length_toList, k4.size]; exact info66r, by rw [k4.size]; exact info66r, k4.one, _, rfl, ?_⟩
  generalize (w4.alloc (.cells Tryz.zeroCells36 36)).setCells w4.heap.size 0 c'.toList = w5 at *
  have hT5 := hT4.keep hb5
  refine ⟨⟨hT5.a1, hT5.a2⟩, Lib.hid ?_⟩
  have hlt5 := hst.lt
  have hlt2 := hT5.b2.lt
  have hs5 := hb5.size
  have hK : LK (fun k => (rowAt cl k ∨ Ξ k) ∨ W0.heap.size ≤ k ∧ k < w5.heap.size) w5 w w5 q p D f ((D.F f).length : Nat) t := h.run.grow hT5.below (fun k hk => hk.elim (fun h0 => ⟨Nat.lt_of_lt_of_le (h.lt h0) hT5.below.size, .inl h0⟩) (fun h0 => ⟨h0.2, .inr h0.1⟩))
  refine (HCr _ _ _ _ _ hK).mono ?_
  rintro x w6 ⟨rfl, hK6⟩
  have hf6 := hK6.frame
  refine ⟨rfl, LBox.cell ((hf6 _ (.inr ⟨Nat.le_refl _, by omega⟩)).2.trans hT5.b0) h.ref.file, Lib.hid ?_⟩
  refine (k_open_any hK6 hET hfew2 f hf).mono ?_
  rintro x w7 ⟨q', rfl, hK7⟩
  have hf7 := hK7.frame
  have hst7 : DBox w7 w4.heap.size c' := (hf7 _ (.inr ⟨by omega, by omega⟩)).2.trans hst
  refine ⟨q', rfl, hst7.range, LBox.cell ((hf7 _ (.inr ⟨Nat.le_refl _, by omega⟩)).2.trans hT5.b0) h.ref.file, Lib.hid ?_⟩
  have hd7 : RDs w7 c' D2 := hd5.framed (fun g hg => (hf7 g (.inl (.inl (hn4 g hg)))).2)
  have hZ7 : LBox w7 (W0.heap.size + 2) Tryz.zeroCells38 := (hf7 _ (.inr ⟨by omega, by omega⟩)).2.trans hT5.b2
  obtain ⟨v7, k7⟩ := hd7
  refine (open_refR k7 hi2 hfew2 f hf).mono ?_
  rintro x w8 ⟨cl', rfl, hr8, hn8, hb8⟩
  have hZ8 := hZ7.keep hb8
  have ht8 := hZ8.told zeroL_size hr8.size
  refine ⟨cl', rfl, ht8.1, by rw [hr8.size]; exact info68, hr8.one, Lib.hid ⟨ht8.2, ⟨(((D2.F f).length - wholeN (D2.F f) : Nat) : Int), ?_⟩, fun k hk => (heap_setCellsr _ _ _ _ _ (by have := h.lt (.inr hk); omega)).trans ((hb8.block k (hf7 k (.inl (.inr hk))).1).trans ((hf7 k (.inl (.inr hk))).2.trans (hT5.below.block k (h.lt (.inr hk)))))⟩⟩
  have hs7 := (hf7 (W0.heap.size + 2) (.inr ⟨by omega, by omega⟩)).1
  have hK8 : LK (fun k => (rowAt cl' k ∨ Ξ k) ∨ k = W0.heap.size + 2) w8 w w8 q' p (opD D2 f) f (((opD D2 f).F f).length : Nat) (((D2.F f).length - wholeN (D2.F f) : Nat) : Int) := hK7.grow hb8 (fun k hk => by
    have hs8 := hb8.size
    rcases hk with (h0 | h0) | h0
    · refine ⟨hr8.rows k h0, ?_⟩
      rcases hn8 k h0 with h1 | h1
      · exact .inl (.inl (.inl (hn4 k h1)))
      · exact .inr h1
    · exact ⟨by have := (hf7 k (.inl (.inr h0))).1; omega, .inl (.inl (.inr h0))⟩
    · subst h0
      exact ⟨by omega, .inl (.inr ⟨by omega, by omega⟩)⟩)
  exact LS.of hK8 hr8 ⟨_, opD_F D2 f hf, recsL_small _⟩ (fun g hg => .inl hg) (b := W0.heap.size + 2) (.inr rfl) (by omega) hZ8 cl'
end Go.Proofs.YtbhgcioeibhjeaaGreatDoor
namespace Go.Proofs.YtbhgcioeibhjeaaGreatDoor
open Go.RowKit

set_option maxRecDepth 1000000 in
set_option maxHeartbeats 8000000 in
theorem act_crash {Ξ : Nat → Prop} {w W0 : World} {q p : Nat} {cl : Array Value} {D : Dk} {f : Nat} {t : Int} (h : LS Ξ w W0 q p cl D f t) (hET : HasET w) (hf : f < 64) (hfew : D.L.length < 900) (kp tn : Int) (hk : kp ≤ 9223372036854775807) (ht : tn ≤ 9223372036854775807) (bs : Value) :
    Calls Tryz.prog 12 #[.pointer (some ⟨q, 0, none⟩), .pointer (some ⟨p, 0, none⟩), .agg cl, .agg #[.int .i64 5, .int .i64 kp, .int .i64 tn, bs]] W0 (ActPost Ξ w W0 p D f) := by
  obtain ⟨w3, hw3⟩ : ∃ w3, ((W0.alloc (.cells cl 38)).alloc (.cells #[.int .i64 5, .int .i64 kp, .int .i64 tn, bs] 45)).alloc (.cells Tryz.zeroCells38 38) = w3 := ⟨_, rfl⟩
  have hT : LB W0 w3 cl 5 kp tn bs := by rw [← hw3]; exact LB.start W0 cl 5 kp tn bs
  have hx0 := hT.a0
  have hx1 := hT.a1
  have hx2 := hT.a2
  have hr := hT.b0.disk
  have hu := Tryz.underlying38
  have huD := Tryz.underlying36
  have hinfD : (Tryz.prog.info? 36).map (·.size) = some (cl.extract 0 66).toList.length := by rw [disk_size h.ref.size]; exact info66r
  have HC := Lib.hid (crash_ref (h.keep hT.below).ref h.run.inv kp tn hk ht)
  have HP := Lib.hid (crash_boxes h hET hf hfew hk ht hT)
  have hlen : (opD (crD D kp tn) f).L.length ≤ D.L.length + 1 := Nat.le_trans (opD_few _ _) (by have := crD_few D kp tn; omega)
  clear h hET hfew hk ht
  generalize cl.extract 0 66 = cx at *
  generalize crE kp tn = en at *
  generalize opD (crD D kp tn) f = D3 at *
  generalize crD D kp tn = D2 at *
  go_enter Tryz.func12, Tryz.ntmps12
  go_upto_region 14 with (first | (refine wpList_load_mid rfl 36 _ rfl _ _ rfl _ _ hr huD rfl hinfD ?_; simp only [Act.put, Array.toArray_toList, List.setIfInBounds_toArray, List.set_cons_zero, List.set_cons_succ]) | (go_at_call 35; refine HC.out.mono ?_; rintro e w4 ⟨c', rfl, hd4, hn4, hb4⟩; obtain ⟨ht4, hinf4, hinf4s, hone4, w5, hw5, hx5, H5⟩ := HP.out w4 c' hb4 hd4 hn4; clear hd4 hn4 hb4) | (refine wpList_store_mid rfl 36 _ _ rfl _ _ c' rfl rfl ht4 hinf4s hone4 ?_; simp only [Act.put]))
  try rw [hw5]
  clear hw5 hr hinfD HC HP
  obtain ⟨y1, y2⟩ := hx5
  go_wp2_with (first | (go_at_call 28; refine H5.out.mono ?_; rintro e w6 ⟨rfl, y6, H6⟩) | (go_at_call 8; refine H6.out.mono ?_; rintro e w7 ⟨q', rfl, hr7, y7, H7⟩) | (refine wpList_load_mid rfl 36 _ rfl _ _ rfl _ _ hr7 huD rfl hinf4 ?_; simp only [Act.put, Array.toArray_toList, List.setIfInBounds_toArray, List.set_cons_zero, List.set_cons_succ]) | (go_at_call 10; refine H7.out.mono ?_; rintro e w8 ⟨cl', rfl, ht8, hinf8, hone8, H8⟩) | (go_at_call 9; refine (lnum10_any _ _).mono ?_; rintro e wx ⟨rfl, rfl⟩) | (refine wpList_store_mid rfl 38 _ _ rfl _ _ cl' rfl rfl ht8 hinf8 hone8 ?_; simp only [Act.put]))
  have hE1 := H8.out.1
  obtain ⟨⟨t', hE2⟩, hE3⟩ := H8.out.2
  refine bodyPost_ret (v := .tuple #[.pointer (some ⟨q', 0, none⟩), .agg cl', .bool true]) (by simp [results, Tryz.results12, asAddr, hE1]) rfl ⟨q', cl', D3, t', rfl, hE2, hlen, hE3⟩
end Go.Proofs.YtbhgcioeibhjeaaGreatDoor
namespace Go.Proofs.YtbhgcioeibhjeaaGreatDoor
open Go.RowKit

theorem act_any10 {Ξ : Nat → Prop} {w W0 : World} {q p : Nat} {cl : Array Value} {D : Dk} {f : Nat} {t : Int} (h : LS Ξ w W0 q p cl D f t) (hET : HasET w) (hf : f < 64) (hfew : D.L.length < 900) (wh kp tn : Int) (hk : kp ≤ 9223372036854775807) (ht : tn ≤ 9223372036854775807) (bs : Value) (l : List UInt8) (hbt : BytesOf W0 bs l) (hl : l.length ≤ 60) :
    Calls Tryz.prog 12 #[.pointer (some ⟨q, 0, none⟩), .pointer (some ⟨p, 0, none⟩), .agg cl, .agg #[.int .i64 wh, .int .i64 kp, .int .i64 tn, bs]] W0 (ActPost Ξ w W0 p D f) := by
  by_cases h0 : wh < 0 ∨ 5 < wh
  · exact act_read h hET hf wh kp tn bs h0
  · have hw : wh = 0 ∨ wh = 1 ∨ wh = 2 ∨ wh = 3 ∨ wh = 4 ∨ wh = 5 := by omega
    by_cases hr : D.left < ((recL l).length : Nat)
    · rcases hw with rfl | rfl | rfl | rfl | rfl | rfl
      · exact act_app_full0 h hET hf hfew kp tn bs l hbt hl hr
      · exact act_app_full1 h hET hf hfew kp tn bs l hbt hl hr
      · exact act_app_full2 h hET hf hfew kp tn bs l hbt hl hr
      · exact act_app_full3 h hET hf hfew kp tn bs l hbt hl hr
      · exact act_sync h kp tn bs
      · exact act_crash h hET hf hfew kp tn hk ht bs
    · rcases hw with rfl | rfl | rfl | rfl | rfl | rfl
      · exact act_app_ok0 h hET hf hfew kp tn bs l hbt hl hr
      · exact act_app_ok1 h hET hf hfew kp tn bs l hbt hl hr
      · exact act_app_ok2 h hET hf hfew kp tn bs l hbt hl hr
      · exact act_app_ok3 h hET hf hfew kp tn bs l hbt hl hr
      · exact act_sync h kp tn bs
      · exact act_crash h hET hf hfew kp tn hk ht bs
end Go.Proofs.YtbhgcioeibhjeaaGreatDoor
namespace Go.Proofs.YtbhgcioeibhjeaaGreatDoor
open Go.RowKit

/-- a call of the law's -/
structure ActL where
  wh : Int
  kp : Int
  tn : Int
  bs : Value
  l : List UInt8
def ActsL (w : World) (oa : Option Addr) (l : List ActL) : Prop := ∀ (j : Nat) (h : j < l.length), ∃ a, oa = some a ∧ w.cell? (a.add (j * 4)) = some (.int .i64 l[j].wh) ∧ w.cell? ⟨(a.add (j * 4)).block, (a.add (j * 4)).off + 1, none⟩ = some (.int .i64 l[j].kp) ∧ w.cell? ⟨(a.add (j * 4)).block, (a.add (j * 4)).off + 2, none⟩ = some (.int .i64 l[j].tn) ∧ w.cell? ⟨(a.add (j * 4)).block, (a.add (j * 4)).off + 3, none⟩ = some l[j].bs ∧ BytesOf w l[j].bs l[j].l ∧ l[j].kp ≤ 9223372036854775807 ∧ l[j].tn ≤ 9223372036854775807
theorem ActsL.keep {w w' : World} {oa : Option Addr} {l : List ActL} (h : ActsL w oa l) (hb : Below w.heap.size w w') : ActsL w' oa l := fun j hj => by
  obtain ⟨a, e, h0, h1, h2, h3, h4, h5⟩ := h j hj
  have k : ∀ {p : Addr} {v : Value}, w.cell? p = some v → w'.cell? p = some v := fun hc => (hb.cell (World.block_lt_of_cell? w _ hc)).trans hc
  exact ⟨a, e, k h0, k h1, k h2, k h3, h4.keep hb (Nat.le_refl _), h5⟩
def fewL (l : List ActL) (many : Int) : Bool := ((l.take (many + 1).toNat).all fun v => decide (v.l.length ≤ 60)) && decide ((l.length : Int) ≤ many)
theorem fewL_yes {l : List ActL} {k : Nat} {v : ActL} (h : k < l.length) (hv : l[k] = v) (hs : v.l.length ≤ 60) (hall : ((l.take k).all fun v => decide (v.l.length ≤ 60)) = true) : ((l.take (k + 1)).all fun v => decide (v.l.length ≤ 60)) = true := by
  rw [List.take_succ_eq_append_getElem h, List.all_append, hall, hv]
  simpa using hs
theorem fewL_no {l : List ActL} {many : Int} {k : Nat} {v : ActL} (hm : (k : Int) ≤ many) (h : k < l.length) (hv : l[k] = v) (hs : ¬ v.l.length ≤ 60) : fewL l many = false := by
  unfold fewL
  rw [Bool.and_eq_false_iff]
  refine .inl ?_
  rw [List.all_eq_false]
  refine ⟨v, ?_, by simpa using hs⟩
  rw [← hv]
  exact List.mem_take_iff_getElem.2 ⟨k, by omega, rfl⟩
theorem fewL_long {l : List ActL} {many : Int} {k : Nat} (h : k < l.length) (hm : ¬ (k : Int) ≤ many) : fewL l many = false := by
  unfold fewL
  rw [Bool.and_eq_false_iff]
  exact .inr (by simp; omega)
theorem fewL_all {l : List ActL} {many : Int} {k : Nat} (hall : ((l.take k).all fun v => decide (v.l.length ≤ 60)) = true) (hk : k = l.length) (hm : (k : Int) ≤ many + 1) : fewL l many = decide ((l.length : Int) ≤ many) := by
  unfold fewL
  subst hk
  rw [List.take_of_length_le (Nat.le_refl _)] at hall
  rw [List.take_of_length_le (by omega), hall]
  rfl

set_option maxHeartbeats 2000000 in
theorem few_actsL (oa : Option Addr) (cap : Nat) (l : List ActL) (many : Int) (w : World) (hv : ActsL w oa l) (hm : 0 ≤ many) (hm' : many ≤ 1000) (hl : l.length ≤ 9223372036854775807) :
    Calls Tryz.prog 5 #[.slice oa l.length cap, .int .i64 many] w fun e w' => e = .returned (.bool (fewL l many)) ∧ w = w' := by
  go_enter Tryz.func5, Tryz.ntmps5
  go_wp2
  go_loop [5] (fun i => ∃ (k : Nat), (k : Int) ≤ many + 1 ∧ k ≤ l.length ∧ i = .int .i64 k ∧ ((l.take k).all fun v => decide (v.l.length ≤ 60)) = true) (fun i => l.length - (intOf i).toNat)
  case atStart => exact ⟨0, by omega, by omega, rfl, rfl⟩
  case round =>
    obtain ⟨k, hk, hk', rfl, hall⟩ := hrel
    by_cases hlt : k < l.length
    · by_cases hlm : (k : Int) ≤ many
      · obtain ⟨a, rfl, _, _, _, h4, hbo, _, _⟩ := hv k hlt
        obtain ⟨ob, cb, hbs⟩ := hbo.form
        clear hbo
        rw [hbs] at h4
        clear hbs
        obtain ⟨v, hvk⟩ : ∃ v, l[k] = v := ⟨_, rfl⟩
        rw [hvk] at h4
        by_cases hs : v.l.length ≤ 60
        · have HK := Lib.hid (fewL_yes hlt hvk hs hall)
          clear hall hvk
          go_wp2
          go_round
          case rel => exact ⟨k + 1, by omega, by omega, by go_num, HK.out⟩
          case measure => simp [intOf]; omega
        · have HK := Lib.hid (fewL_no hlm hlt hvk hs)
          clear hall hvk
          go_wp2
          go_ret
          exact ⟨by rw [HK.out]; rfl, rfl⟩
      · have HK := Lib.hid (fewL_long hlt hlm)
        clear hall
        go_wp2
        go_ret
        exact ⟨by rw [HK.out]; simp; omega, rfl⟩
    · have HK := Lib.hid (fewL_all (k := k) hall (by omega) hk)
      clear hall
      go_wp2
      go_ret
      exact ⟨by rw [HK.out]; rfl, rfl⟩
theorem fewL_spec {l : List ActL} {many : Int} (h : fewL l many = true) : (l.length : Int) ≤ many ∧ ∀ v ∈ l, v.l.length ≤ 60 := by
  unfold fewL at h
  rw [Bool.and_eq_true, decide_eq_true_eq, List.all_eq_true] at h
  refine ⟨h.2, fun v hv => ?_⟩
  have h2 := h.1 v (by rw [List.take_of_length_le (by omega)]; exact hv)
  simpa using h2
end Go.Proofs.YtbhgcioeibhjeaaGreatDoor
namespace Go.Proofs.YtbhgcioeibhjeaaGreatDoor
open Go.Joins Go.ChangeShapes Go.WideShapes Go.ChangeAt Go.RowKit Go.Deep

section
variable {H : Type} {enc : TypeId × Value → H}

theorem cActL : Tryz.prog.cellsOf 45 = 4 := by kernel_rfl
theorem add_oneL (a : Addr) (n f : Nat) (hf : f ≠ 0) : (a.add n).add f = ⟨(a.add n).block, (a.add n).off + f, none⟩ := by
  generalize a.add n = c
  unfold Addr.add
  rw [if_neg hf]
set_option maxRecDepth 100000 in
theorem cells_actL {W : World} {sp : Nat → Bool} {base : Nat} {held : Bool} {a : Addr} {i : Nat} {cs : List Value} {n : Nat} {x : DataW H × List MemPlace}
    (hc : W.cells? base (a.add (i * Tryz.prog.cellsOf 45)) (Tryz.prog.cellsOf 45) = some cs) (h : DataW.trod enc Tryz.prog W base sp held n 45 cs = some x) :
    ∃ y : ActL, W.cell? (a.add (i * 4)) = some (.int .i64 y.wh) ∧ W.cell? ⟨(a.add (i * 4)).block, (a.add (i * 4)).off + 1, none⟩ = some (.int .i64 y.kp) ∧ W.cell? ⟨(a.add (i * 4)).block, (a.add (i * 4)).off + 2, none⟩ = some (.int .i64 y.tn) ∧ W.cell? ⟨(a.add (i * 4)).block, (a.add (i * 4)).off + 3, none⟩ = some y.bs ∧ BytesOf W y.bs y.l ∧ y.kp ≤ 9223372036854775807 ∧ y.tn ≤ 9223372036854775807 := by
  rw [cActL] at hc
  obtain ⟨_, hl, hat⟩ := World.cells?_some hc
  obtain ⟨xs, m, _, _, _, hlen, hx⟩ := DataW.trod_struct Tryz.underlying45 h
  obtain ⟨c0, c1, c2, c3, rfl⟩ : ∃ c0 c1 c2 c3, cs = [c0, c1, c2, c3] := by
    match cs, hl with
    | [c0, c1, c2, c3], _ => exact ⟨c0, c1, c2, c3, rfl⟩
  match xs, hlen, hx with
  | [y0, y1, y2, y3], _, hx =>
    have h0 : DataW.trod enc Tryz.prog W base sp held m 3 (([c0, c1, c2, c3].drop 0).take (Tryz.prog.cellsOf 3)) = some y0 := hx 0 _ rfl
    have h1 : DataW.trod enc Tryz.prog W base sp held m 3 (([c0, c1, c2, c3].drop 1).take (Tryz.prog.cellsOf 3)) = some y1 := hx 1 _ rfl
    have h2 : DataW.trod enc Tryz.prog W base sp held m 3 (([c0, c1, c2, c3].drop 2).take (Tryz.prog.cellsOf 3)) = some y2 := hx 2 _ rfl
    have h3 : DataW.trod enc Tryz.prog W base sp held m 43 (([c0, c1, c2, c3].drop 3).take (Tryz.prog.cellsOf 43)) = some y3 := hx 3 _ rfl
    rw [show Tryz.prog.cellsOf 3 = 1 by kernel_rfl] at h0 h1 h2
    rw [show Tryz.prog.cellsOf 43 = 1 by kernel_rfl] at h3
    obtain ⟨k0, e0, _, _⟩ := DataW.trod_int Tryz.underlying3 h0
    obtain ⟨k1, e1, _, w1⟩ := DataW.trod_int Tryz.underlying3 h1
    obtain ⟨k2, e2, _, w2⟩ := DataW.trod_int Tryz.underlying3 h2
    obtain ⟨v3, l3, e3, b3⟩ := bts_cellsL h3
    simp at e0 e1 e2 e3
    subst e0 e1 e2 e3
    refine ⟨⟨k0, k1, k2, c3, l3⟩, ?_, ?_, ?_, ?_, b3, of_decide_eq_true (and_bothL w1).2, of_decide_eq_true (and_bothL w2).2⟩
    · exact hat 0 (by omega)
    · rw [← add_oneL _ _ 1 (by omega)]; exact hat 1 (by omega)
    · rw [← add_oneL _ _ 2 (by omega)]; exact hat 2 (by omega)
    · rw [← add_oneL _ _ 3 (by omega)]; exact hat 3 (by omega)
set_option maxRecDepth 100000 in
theorem open_actsL {W : World} {b : Nat} {v : Value} {d : DataW H} {p : List MemPlace} {sp : Nat → Bool} {base : Nat} {held : Bool}
    (hv : Value.okWide Tryz.prog W .any b 22 v) (h : DataW.Trod enc Tryz.prog W base sp held 22 v d p) :
    ∃ oa cap, ∃ l : List ActL, v = .slice oa l.length cap ∧ ActsL W oa l ∧ l.length ≤ 9223372036854775807 := by
  obtain ⟨a0, len0, cap0, rfl⟩ := okWide_slice Tryz.underlying22 hv
  obtain ⟨fuel, hf⟩ := h
  rcases open_slice Tryz.underlying22 hf with ⟨hcs, _⟩ | ⟨a, len, cap, m, n, D, Pl, hcs, _, hl, hm, hmm, _, hi⟩
  · simp [Value.cells] at hcs
    obtain ⟨rfl, rfl, rfl⟩ := hcs
    exact ⟨none, 0, [], rfl, fun j hj => absurd hj (Nat.not_lt_zero j), by simp⟩
  · simp [Value.cells] at hcs
    obtain ⟨rfl, rfl, rfl⟩ := hcs
    have hlm : len0 ≤ m := by rw [hmm]; split <;> omega
    obtain ⟨l, hll, hp⟩ := pick_list' (p := fun i (y : ActL) => W.cell? (a.add (i * 4)) = some (.int .i64 y.wh) ∧ W.cell? ⟨(a.add (i * 4)).block, (a.add (i * 4)).off + 1, none⟩ = some (.int .i64 y.kp) ∧ W.cell? ⟨(a.add (i * 4)).block, (a.add (i * 4)).off + 2, none⟩ = some (.int .i64 y.tn) ∧ W.cell? ⟨(a.add (i * 4)).block, (a.add (i * 4)).off + 3, none⟩ = some y.bs ∧ BytesOf W y.bs y.l ∧ y.kp ≤ 9223372036854775807 ∧ y.tn ≤ 9223372036854775807) len0 (fun i hi' => by
      obtain ⟨cs, hc, ht⟩ := hi i (by omega)
      exact cells_actL hc ht)
    subst hll
    exact ⟨some a, cap0, l, rfl, fun j hj => ⟨a, rfl, hp j hj⟩, by unfold maxLen at hm; omega⟩
end
end Go.Proofs.YtbhgcioeibhjeaaGreatDoor
namespace Go.Proofs.YtbhgcioeibhjeaaGreatDoor
open Go.RowKit

theorem is_ls {Ξ : Nat → Prop} {w W : World} {q p : Nat} {cl : Array Value} {D : Dk} {f : Nat} {t : Int} (h : LS Ξ w W q p cl D f t) (hf : f < 64) (i0 many : Int) :
    Calls Tryz.prog 13 #[.pointer (some ⟨q, 0, none⟩), .agg cl, .int .i64 i0, .int .i64 many] W fun x W' => x = .returned (.bool true) ∧ Below W.heap.size W W' := by
  obtain ⟨L, hL, hb⟩ := h.good
  obtain ⟨Φ, h1, h2, h3, h4, _⟩ := h.run
  refine is_anyZ h1 h3 h4 hf h.ref i0 ?_ many
  rw [hL]
  exact RLz_from L hb i0
end Go.Proofs.YtbhgcioeibhjeaaGreatDoor
