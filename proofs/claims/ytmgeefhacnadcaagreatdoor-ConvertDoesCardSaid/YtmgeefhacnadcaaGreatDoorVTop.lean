/-
  convert.Convert: 'cvO'.
-/
import Derived.Test.YtmgeefhacnadcaaGreatDoorVConv
namespace Go.Proofs.YtmgeefhacnadcaaGreatDoor
open Go.RowKit

theorem below_realloc {B : Nat} {w W : World} {o o' : Obj} (h : Below B w (W.alloc o)) (hB : B ≤ W.heap.size) : Below B w (W.alloc o') :=
  ⟨h.os, h.tape, h.output, by have := h.size; simp at this ⊢; exact this, fun k hk => by
    have h1 := h.block k hk
    rw [Below.heap_alloc _ _ _ (by omega)] at h1 ⊢
    exact h1⟩
/-- four zero cells of a value -/
structure Zero4 (W : World) (b : Nat) : Prop where
  c0 : W.cell? ⟨b, 0, none⟩ = some (.int .i64 0)
  c1 : W.cell? ⟨b, 1, none⟩ = some (.int .i64 0)
  c2 : W.cell? ⟨b, 2, none⟩ = some (.int .u64 0)
  c3 : W.cell? ⟨b, 3, none⟩ = some (.string ⟨#[]⟩)
  f0 : W.frozen? ⟨b, 0, none⟩ = false
  f1 : W.frozen? ⟨b, 1, none⟩ = false
  f2 : W.frozen? ⟨b, 2, none⟩ = false
  f3 : W.frozen? ⟨b, 3, none⟩ = false
  lt : b < W.heap.size
theorem Zero4.keep {W W' : World} {b : Nat} (h : Zero4 W b) (hb : Below W.heap.size W W') : Zero4 W' b :=
  ⟨keep_cell hb h.c0, keep_cell hb h.c1, keep_cell hb h.c2, keep_cell hb h.c3, keep_frozen hb h.lt h.f0, keep_frozen hb h.lt h.f1, keep_frozen hb h.lt h.f2, keep_frozen hb h.lt h.f3, Nat.lt_of_lt_of_le h.lt hb.size⟩
theorem zero4 {W0 W : World} {b : Nat} (hb : Below (W0.alloc (.cells #[.int .i64 0, .int .i64 0, .int .u64 0, .string ⟨#[]⟩] 28)).heap.size (W0.alloc (.cells #[.int .i64 0, .int .i64 0, .int .u64 0, .string ⟨#[]⟩] 28)) W) (he : W0.heap.size = b) : Zero4 W b := by
  subst he
  refine Zero4.keep ?_ hb
  exact ⟨by simp [go_sem], by simp [go_sem], by simp [go_sem], by simp [go_sem], by simp [go_sem], by simp [go_sem], by simp [go_sem], by simp [go_sem], by simp⟩
theorem zero4d {W0 W : World} {b : Nat} (hb : Below (W0.alloc (.cells #[.int .i64 0, .int .i64 0, .int .u64 0, .string ⟨#[]⟩] 28)).drew.heap.size (W0.alloc (.cells #[.int .i64 0, .int .i64 0, .int .u64 0, .string ⟨#[]⟩] 28)).drew W) (he : W0.heap.size = b) : Zero4 W b := by
  subst he
  refine Zero4.keep ?_ hb
  exact ⟨by simp [go_sem], by simp [go_sem], by simp [go_sem], by simp [go_sem], by simp [go_sem], by simp [go_sem], by simp [go_sem], by simp [go_sem], by simp⟩

theorem zero4_set {W : World} {b : Nat} (h : Zero4 W b) (x0 x1 x2 x3 : Value) :
    let W' := (((W.setCell ⟨b, 0, none⟩ x0).setCell ⟨b, 1, none⟩ x1).setCell ⟨b, 2, none⟩ x2).setCell ⟨b, 3, none⟩ x3
    W'.cell? ⟨b, 0, none⟩ = some x0 ∧ W'.cell? ⟨b, 1, none⟩ = some x1 ∧ W'.cell? ⟨b, 2, none⟩ = some x2 ∧ W'.cell? ⟨b, 3, none⟩ = some x3 := by
  have k : ∀ i, i < 4 → (setAll b W 0 [x0, x1, x2, x3]).cell? ⟨b, 0 + i, none⟩ = [x0, x1, x2, x3][i]? := setAll_cell b [x0, x1, x2, x3] W 0 (fun i hi => by
    match i, hi with
    | 0, _ => simp [h.c0]
    | 1, _ => simp [h.c1]
    | 2, _ => simp [h.c2]
    | 3, _ => simp [h.c3]
    | i + 4, hi => exact absurd hi (by simp))
  exact ⟨k 0 (by omega), k 1 (by omega), k 2 (by omega), k 3 (by omega)⟩
/-- four cells of a result and that they may be stored into -/
structure Held2 (W : World) (b : Nat) (y0 y1 y2 y3 : Value) : Prop where
  c0 : W.cell? ⟨b, 0, none⟩ = some y0
  c1 : W.cell? ⟨b, 1, none⟩ = some y1
  c2 : W.cell? ⟨b, 2, none⟩ = some y2
  c3 : W.cell? ⟨b, 3, none⟩ = some y3
  f0 : W.frozen? ⟨b, 0, none⟩ = false
  f1 : W.frozen? ⟨b, 1, none⟩ = false
  f2 : W.frozen? ⟨b, 2, none⟩ = false
  f3 : W.frozen? ⟨b, 3, none⟩ = false
theorem held2 {W : World} {b : Nat} {y0 y1 y2 y3 : Value} (c0 : W.cell? ⟨b, 0, none⟩ = some y0) (c1 : W.cell? ⟨b, 1, none⟩ = some y1) (c2 : W.cell? ⟨b, 2, none⟩ = some y2) (c3 : W.cell? ⟨b, 3, none⟩ = some y3)
    (f0 : W.frozen? ⟨b, 0, none⟩ = false) (f1 : W.frozen? ⟨b, 1, none⟩ = false) (f2 : W.frozen? ⟨b, 2, none⟩ = false) (f3 : W.frozen? ⟨b, 3, none⟩ = false) : Held2 W b y0 y1 y2 y3 := ⟨c0, c1, c2, c3, f0, f1, f2, f3⟩
theorem Held2.keep {W W' : World} {b : Nat} {y0 y1 y2 y3 : Value} (h : Held2 W b y0 y1 y2 y3) (hb : Below W.heap.size W W') : Held2 W' b y0 y1 y2 y3 :=
  have hl := World.block_lt_of_cell? W ⟨b, 0, none⟩ h.c0
  ⟨keep_cell hb h.c0, keep_cell hb h.c1, keep_cell hb h.c2, keep_cell hb h.c3, keep_frozen hb hl h.f0, keep_frozen hb hl h.f1, keep_frozen hb hl h.f2, keep_frozen hb hl h.f3⟩
theorem held_keep4 {W W' : World} {q : Nat} {y0 y1 y2 y3 : Value} (h : W.cell? ⟨q, 0, none⟩ = some y0 ∧ W.cell? ⟨q, 1, none⟩ = some y1 ∧ W.cell? ⟨q, 2, none⟩ = some y2 ∧ W.cell? ⟨q, 3, none⟩ = some y3) (hb : Below W.heap.size W W') :
    W'.cell? ⟨q, 0, none⟩ = some y0 ∧ W'.cell? ⟨q, 1, none⟩ = some y1 ∧ W'.cell? ⟨q, 2, none⟩ = some y2 ∧ W'.cell? ⟨q, 3, none⟩ = some y3 :=
  ⟨keep_cell hb h.1, keep_cell hb h.2.1, keep_cell hb h.2.2.1, keep_cell hb h.2.2.2⟩
theorem held_set4 {W : World} {q r : Nat} (hne : q ≠ r) {y0 y1 y2 y3 : Value} (h : W.cell? ⟨q, 0, none⟩ = some y0 ∧ W.cell? ⟨q, 1, none⟩ = some y1 ∧ W.cell? ⟨q, 2, none⟩ = some y2 ∧ W.cell? ⟨q, 3, none⟩ = some y3) (x0 x1 x2 x3 : Value) :
    let W' := (((W.setCell ⟨r, 0, none⟩ x0).setCell ⟨r, 1, none⟩ x1).setCell ⟨r, 2, none⟩ x2).setCell ⟨r, 3, none⟩ x3
    W'.cell? ⟨q, 0, none⟩ = some y0 ∧ W'.cell? ⟨q, 1, none⟩ = some y1 ∧ W'.cell? ⟨q, 2, none⟩ = some y2 ∧ W'.cell? ⟨q, 3, none⟩ = some y3 :=
  have k : ∀ a : Addr, a.block ≠ r → (setAll r W 0 [x0, x1, x2, x3]).cell? a = W.cell? a := fun _ ha => setAll_far r ha [x0, x1, x2, x3] W 0
  ⟨(k ⟨q, 0, none⟩ hne).trans h.1, (k ⟨q, 1, none⟩ hne).trans h.2.1, (k ⟨q, 2, none⟩ hne).trans h.2.2.1, (k ⟨q, 3, none⟩ hne).trans h.2.2.2⟩
theorem far4 {W : World} {q r k : Nat} (hne : q ≠ r) (x0 x1 x2 x3 : Value) :
    ((((W.setCell ⟨r, 0, none⟩ x0).setCell ⟨r, 1, none⟩ x1).setCell ⟨r, 2, none⟩ x2).setCell ⟨r, 3, none⟩ x3).cell? ⟨q, k, none⟩ = W.cell? ⟨q, k, none⟩ :=
  setAll_far r (a := ⟨q, k, none⟩) hne [x0, x1, x2, x3] W 0
theorem below_set4 {B : Nat} {w W : World} {b : Nat} (h : Below B w W) (hB : B ≤ b) (x0 x1 x2 x3 : Value) : Below B w ((((W.setCell ⟨b, 0, none⟩ x0).setCell ⟨b, 1, none⟩ x1).setCell ⟨b, 2, none⟩ x2).setCell ⟨b, 3, none⟩ x3) :=
  setAll_below b hB [x0, x1, x2, x3] W 0 h
theorem below_undrew {B : Nat} {w W : World} (h : Below B w.drew W) : Below B w W := (Below.drew (Below.refl B w)).trans h

set_option maxRecDepth 100000 in
set_option maxHeartbeats 8000000 in
theorem Convert_good (c d : Col) (v : Vl) (w : World) (hE : Env w) (x : Vl) (hC : ∀ r es cl W, Below w.heap.size w W → W.heap[r]? = some (.map es cl) → IsWays es → Calls Tryz.prog 27 #[.map (some r), .agg #[.string c.n, .int .i64 c.t, .int .i64 c.z, .bool c.u], .agg #[.string d.n, .int .i64 d.t, .int .i64 d.z, .bool d.u], .agg #[.int .i64 v.k, .int .i64 v.i, .int .u64 v.u, .string v.s]] W fun e w' => e = .returned (.tuple #[.agg #[.int .i64 x.k, .int .i64 x.i, .int .u64 x.u, .string x.s], .nilIface]) ∧ Below W.heap.size W w') :
    Calls Tryz.prog 10 #[.agg #[.string c.n, .int .i64 c.t, .int .i64 c.z, .bool c.u], .agg #[.string d.n, .int .i64 d.t, .int .i64 d.z, .bool d.u], .agg #[.int .i64 v.k, .int .i64 v.i, .int .u64 v.u, .string v.s]] w fun e w' => e = .returned (.tuple #[.agg #[.int .i64 x.k, .int .i64 x.i, .int .u64 x.u, .string x.s], .int .i64 0]) ∧ Below w.heap.size w w' := by
  have HE := Lib.hid (fun W (hb : Below w.heap.size w W) => (hE.keep hb).et)
  have HC := Lib.hid hC
  clear hE hC
  go_enter Tryz.func10, Tryz.ntmps10
  go_upto_region 1 with fail
  obtain ⟨W1, hW1⟩ : ∃ W1, (((w.alloc (.cells #[.string c.n, .int .i64 c.t, .int .i64 c.z, .bool c.u] 24)).alloc (.cells #[.string d.n, .int .i64 d.t, .int .i64 d.z, .bool d.u] 24)).alloc (.cells #[.int .i64 v.k, .int .i64 v.i, .int .u64 v.u, .string v.s] 28)).alloc (.cells #[.int .i64 0, .int .i64 0, .int .u64 0, .string ⟨#[]⟩] 28) = W1 := ⟨_, rfl⟩
  have hb1 : Below w.heap.size w W1 := by rw [← hW1]; exact ((((Below.refl _ _).alloc (Nat.le_refl _) _).alloc (by simp) _).alloc (by simp; omega) _).alloc (by simp; omega) _
  have a0 : W1.cell? ⟨w.heap.size, 0, none⟩ = some (.string c.n) := by rw [← hW1]; simp [go_sem]
  have a1 : W1.cell? ⟨w.heap.size, 1, none⟩ = some (.int .i64 c.t) := by rw [← hW1]; simp [go_sem]
  have a2 : W1.cell? ⟨w.heap.size, 2, none⟩ = some (.int .i64 c.z) := by rw [← hW1]; simp [go_sem]
  have a3 : W1.cell? ⟨w.heap.size, 3, none⟩ = some (.bool c.u) := by rw [← hW1]; simp [go_sem]
  have b0 : W1.cell? ⟨w.heap.size + 1, 0, none⟩ = some (.string d.n) := by rw [← hW1]; simp [go_sem]
  have b1 : W1.cell? ⟨w.heap.size + 1, 1, none⟩ = some (.int .i64 d.t) := by rw [← hW1]; simp [go_sem]
  have b2 : W1.cell? ⟨w.heap.size + 1, 2, none⟩ = some (.int .i64 d.z) := by rw [← hW1]; simp [go_sem]
  have b3 : W1.cell? ⟨w.heap.size + 1, 3, none⟩ = some (.bool d.u) := by rw [← hW1]; simp [go_sem]
  have v0 : W1.cell? ⟨w.heap.size + 1 + 1, 0, none⟩ = some (.int .i64 v.k) := by rw [← hW1]; simp [go_sem]
  have v1 : W1.cell? ⟨w.heap.size + 1 + 1, 1, none⟩ = some (.int .i64 v.i) := by rw [← hW1]; simp [go_sem]
  have v2 : W1.cell? ⟨w.heap.size + 1 + 1, 2, none⟩ = some (.int .u64 v.u) := by rw [← hW1]; simp [go_sem]
  have v3 : W1.cell? ⟨w.heap.size + 1 + 1, 3, none⟩ = some (.string v.s) := by rw [← hW1]; simp [go_sem]
  have r0 : W1.cell? ⟨w.heap.size + 1 + 1 + 1, 0, none⟩ = some (.int .i64 0) := by rw [← hW1]; simp [go_sem]
  have r1 : W1.cell? ⟨w.heap.size + 1 + 1 + 1, 1, none⟩ = some (.int .i64 0) := by rw [← hW1]; simp [go_sem]
  have r2 : W1.cell? ⟨w.heap.size + 1 + 1 + 1, 2, none⟩ = some (.int .u64 0) := by rw [← hW1]; simp [go_sem]
  have r3 : W1.cell? ⟨w.heap.size + 1 + 1 + 1, 3, none⟩ = some (.string ⟨#[]⟩) := by rw [← hW1]; simp [go_sem]
  have fr0 : W1.frozen? ⟨w.heap.size + 1 + 1 + 1, 0, none⟩ = false := by rw [← hW1]; simp [go_sem]
  have fr1 : W1.frozen? ⟨w.heap.size + 1 + 1 + 1, 1, none⟩ = false := by rw [← hW1]; simp [go_sem]
  have fr2 : W1.frozen? ⟨w.heap.size + 1 + 1 + 1, 2, none⟩ = false := by rw [← hW1]; simp [go_sem]
  have fr3 : W1.frozen? ⟨w.heap.size + 1 + 1 + 1, 3, none⟩ = false := by rw [← hW1]; simp [go_sem]
  rw [hW1]
  have HB1 := Lib.hid hb1
  clear hW1 hb1
  have hy3 : w.heap.size + 1 + 1 + 1 < W1.heap.size := World.block_lt_of_cell? _ _ r0
  have hy2 : w.heap.size + 1 + 1 < W1.heap.size := by omega
  have hy1 : w.heap.size + 1 < W1.heap.size := by omega
  have hy0 : w.heap.size < W1.heap.size := by omega
  have HR := Lib.hid (And.intro r0 (And.intro r1 (And.intro r2 (And.intro r3 (And.intro fr0 (And.intro fr1 (And.intro fr2 (fr3))))))))
  have HS : Hid (∀ W, Below W1.heap.size W1 W → W.cell? ⟨w.heap.size, 0, none⟩ = some (.string c.n) ∧ W.cell? ⟨w.heap.size, 1, none⟩ = some (.int .i64 c.t) ∧ W.cell? ⟨w.heap.size, 2, none⟩ = some (.int .i64 c.z) ∧ W.cell? ⟨w.heap.size, 3, none⟩ = some (.bool c.u) ∧ W.cell? ⟨w.heap.size + 1, 0, none⟩ = some (.string d.n) ∧ W.cell? ⟨w.heap.size + 1, 1, none⟩ = some (.int .i64 d.t) ∧ W.cell? ⟨w.heap.size + 1, 2, none⟩ = some (.int .i64 d.z) ∧ W.cell? ⟨w.heap.size + 1, 3, none⟩ = some (.bool d.u) ∧ W.cell? ⟨w.heap.size + 1 + 1, 0, none⟩ = some (.int .i64 v.k) ∧ W.cell? ⟨w.heap.size + 1 + 1, 1, none⟩ = some (.int .i64 v.i) ∧ W.cell? ⟨w.heap.size + 1 + 1, 2, none⟩ = some (.int .u64 v.u) ∧ W.cell? ⟨w.heap.size + 1 + 1, 3, none⟩ = some (.string v.s) ∧ Below W1.heap.size W1 W) := Lib.hid (fun W hb => ⟨keep_cell hb a0, keep_cell hb a1, keep_cell hb a2, keep_cell hb a3, keep_cell hb b0, keep_cell hb b1, keep_cell hb b2, keep_cell hb b3, keep_cell hb v0, keep_cell hb v1, keep_cell hb v2, keep_cell hb v3, hb⟩)
  clear r0 r1 r2 r3 fr0 fr1 fr2 fr3
  go_cut [8, 9] (fun s8 s9 wx => ∃ q, s8 = .pointer (some ⟨q, 0, none⟩) ∧ s9 = .nilIface ∧ W1.heap.size ≤ q ∧ wx.cell? ⟨q, 0, none⟩ = some (.int .i64 x.k) ∧ wx.cell? ⟨q, 1, none⟩ = some (.int .i64 x.i) ∧ wx.cell? ⟨q, 2, none⟩ = some (.int .u64 x.u) ∧ wx.cell? ⟨q, 3, none⟩ = some (.string x.s) ∧ Below W1.heap.size W1 wx)
  case first =>
    go_region_held3 (fun w' => w'.cell? ⟨w.heap.size, 0, none⟩ = some (.string c.n) ∧ w'.cell? ⟨w.heap.size, 1, none⟩ = some (.int .i64 c.t) ∧ w'.cell? ⟨w.heap.size, 2, none⟩ = some (.int .i64 c.z) ∧ w'.cell? ⟨w.heap.size, 3, none⟩ = some (.bool c.u) ∧ w'.cell? ⟨w.heap.size + 1, 0, none⟩ = some (.string d.n) ∧ w'.cell? ⟨w.heap.size + 1, 1, none⟩ = some (.int .i64 d.t) ∧ w'.cell? ⟨w.heap.size + 1, 2, none⟩ = some (.int .i64 d.z) ∧ w'.cell? ⟨w.heap.size + 1, 3, none⟩ = some (.bool d.u) ∧ w'.cell? ⟨w.heap.size + 1 + 1, 0, none⟩ = some (.int .i64 v.k) ∧ w'.cell? ⟨w.heap.size + 1 + 1, 1, none⟩ = some (.int .i64 v.i) ∧ w'.cell? ⟨w.heap.size + 1 + 1, 2, none⟩ = some (.int .u64 v.u) ∧ w'.cell? ⟨w.heap.size + 1 + 1, 3, none⟩ = some (.string v.s) ∧ Below W1.heap.size W1 w') ((refine HS.out _ ?_; go_split_ands; first | (with_reducible exact below_set4 (by assumption) (by first | exact Nat.le_refl _ | omega | (simp; omega)) _ _ _ _) | (with_reducible exact Below.drew (Below.refl _ _)) | (with_reducible exact held_trans (by assumption) hb4) | (with_reducible exact held_trans (by assumption) hb3) | (with_reducible exact below_realloc (by assumption) (by omega)) | (with_reducible exact Below.alloc (by assumption) (Below.size (by assumption)) _) | (with_reducible exact Below.alloc (Below.refl _ _) (Nat.le_refl _) _) | (with_reducible exact Below.alloc (Below.drew (Below.refl _ _)) (Nat.le_refl _) _) | (with_reducible exact Below.drew (Below.alloc (Below.refl _ _) (Nat.le_refl _) _)) | (with_reducible exact Below.drew (by assumption))))
      (first | (go_at_call 26; refine (known_any _).mono ?_; rintro e w3 ⟨rfl, ⟨es, cl, hm, hw⟩, hb3⟩; (first | have HM : Hid (w3.heap[W1.heap.size]? = some (.map es cl)) := Lib.hid hm | (replace hm := (show w3.heap[(W1.alloc (.cells #[.int .i64 0, .int .i64 0, .int .u64 0, .string ⟨#[]⟩] 28)).heap.size]? = some (.map es cl) from hm); rw [World.size_alloc] at hm; have HM : Hid (w3.heap[W1.heap.size + 1]? = some (.map es cl)) := Lib.hid hm)); have HW := Lib.hid hw; clear hm hw; have hz3 := hb3.size; (try simp at hz3); (try (first | have P := zero4 (b := W1.heap.size) hb3 rfl | have P := zero4d (b := W1.heap.size) hb3 rfl))) | (go_at_call 27; refine (HC.out _ _ _ _ (HB1.out.trans (Below.mono (by go_split_ands; first | assumption | (exact Below.alloc (by assumption) (Below.size (by assumption)) _)) HB1.out.size)) (by first | with_reducible exact HM.out | exact heap_old HM.out _) HW.out).mono ?_; rintro e w4 ⟨rfl, hb4⟩; have hz4 := hb4.size; (try simp at hz4); (first | have P := Zero4.keep P hb4 | have P := zero4 (b := w3.heap.size) hb4 rfl | skip); (try (have P4 := P; obtain ⟨p0, p1, p2, p3, fp0, fp1, fp2, fp3, hpl⟩ := P))))
    all_goals go_wp2_with fail
    all_goals go_meet
    all_goals rename_i hh
    all_goals refine ⟨_, rfl, rfl, by omega, ?_⟩
    all_goals (first | refine ⟨by simp [go_sem], by simp [go_sem], by simp [go_sem], by simp [go_sem], hh.2.2.2.2.2.2.2.2.2.2.2.2⟩ | (obtain ⟨k0, k1, k2, k3⟩ := zero4_set P4 (.int .i64 x.k) (.int .i64 x.i) (.int .u64 x.u) (.string x.s); refine ⟨k0, k1, k2, k3, hh.2.2.2.2.2.2.2.2.2.2.2.2⟩))
  case rest =>
    obtain ⟨q, rfl, rfl, hq, e0, e1, e2, e3, hbx⟩ := hcut
    obtain ⟨g0, g1, g2, g3, h0, h1, h2, h3⟩ := HR.out
    have r0 := keep_cell hbx g0
    have r1 := keep_cell hbx g1
    have r2 := keep_cell hbx g2
    have r3 := keep_cell hbx g3
    have f0 := keep_frozen hbx hy3 h0
    have f1 := keep_frozen hbx hy3 h1
    have f2 := keep_frozen hbx hy3 h2
    have f3 := keep_frozen hbx hy3 h3
    have hez := HE.out wc (HB1.out.trans (hbx.mono HB1.out.size))
    have hwz := hbx.size
    have HEZ := Lib.hid hez
    have HBX := Lib.hid hbx
    clear g0 g1 g2 g3 h0 h1 h2 h3 hez hbx HS HR HC HE a0 a1 a2 a3 b0 b1 b2 b3 v0 v1 v2 v3
    have hqr : q ≠ w.heap.size + 1 + 1 + 1 := by omega
    have hR := held2 r0 r1 r2 r3 f0 f1 f2 f3
    go_upto_region 2 with fail
    go_region_held3 (fun w' => w'.cell? ⟨q, 0, none⟩ = some (.int .i64 x.k) ∧ w'.cell? ⟨q, 1, none⟩ = some (.int .i64 x.i) ∧ w'.cell? ⟨q, 2, none⟩ = some (.int .u64 x.u) ∧ w'.cell? ⟨q, 3, none⟩ = some (.string x.s)) (first | (with_reducible exact held_keep4 (by assumption) hb5) | (with_reducible exact held_set4 hqr (by assumption) _ _ _ _) | go_keep)
      ((go_at_call 28; refine (xerrno_nil _).mono ?_; rintro e w5 ⟨rfl, hb5⟩; have R := Held2.keep hR (by first | exact hb5 | exact below_undrew hb5); obtain ⟨u0, u1, u2, u3, d0, d1, d2, d3⟩ := R))
    all_goals go_wp2_with fail
    all_goals refine bodyPost_ret (v := .tuple #[.agg #[.int .i64 x.k, .int .i64 x.i, .int .u64 x.u, .string x.s], .int .i64 0]) (by simp [results, Tryz.results10, go_sem, u0, u1, u2, u3]) rfl ⟨rfl, ?_⟩
    all_goals repeat' first | exact (HB1.out.trans (HBX.out.mono HB1.out.size)).trans (Below.mono (by first | exact hb5 | exact below_undrew hb5) (by first | omega | (simp; omega))) | (refine Below.setCell ?_ (by simp; omega) _)
end Go.Proofs.YtmgeefhacnadcaaGreatDoor
