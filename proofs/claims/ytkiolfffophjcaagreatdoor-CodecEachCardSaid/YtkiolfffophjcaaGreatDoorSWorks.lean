/-
  swingbridgelaw03.works: the chapter's rows; schema.Pick.
-/
import Derived.Test.YtkiolfffophjcaaGreatDoorSSch
import Derived.Test.YtkiolfffophjcaaGreatDoorVOL
namespace Go.Proofs.YtkiolfffophjcaaGreatDoor
open Go.RowKit

theorem ValsIn.sl {w : World} {a : Addr} {l : List Vl} {cap : Nat} (h : ValsIn w (some a) l) (hc : l.length ≤ cap) : SliceOf w (.slice (some a) l.length cap) l :=
  .inr ⟨a, cap, rfl, hc, fun j hj => by
    obtain ⟨a', e, hv⟩ := h j hj
    cases e
    exact hv⟩
theorem l3num_any (n : Int) (w : World) : Calls Tryz.prog 16 #[.int .i64 n] w fun e w' => e = .returned (.int .i64 n) ∧ w = w' := by
  go_enter Tryz.func16, Tryz.ntmps16
  go_wp2
  go_ret
  exact ⟨rfl, rfl⟩
set_option maxHeartbeats 400000 in
theorem of_any (n : Int) (w : World) : Calls Tryz.prog 44 #[.int .i64 n] w fun e w' => e = .returned (.agg #[.int .i64 1, .int .i64 n, .int .u64 0, .string ⟨#[]⟩]) ∧ Below w.heap.size w w' := by
  go_enter Tryz.func44, Tryz.ntmps44
  go_wp2
  go_returns
  exact ⟨rfl, by go_grown⟩
set_option maxHeartbeats 400000 in
theorem bytes_any (s : ByteArray) (w : World) : Calls Tryz.prog 45 #[.string s] w fun e w' => e = .returned (.agg #[.int .i64 4, .int .i64 0, .int .u64 0, .string s]) ∧ Below w.heap.size w w' := by
  go_enter Tryz.func45, Tryz.ntmps45
  go_wp2
  go_returns
  exact ⟨rfl, by go_grown⟩

/-- what Pick answers -/
def PickPost (l : List Vl) (pl : List Int) (w : World) (e : Ending) (w' : World) : Prop :=
  (inAll l.length pl = true ∧ (∃ b, e = .returned (.tuple #[.slice (some ⟨b, 0, none⟩) pl.length pl.length, .int .i64 0]) ∧ ValsIn w' (some ⟨b, 0, none⟩) (pickL val0 l pl)) ∧ Below w.heap.size w w') ∨
  (inAll l.length pl = false ∧ e = .returned (.tuple #[.slice none 0 0, .int .i64 4]) ∧ Below w.heap.size w w')
set_option maxRecDepth 100000 in
set_option maxHeartbeats 1000000 in
theorem SPick_any (oc : Option Addr) (cc : Nat) (l : List Vl) (ol : Option Addr) (cl : Nat) (pl : List Int) (w : World) (hg : HasET w) (hl : l.length ≤ 1000) (hp : pl.length ≤ 1000) (hc : ValsIn w oc l) (hi : IntsIn w ol pl) :
    Calls Tryz.prog 26 #[.slice oc l.length cc, .slice ol pl.length cl] w (PickPost l pl w) := by
  have HP := Lib.hid (pickV_any oc cc l ol cl pl w hl hp hc hi)
  have HG := Lib.hid (fun W hb => hg.below (w' := W) hb hg.lt)
  clear hg hc hi
  go_enter Tryz.func26, Tryz.ntmps26
  go_wp2_with fail
  refine HP.out.mono ?_
  rintro e w1 (⟨hin, ⟨b, rfl, hv⟩, hb1⟩ | ⟨hin, ⟨b, rfl, hb, hcb⟩, hb1⟩)
  · have HB := Lib.hid hb1
    have HI := Lib.hid hin
    have HV := Lib.hid hv
    clear hb1 hin hv
    go_wp2_with fail
    refine (sErrno_nil _).mono ?_
    rintro e w2 ⟨rfl, hb2⟩
    have HB2 := Lib.hid hb2
    clear hb2
    go_wp2_with fail
    go_ret2
    exact .inl ⟨HI.out, ⟨b, rfl, HV.out.keep HB2.out (Nat.le_refl _)⟩, HB.out.trans (HB2.out.mono HB.out.size)⟩
  · have HB := Lib.hid hb1
    have HI := Lib.hid hin
    have HE := Lib.hid (sErrno_err b 4 w1 (HG.out _ hb1) hcb)
    clear hb1 hin hcb
    go_wp2_with fail
    refine HE.out.mono ?_
    rintro e w2 ⟨rfl, hb2⟩
    have HB2 := Lib.hid hb2
    clear hb2
    go_wp2_with fail
    go_ret2
    exact .inr ⟨HI.out, rfl, HB.out.trans (HB2.out.mono HB.out.size)⟩

def s0 : Sch := ⟨[⟨⟨#[97]⟩, 1, 1, false⟩, ⟨⟨#[98]⟩, 4, 2, true⟩], [0], []⟩
def p0 (b : Nat) : SchV := ⟨some ⟨b, 0, none⟩, 2, some ⟨b + 1, 0, none⟩, 1, none, 0⟩
def vI (n : Int) : Vl := ⟨1, n, 0, ⟨#[]⟩⟩
def v0 : Vl := ⟨0, 0, 0, ⟨#[]⟩⟩
def vB (s : ByteArray) : Vl := ⟨4, 0, 0, s⟩
theorem vals1 {w : World} {b : Nat} {x : Vl} (h : ValAt w ⟨b, 0, none⟩ x) : ValsIn w (some ⟨b, 0, none⟩) [x] := fun j hj => by
  match j, hj with
  | 0, _ => exact ⟨_, rfl, by rw [add4]; exact h⟩
theorem vals2 {w : World} {b : Nat} {x y : Vl} (h : ValAt w ⟨b, 0, none⟩ x) (h' : ValAt w ⟨b, 4, none⟩ y) : ValsIn w (some ⟨b, 0, none⟩) [x, y] := fun j hj => by
  match j, hj with
  | 0, _ => exact ⟨_, rfl, by rw [add4]; exact h⟩
  | 1, _ => exact ⟨_, rfl, by rw [add4]; exact h'⟩
theorem sch0 {w : World} {b : Nat} (h : w.heap[b]? = some (.cells #[.string ⟨#[97]⟩, .int .i64 1, .int .i64 1, .bool false, .string ⟨#[98]⟩, .int .i64 4, .int .i64 2, .bool true] 46)) (h' : w.cell? ⟨b + 1, 0, none⟩ = some (.int .i64 0)) : SchIn w (p0 b) s0 := by
  refine ⟨fun j hj => ?_, fun j hj => ?_, fun j hj => absurd hj (Nat.not_lt_zero j), Nat.le_refl _⟩
  · match j, hj with
    | 0, _ => exact ⟨_, rfl, by rw [add4]; exact ⟨by simp [World.cell?, h]; rfl, by simp [World.cell?, h]; rfl, by simp [World.cell?, h]; rfl, by simp [World.cell?, h]; rfl⟩⟩
    | 1, _ => exact ⟨_, rfl, by rw [add4]; exact ⟨by simp [World.cell?, h]; rfl, by simp [World.cell?, h]; rfl, by simp [World.cell?, h]; rfl, by simp [World.cell?, h]; rfl⟩⟩
  · match j, hj with
    | 0, _ => exact ⟨_, rfl, by unfold Addr.add; exact h'⟩

/-- the boxes of s and null -/
def Boxes (w W : World) : Prop := W.cell? ⟨w.heap.size + 1 + 1, 0, none⟩ = some (.slice (some ⟨w.heap.size, 0, none⟩) 2 2) ∧ W.cell? ⟨w.heap.size + 1 + 1, 1, none⟩ = some (.slice (some ⟨w.heap.size + 1, 0, none⟩) 1 1) ∧ W.cell? ⟨w.heap.size + 1 + 1, 2, none⟩ = some (.slice none 0 0) ∧ W.cell? ⟨w.heap.size + 1 + 1 + 1, 0, none⟩ = some (.int .i64 0) ∧ W.cell? ⟨w.heap.size + 1 + 1 + 1, 1, none⟩ = some (.int .i64 0) ∧ W.cell? ⟨w.heap.size + 1 + 1 + 1, 2, none⟩ = some (.int .u64 0) ∧ W.cell? ⟨w.heap.size + 1 + 1 + 1, 3, none⟩ = some (.string ⟨#[]⟩) ∧ w.heap.size + 1 + 1 + 1 < W.heap.size
theorem boxes_keep {w V W : World} (h : Boxes w V) (hb : Below V.heap.size V W) : Boxes w W := by
  obtain ⟨h0, h1, h2, h3, h4, h5, h6, h7⟩ := h
  exact ⟨cell_old h0 hb, cell_old h1 hb, cell_old h2 hb, cell_old h3 hb, cell_old h4 hb, cell_old h5 hb, cell_old h6 hb, by have := hb.size; omega⟩
theorem ints2 {w : World} {b : Nat} {x y : Int} (h : w.cell? ⟨b, 0, none⟩ = some (.int .i64 x)) (h' : w.cell? ⟨b, 1, none⟩ = some (.int .i64 y)) : IntsIn w (some ⟨b, 0, none⟩) [x, y] := fun j hj => by
  match j, hj with
  | 0, _ => exact ⟨_, rfl, by unfold Addr.add; exact h⟩
  | 1, _ => exact ⟨_, rfl, by unfold Addr.add; exact h'⟩
theorem sOf {w w2 W : World} (h : Boxes w w2) (hb : Below w2.heap.size w2 W) : W.cell? ⟨w.heap.size + 1 + 1, 0, none⟩ = some (.slice (some ⟨w.heap.size, 0, none⟩) 2 2) ∧ W.cell? ⟨w.heap.size + 1 + 1, 1, none⟩ = some (.slice (some ⟨w.heap.size + 1, 0, none⟩) 1 1) ∧ W.cell? ⟨w.heap.size + 1 + 1, 2, none⟩ = some (.slice none 0 0) ∧ W.cell? ⟨w.heap.size + 1 + 1 + 1, 0, none⟩ = some (.int .i64 0) ∧ W.cell? ⟨w.heap.size + 1 + 1 + 1, 1, none⟩ = some (.int .i64 0) ∧ W.cell? ⟨w.heap.size + 1 + 1 + 1, 2, none⟩ = some (.int .u64 0) ∧ W.cell? ⟨w.heap.size + 1 + 1 + 1, 3, none⟩ = some (.string ⟨#[]⟩) ∧ w2.heap.size ≤ W.heap.size ∧ Below w2.heap.size w2 W := by
  obtain ⟨h0, h1, h2, h3, h4, h5, h6, _⟩ := boxes_keep h hb
  exact ⟨h0, h1, h2, h3, h4, h5, h6, hb.size, hb⟩
set_option maxRecDepth 100000 in
set_option maxHeartbeats 8000000 in
theorem sworks_true (w : World) (hg : HasET w) :
    Calls Tryz.prog 12 #[] w fun e w' => e = .returned (.bool true) ∧ Below w.heap.size w w' := by
  have HG := Lib.hid (fun W hb => hg.below (w' := W) hb hg.lt)
  clear hg
  go_enter Tryz.func12, Tryz.ntmps12
  go_wp2_with fail
  obtain ⟨W1, hW1⟩ : ∃ W1, (((w.alloc (.cells #[.string ⟨#[97]⟩, .int .i64 1, .int .i64 1, .bool false, .string ⟨#[98]⟩, .int .i64 4, .int .i64 2, .bool true] 46)).alloc (.cells #[.int .i64 0] 3)).alloc (.cells #[.slice (some ⟨w.heap.size, 0, none⟩) 2 2, .slice (some ⟨w.heap.size + 1, 0, none⟩) 1 1, .slice none 0 0] 26)).alloc (.cells #[.int .i64 0, .int .i64 0, .int .u64 0, .string ⟨#[]⟩] 51) = W1 := ⟨_, rfl⟩
  have hb1 : Below w.heap.size w W1 := by rw [← hW1]; go_grown
  have hS1 : SchIn W1 (p0 w.heap.size) s0 := by
    refine sch0 ?_ ?_
    · rw [← hW1]
      exact heap_old (heap_old (heap_old (heap_alloc_at _ _) _) _) _
    · rw [← hW1]
      simp [go_sem]
  have hbx : Boxes w W1 := by
    unfold Boxes
    rw [← hW1]
    exact ⟨by simp [go_sem], by simp [go_sem], by simp [go_sem], by simp [go_sem], by simp [go_sem], by simp [go_sem], by simp [go_sem], by simp⟩
  rw [hW1]
  clear hW1
  have HS1 := Lib.hid hS1
  have HX1 := Lib.hid hbx
  have HB1 := Lib.hid hb1
  have HG1 := Lib.hid (HG.out W1 hb1)
  clear hS1 hbx hb1
  have HSB : Hid (∀ W, Below W1.heap.size W1 W → Boxes w W) := Lib.hid (fun W hb => boxes_keep HX1.out hb)
  have HOF : Hid (∀ (n : Int) W, Below W1.heap.size W1 W → Calls Tryz.prog 44 #[.int .i64 n] W fun e w' => e = .returned (.agg #[.int .i64 1, .int .i64 n, .int .u64 0, .string ⟨#[]⟩]) ∧ Below W1.heap.size W1 w') := Lib.hid (fun n W hb => (of_any n W).mono fun e w' ⟨he, hb'⟩ => ⟨he, hb.trans (hb'.mono hb.size)⟩)
  have HBY : Hid (∀ (s : ByteArray) W, Below W1.heap.size W1 W → Calls Tryz.prog 45 #[.string s] W fun e w' => e = .returned (.agg #[.int .i64 4, .int .i64 0, .int .u64 0, .string s]) ∧ Below W1.heap.size W1 w') := Lib.hid (fun n W hb => (bytes_any n W).mono fun e w' ⟨he, hb'⟩ => ⟨he, hb.trans (hb'.mono hb.size)⟩)
  have HP1 : Hid (∀ W, Below W1.heap.size W1 W → Calls Tryz.prog 14 #[.agg #[.slice (some ⟨w.heap.size, 0, none⟩) 2 2, .slice (some ⟨w.heap.size + 1, 0, none⟩) 1 1, .slice none 0 0], .string ⟨#[98]⟩] W fun e w' => e = .returned (.tuple #[.int .i64 1, .bool true]) ∧ Below W1.heap.size W1 w') := Lib.hid (fun W hb => (Place_any (p0 w.heap.size) s0 ⟨#[98]⟩ W (by decide) (HS1.out.keep hb (Nat.le_refl _))).mono fun e w' ⟨he, hb'⟩ => ⟨by rw [show firstC s0.cols ⟨#[98]⟩ = 1 by decide +kernel] at he; exact he, hb.trans (hb'.mono hb.size)⟩)
  have HP2 : Hid (∀ W, Below W1.heap.size W1 W → Calls Tryz.prog 14 #[.agg #[.slice (some ⟨w.heap.size, 0, none⟩) 2 2, .slice (some ⟨w.heap.size + 1, 0, none⟩) 1 1, .slice none 0 0], .string ⟨#[99]⟩] W fun e w' => e = .returned (.tuple #[.int .i64 0, .bool false]) ∧ Below W1.heap.size W1 w') := Lib.hid (fun W hb => (Place_any (p0 w.heap.size) s0 ⟨#[99]⟩ W (by decide) (HS1.out.keep hb (Nat.le_refl _))).mono fun e w' ⟨he, hb'⟩ => ⟨by rw [show firstC s0.cols ⟨#[99]⟩ = -1 by decide +kernel] at he; exact he, hb.trans (hb'.mono hb.size)⟩)
  have HPK : Hid (∀ W b b', Below W1.heap.size W1 W → ValsIn W (some ⟨b, 0, none⟩) [vI 1, vB ⟨#[2]⟩] → IntsIn W (some ⟨b', 0, none⟩) [1, 0] → Calls Tryz.prog 26 #[.slice (some ⟨b, 0, none⟩) 2 2, .slice (some ⟨b', 0, none⟩) 2 2] W fun e w' => ∃ q, e = .returned (.tuple #[.slice (some ⟨q, 0, none⟩) 2 2, .int .i64 0]) ∧ ValsIn w' (some ⟨q, 0, none⟩) [vB ⟨#[2]⟩, vI 1] ∧ Below W1.heap.size W1 w') := Lib.hid (fun W b b' hb hv hi => (SPick_any (some ⟨b, 0, none⟩) 2 [vI 1, vB ⟨#[2]⟩] (some ⟨b', 0, none⟩) 2 [1, 0] W (HG1.out.below hb HG1.out.lt) (by decide) (by decide) hv hi).mono fun e w' h => by
    rcases h with ⟨_, ⟨q, he, hq⟩, hb'⟩ | ⟨hin, _⟩
    · exact ⟨q, he, hq, hb.trans (hb'.mono hb.size)⟩
    · exact absurd hin (by decide))
  obtain ⟨x0, x1, x2, y0, y1, y2, y3, z⟩ := HSB.out W1 (Below.refl _ _)
  have hb := Below.refl W1.heap.size W1
  have hsz := hb.size
  go_wp2_with (first | (go_at_call 14; (with_reducible refine (HP1.out _ (by go_grown)).mono ?_); rintro e w' ⟨rfl, hb⟩; obtain ⟨x0, x1, x2, y0, y1, y2, y3, z⟩ := HSB.out _ hb; have hsz := hb.size) | (go_at_call 14; (with_reducible refine (HP2.out _ (by go_grown)).mono ?_); rintro e w' ⟨rfl, hb⟩; obtain ⟨x0, x1, x2, y0, y1, y2, y3, z⟩ := HSB.out _ hb; have hsz := hb.size) | (go_at_call 44; refine (HOF.out _ _ (by go_grown)).mono ?_; rintro e w' ⟨rfl, hb⟩; obtain ⟨x0, x1, x2, y0, y1, y2, y3, z⟩ := HSB.out _ hb; have hsz := hb.size) | (go_at_call 45; refine (HBY.out _ _ (by go_grown)).mono ?_; rintro e w' ⟨rfl, hb⟩; obtain ⟨x0, x1, x2, y0, y1, y2, y3, z⟩ := HSB.out _ hb; have hsz := hb.size) | (go_at_call 16; refine (l3num_any _ _).mono ?_; rintro e w' ⟨rfl, rfl⟩))
  refine (HPK.out _ _ _ ?_ ?_ ?_).mono ?_
  · go_grown
  · exact vals2 ⟨by simp [go_sem, vI], by simp [go_sem, vI], by simp [go_sem, vI], by simp [go_sem, vI]⟩ ⟨by simp [go_sem, vB], by simp [go_sem, vB], by simp [go_sem, vB], by simp [go_sem, vB]⟩
  · exact ints2 (by simp [go_sem]) (by simp [go_sem])
  rintro e w2 ⟨q, rfl, hq, hb2⟩
  have HX2 := Lib.hid (boxes_keep HX1.out hb2)
  have HS2 := Lib.hid (HS1.out.keep hb2 (Nat.le_refl _))
  have HG2 := Lib.hid (HG1.out.below hb2 HG1.out.lt)
  have HB2 := Lib.hid (HB1.out.trans (hb2.mono HB1.out.size))
  have HQ2 := Lib.hid hq
  clear x0 x1 x2 y0 y1 y2 y3 z hb hsz hb2 hq HSB HOF HBY HP1 HP2 HPK
  have hnm : ∀ c ∈ s0.cols, c.n.size ≤ 9223372036854775807 := by decide
  have HSB : Hid (∀ W, Below w2.heap.size w2 W → Boxes w W) := Lib.hid (fun W hb => boxes_keep HX2.out hb)
  have HOF : Hid (∀ (n : Int) W, Below w2.heap.size w2 W → Calls Tryz.prog 44 #[.int .i64 n] W fun e w' => e = .returned (.agg #[.int .i64 1, .int .i64 n, .int .u64 0, .string ⟨#[]⟩]) ∧ Below w2.heap.size w2 w') := Lib.hid (fun n W hb => (of_any n W).mono fun e w' ⟨he, hb'⟩ => ⟨he, hb.trans (hb'.mono hb.size)⟩)
  have HBY : Hid (∀ (s : ByteArray) W, Below w2.heap.size w2 W → Calls Tryz.prog 45 #[.string s] W fun e w' => e = .returned (.agg #[.int .i64 4, .int .i64 0, .int .u64 0, .string s]) ∧ Below w2.heap.size w2 w') := Lib.hid (fun n W hb => (bytes_any n W).mono fun e w' ⟨he, hb'⟩ => ⟨he, hb.trans (hb'.mono hb.size)⟩)
  have HRW : ∀ (l : List Vl) (n : Int), l.length ≤ 1000 → rowN s0 l = n → Hid (∀ W b, Below w2.heap.size w2 W → ValsIn W (some ⟨b, 0, none⟩) l → Calls Tryz.prog 25 #[.agg #[.slice (some ⟨w.heap.size, 0, none⟩) 2 2, .slice (some ⟨w.heap.size + 1, 0, none⟩) 1 1, .slice none 0 0], .slice (some ⟨b, 0, none⟩) l.length l.length] W fun e w' => e = .returned (.int .i64 n) ∧ Below w2.heap.size w2 w') := fun l n hl hn => Lib.hid (fun W b hb hv => (SRow_any (p0 w.heap.size) s0 (some ⟨b, 0, none⟩) l.length l W (HG2.out.below hb HG2.out.lt) hnm (by decide) (by decide) (HS2.out.keep hb (Nat.le_refl _)) hl hv).mono fun e w' ⟨he, hb'⟩ => ⟨by rw [he, hn], hb.trans (hb'.mono hb.size)⟩)
  have R1 : Hid (∀ W b, Below w2.heap.size w2 W → ValsIn W (some ⟨b, 0, none⟩) [vI 127, v0] → Calls Tryz.prog 25 #[.agg #[.slice (some ⟨w.heap.size, 0, none⟩) 2 2, .slice (some ⟨w.heap.size + 1, 0, none⟩) 1 1, .slice none 0 0], .slice (some ⟨b, 0, none⟩) 2 2] W fun e w' => e = .returned (.int .i64 0) ∧ Below w2.heap.size w2 w') := HRW [vI 127, v0] 0 (by decide) (by decide +kernel)
  have R2 : Hid (∀ W b, Below w2.heap.size w2 W → ValsIn W (some ⟨b, 0, none⟩) [vI 128, v0] → Calls Tryz.prog 25 #[.agg #[.slice (some ⟨w.heap.size, 0, none⟩) 2 2, .slice (some ⟨w.heap.size + 1, 0, none⟩) 1 1, .slice none 0 0], .slice (some ⟨b, 0, none⟩) 2 2] W fun e w' => e = .returned (.int .i64 133) ∧ Below w2.heap.size w2 w') := HRW [vI 128, v0] 133 (by decide) (by decide +kernel)
  have R3 : Hid (∀ W b, Below w2.heap.size w2 W → ValsIn W (some ⟨b, 0, none⟩) [v0, v0] → Calls Tryz.prog 25 #[.agg #[.slice (some ⟨w.heap.size, 0, none⟩) 2 2, .slice (some ⟨w.heap.size + 1, 0, none⟩) 1 1, .slice none 0 0], .slice (some ⟨b, 0, none⟩) 2 2] W fun e w' => e = .returned (.int .i64 131) ∧ Below w2.heap.size w2 w') := HRW [v0, v0] 131 (by decide) (by decide +kernel)
  have R4 : Hid (∀ W b, Below w2.heap.size w2 W → ValsIn W (some ⟨b, 0, none⟩) [vI 1] → Calls Tryz.prog 25 #[.agg #[.slice (some ⟨w.heap.size, 0, none⟩) 2 2, .slice (some ⟨w.heap.size + 1, 0, none⟩) 1 1, .slice none 0 0], .slice (some ⟨b, 0, none⟩) 1 1] W fun e w' => e = .returned (.int .i64 130) ∧ Below w2.heap.size w2 w') := HRW [vI 1] 130 (by decide) (by decide +kernel)
  have R5 : Hid (∀ W b, Below w2.heap.size w2 W → ValsIn W (some ⟨b, 0, none⟩) [vI 1, vI 2] → Calls Tryz.prog 25 #[.agg #[.slice (some ⟨w.heap.size, 0, none⟩) 2 2, .slice (some ⟨w.heap.size + 1, 0, none⟩) 1 1, .slice none 0 0], .slice (some ⟨b, 0, none⟩) 2 2] W fun e w' => e = .returned (.int .i64 132) ∧ Below w2.heap.size w2 w') := HRW [vI 1, vI 2] 132 (by decide) (by decide +kernel)
  have HSM : Hid (∀ W b, Below w2.heap.size w2 W → ValsIn W (some ⟨b, 0, none⟩) [vB ⟨#[2]⟩, vI 1] → Calls Tryz.prog 36 #[.slice (some ⟨q, 0, none⟩) 2 2, .slice (some ⟨b, 0, none⟩) 2 2] W fun e w' => e = .returned (.bool true) ∧ Below w2.heap.size w2 w') := Lib.hid (fun W b hb h2 => (rSame_any (.slice (some ⟨q, 0, none⟩) 2 2) (.slice (some ⟨b, 0, none⟩) 2 2) [vB ⟨#[2]⟩, vI 1] [vB ⟨#[2]⟩, vI 1] W ((HQ2.out.keep hb (Nat.le_refl _)).sl (cap := 2) (by decide)) (h2.sl (cap := 2) (by decide)) (by decide) (by decide)).mono fun e w' ⟨he, hb'⟩ => ⟨by rw [show lists [vB ⟨#[2]⟩, vI 1] [vB ⟨#[2]⟩, vI 1] = 0 by decide +kernel] at he; exact he, hb.trans (hb'.mono hb.size)⟩)
  clear hnm HRW
  obtain ⟨x0, x1, x2, y0, y1, y2, y3, z⟩ := HSB.out w2 (Below.refl _ _)
  have hb := Below.refl w2.heap.size w2
  have hsz := hb.size
  go_wp2_with (first | (go_at_call 44; refine (HOF.out _ _ (by go_grown)).mono ?_; rintro e w' ⟨rfl, hb⟩; obtain ⟨x0, x1, x2, y0, y1, y2, y3, z⟩ := HSB.out _ hb; have hsz := hb.size) | (go_at_call 45; refine (HBY.out _ _ (by go_grown)).mono ?_; rintro e w' ⟨rfl, hb⟩; obtain ⟨x0, x1, x2, y0, y1, y2, y3, z⟩ := HSB.out _ hb; have hsz := hb.size) | (go_at_call 16; refine (l3num_any _ _).mono ?_; rintro e w' ⟨rfl, rfl⟩))
  simp only [List.append_eq, List.cons_append, List.nil_append]
  go_region_held3 (fun w' => w'.cell? ⟨w.heap.size + 1 + 1, 0, none⟩ = some (.slice (some ⟨w.heap.size, 0, none⟩) 2 2) ∧ w'.cell? ⟨w.heap.size + 1 + 1, 1, none⟩ = some (.slice (some ⟨w.heap.size + 1, 0, none⟩) 1 1) ∧ w'.cell? ⟨w.heap.size + 1 + 1, 2, none⟩ = some (.slice none 0 0) ∧ w'.cell? ⟨w.heap.size + 1 + 1 + 1, 0, none⟩ = some (.int .i64 0) ∧ w'.cell? ⟨w.heap.size + 1 + 1 + 1, 1, none⟩ = some (.int .i64 0) ∧ w'.cell? ⟨w.heap.size + 1 + 1 + 1, 2, none⟩ = some (.int .u64 0) ∧ w'.cell? ⟨w.heap.size + 1 + 1 + 1, 3, none⟩ = some (.string ⟨#[]⟩) ∧ w2.heap.size ≤ w'.heap.size ∧ Below w2.heap.size w2 w') (first | (exact sOf HX2.out hb3) | (refine sOf HX2.out ?_; (first | assumption | (simp only [*]; done) | go_grown | (have hszz := hb3.size; go_grown))))
    (first | (go_at_call 44; refine (HOF.out _ _ ?_).mono ?_; (first | (exact hb3) | (exact hb3.alloc hb3.size _) | assumption | (simp only [*]; done) | go_grown); rintro e w3 ⟨rfl, hb3⟩) | (go_at_call 45; refine (HBY.out _ _ ?_).mono ?_; (first | (exact hb3) | (exact hb3.alloc hb3.size _) | assumption | (simp only [*]; done) | go_grown); rintro e w3 ⟨rfl, hb3⟩) | (go_at_call 16; refine (l3num_any _ _).mono ?_; rintro e w' ⟨rfl, rfl⟩) | (go_at_call 36; (with_reducible refine (HSM.out _ _ ?_ ?_).mono ?_); (first | (exact hb3) | (exact hb3.alloc hb3.size _) | assumption | (simp only [*]; done) | go_grown); (refine vals2 ⟨?_, ?_, ?_, ?_⟩ ⟨?_, ?_, ?_, ?_⟩); (focus (simp [go_sem, vB]; done)); (focus (simp [go_sem, vB]; done)); (focus (simp [go_sem, vB]; done)); (focus (simp [go_sem, vB]; done)); (focus (simp [go_sem, vI]; done)); (focus (simp [go_sem, vI]; done)); (focus (simp [go_sem, vI]; done)); (focus (simp [go_sem, vI]; done)); rintro e w3 ⟨rfl, hb3⟩) | (go_at_call 25; (with_reducible refine (R4.out _ _ ?_ ?_).mono ?_); (first | (exact hb3) | (exact hb3.alloc hb3.size _) | assumption | (simp only [*]; done) | go_grown); (refine vals1 ⟨?_, ?_, ?_, ?_⟩); (focus (simp [go_sem, vI]; done)); (focus (simp [go_sem, vI]; done)); (focus (simp [go_sem, vI]; done)); (focus (simp [go_sem, vI]; done)); rintro e w3 ⟨rfl, hb3⟩) | (go_at_call 25; (with_reducible refine (R1.out _ _ ?_ ?_).mono ?_); (first | (exact hb3) | (exact hb3.alloc hb3.size _) | assumption | (simp only [*]; done) | go_grown); (refine vals2 ⟨?_, ?_, ?_, ?_⟩ ⟨?_, ?_, ?_, ?_⟩); (focus (simp [go_sem, vI]; done)); (focus (simp [go_sem, vI]; done)); (focus (simp [go_sem, vI]; done)); (focus (simp [go_sem, vI]; done)); (focus (simp [go_sem, v0]; done)); (focus (simp [go_sem, v0]; done)); (focus (simp [go_sem, v0]; done)); (focus (simp [go_sem, v0]; done)); rintro e w3 ⟨rfl, hb3⟩) | (go_at_call 25; (with_reducible refine (R2.out _ _ ?_ ?_).mono ?_); (first | (exact hb3) | (exact hb3.alloc hb3.size _) | assumption | (simp only [*]; done) | go_grown); (refine vals2 ⟨?_, ?_, ?_, ?_⟩ ⟨?_, ?_, ?_, ?_⟩); (focus (simp [go_sem, vI]; done)); (focus (simp [go_sem, vI]; done)); (focus (simp [go_sem, vI]; done)); (focus (simp [go_sem, vI]; done)); (focus (simp [go_sem, v0]; done)); (focus (simp [go_sem, v0]; done)); (focus (simp [go_sem, v0]; done)); (focus (simp [go_sem, v0]; done)); rintro e w3 ⟨rfl, hb3⟩) | (go_at_call 25; (with_reducible refine (R3.out _ _ ?_ ?_).mono ?_); (first | (exact hb3) | (exact hb3.alloc hb3.size _) | assumption | (simp only [*]; done) | go_grown); (refine vals2 ⟨?_, ?_, ?_, ?_⟩ ⟨?_, ?_, ?_, ?_⟩); (focus (simp [go_sem, v0]; done)); (focus (simp [go_sem, v0]; done)); (focus (simp [go_sem, v0]; done)); (focus (simp [go_sem, v0]; done)); (focus (simp [go_sem, v0]; done)); (focus (simp [go_sem, v0]; done)); (focus (simp [go_sem, v0]; done)); (focus (simp [go_sem, v0]; done)); rintro e w3 ⟨rfl, hb3⟩) | (go_at_call 25; (with_reducible refine (R5.out _ _ ?_ ?_).mono ?_); (first | (exact hb3) | (exact hb3.alloc hb3.size _) | assumption | (simp only [*]; done) | go_grown); (refine vals2 ⟨?_, ?_, ?_, ?_⟩ ⟨?_, ?_, ?_, ?_⟩); (focus (simp [go_sem, vI]; done)); (focus (simp [go_sem, vI]; done)); (focus (simp [go_sem, vI]; done)); (focus (simp [go_sem, vI]; done)); (focus (simp [go_sem, vI]; done)); (focus (simp [go_sem, vI]; done)); (focus (simp [go_sem, vI]; done)); (focus (simp [go_sem, vI]; done)); rintro e w3 ⟨rfl, hb3⟩))
  all_goals go_wp2_with fail
  all_goals go_ret
  all_goals exact ⟨rfl, HB2.out.trans ((show Below w2.heap.size w2 _ from by first | exact hb3 | exact hb3.alloc hb3.size _ | go_grown).mono HB2.out.size)⟩
end Go.Proofs.YtkiolfffophjcaaGreatDoor
