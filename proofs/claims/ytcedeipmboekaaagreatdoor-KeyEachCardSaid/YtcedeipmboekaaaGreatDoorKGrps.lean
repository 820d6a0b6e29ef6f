/-
  key: groups are read.
-/
import Derived.Test.YtcedeipmboekaaaGreatDoorKVal
import Derived.Test.YtcedeipmboekaaaGreatDoorBelowQ
import Derived.WideKeyRuns
import Derived.Lib.SliceRun
import Derived.Lib.BufferWrite
namespace Go.Proofs.YtcedeipmboekaaaGreatDoor
open Go.RowKit

theorem own_noneK (W : World) (B : Nat) (hB : B ≤ W.heap.size) : (W.alloc (.cells #[] 5)).ownsRow B 5 1 (.slice (some ⟨W.heap.size, 0, none⟩) 0 0) 0 (u8s []) := World.ownsRow_made W #[] 0 hB (by decide) (by simp)
set_option maxRecDepth 100000 in
set_option maxHeartbeats 1000000 in
theorem qClone_any (ad : Addr) (cap : Nat) (l : List UInt8) (w : World) (hv : BytesOf w (.slice (some ad) l.length cap) l) (hl : l.length ≤ 900000) :
    Calls Tryz.prog 96 #[.slice (some ad) l.length cap] w fun e w' => ∃ oa c, e = .returned (.slice oa l.length c) ∧ w'.ownsRow w.heap.size 5 1 (.slice oa l.length c) l.length (u8s l) ∧ Below w.heap.size w w' := by
  have q23 : ∀ (w : World) (a : Option Addr) (n c n' c' : Nat), (binOp .eql 55 (.slice a n c) (.slice none n' c')).run Tryz.prog w = .ok (.bool a.isNone) w := fun w a n c n' c' => Lib.run_eql_slice_nil w _ _ a n c n' c' Tryz.underlying55
  have HV := Lib.hid hv
  clear hv
  go_enter Tryz.func96, Tryz.ntmps96
  go_wp2_with (first | (at_builtin; refine wpList_append_bytes rfl _ _ rfl w.heap.size _ (.slice (some ad) l.length cap) 0 [] l rfl rfl (own_noneK w w.heap.size (Nat.le_refl _)) rfl (HV.out.keep ((Below.refl _ _).alloc (Nat.le_refl _) _) (Nat.le_refl _)) ?c1 ?c2 ?_))
  case c1 => omega
  case c2 => simp
  intro v2 w2 hown2 hg2
  have hb2 : Below w.heap.size w w2 := ((Below.refl _ _).alloc (Nat.le_refl _) (.cells #[] 5)).grown hg2 (by simp) (fun x hx => by cases hx; exact Nat.le_refl _)
  obtain ⟨oa, c, rfl⟩ := own_slice hown2
  have HR := Lib.hid (And.intro hown2 hb2)
  clear hown2 hg2 hb2
  go_wp2
  go_ret
  exact ⟨_, _, rfl, HR.out.1, HR.out.2⟩

theorem int_eqK (d : Nat) (a c : UInt8) (W : World) : (Op.equalIn (d + 1) 5 (.int .u8 (a.toNat : Int)) (.int .u8 (c.toNat : Int))).run Tryz.prog W = .ok (a == c) W := by
  have e : ((a.toNat : Int) == (c.toNat : Int)) = (a == c) := by
    rw [Bool.eq_iff_iff, beq_iff_eq, beq_iff_eq]
    constructor
    · intro h; exact UInt8.toNat_inj.1 (by omega)
    · intro h; rw [h]
  simp [Op.equalIn, run_underlying Tryz.underlying5, e]
theorem kindU8 : Tryz.prog.plainKey 5 = true := by kernel_rfl
theorem cellU8 : Tryz.prog.cellsOf 5 = 1 := by kernel_rfl
theorem eqItems_u8 (d : Nat) (xs ys : Array Value) (f g : Nat → UInt8) (W : World) : ∀ is : List Nat, (∀ j ∈ is, xs[j]? = some (.int .u8 ((f j).toNat : Int)) ∧ ys[j]? = some (.int .u8 ((g j).toNat : Int))) → (Op.eqItems (d + 1) 5 1 xs ys is).run Tryz.prog W = .ok (is.all fun j => f j == g j) W
  | [], _ => rfl
  | j :: is, h => by
    obtain ⟨h1, h2⟩ := h j (List.mem_cons_self ..)
    have ih := eqItems_u8 d xs ys f g W is (fun k hk => h k (List.mem_cons_of_mem _ hk))
    have p1 : (part 5 xs (j * 1)).run Tryz.prog W = .ok (.int .u8 ((f j).toNat : Int)) W := run_part_plain W kindU8 (by rw [Nat.mul_one]; exact h1)
    have p2 : (part 5 ys (j * 1)).run Tryz.prog W = .ok (.int .u8 ((g j).toNat : Int)) W := run_part_plain W kindU8 (by rw [Nat.mul_one]; exact h2)
    simp only [Op.eqItems, Sem.run_bind, p1, p2, int_eqK, Result.andThen_ok, List.all_cons]
    cases f j == g j
    · simp
    · simpa using ih
def grpEq (G H : List UInt8) : Bool := (List.range 9).all fun j => G.getD j 0 == H.getD j 0
theorem gcells_at (G : List UInt8) : ∀ j ∈ List.range 9, (gcells G)[j]? = some (.int .u8 ((G.getD j 0).toNat : Int)) := by
  intro j hj
  rw [List.mem_range] at hj
  rcases (show j = 0 ∨ j = 1 ∨ j = 2 ∨ j = 3 ∨ j = 4 ∨ j = 5 ∨ j = 6 ∨ j = 7 ∨ j = 8 by omega) with rfl | rfl | rfl | rfl | rfl | rfl | rfl | rfl | rfl <;> rfl
theorem neq9 (G H : List UInt8) (W : World) : (binOp .neq 111 (.agg (gcells G)) (.agg (gcells H))).run Tryz.prog W = .ok (.bool (!grpEq G H)) W := by
  obtain ⟨i, hi, _⟩ := info_parts infoU8
  have h : (Op.equal 111 (.agg (gcells G)) (.agg (gcells H))).run Tryz.prog W = .ok (grpEq G H) W := by
    refine (run_equalIn_array W 9999 (gcells G) (gcells H) Tryz.underlying111 hi).trans ?_
    rw [cellU8]
    exact eqItems_u8 9998 _ _ (fun j => G.getD j 0) (fun j => H.getD j 0) W _ (fun j hj => ⟨gcells_at G j hj, gcells_at H j hj⟩)
  simp [binOp, h]
theorem grpEq_iff {G H : List UInt8} (hG : G.length = 9) (hH : H.length = 9) : grpEq G H = true ↔ G = H := by
  unfold grpEq
  rw [List.all_eq_true]
  constructor
  · intro h
    refine List.ext_getElem (by omega) (fun j h1 h2 => ?_)
    have := h j (by rw [List.mem_range]; omega)
    rw [beq_iff_eq, List.getD_eq_getElem?_getD, List.getD_eq_getElem?_getD, List.getElem?_eq_getElem h1, List.getElem?_eq_getElem h2] at this
    exact this
  · rintro rfl j _
    simp
end Go.Proofs.YtcedeipmboekaaaGreatDoor
namespace Go.Proofs.YtcedeipmboekaaaGreatDoor
open Go.RowKit

/-- may these nine bytes be a group? -/
def grpOk (row : List UInt8) : Bool := decide ((row.getD 8 0).toNat ≤ 9) && grpEq row (grpL (row.take (min 8 (row.getD 8 0).toNat)) (row.getD 8 0))
/-- what group tells -/
def GPost (w : World) (R m : Nat) (s : ByteArray) (i : Nat) (e : Ending) (w' : World) : Prop :=
  if 9 ≤ s.size - i ∧ grpOk (cutS s i 9) = true then
    ∃ oa c, e = .returned (.tuple #[.slice oa ((cutS s i 9).take (min 8 ((cutS s i 9).getD 8 0).toNat)).length c, .bool (((cutS s i 9).getD 8 0).toNat == 9)]) ∧ w'.ownsRow w.heap.size 5 1 (.slice oa ((cutS s i 9).take (min 8 ((cutS s i 9).getD 8 0).toNat)).length c) ((cutS s i 9).take (min 8 ((cutS s i 9).getD 8 0).toNat)).length (u8s ((cutS s i 9).take (min 8 ((cutS s i 9).getD 8 0).toNat))) ∧ RdK w' R m s (i + 9) ∧ w.grownBy w' (some R)
  else KGone w R e w'
abbrev z9a : Array Value := #[.int .u8 0, .int .u8 0, .int .u8 0, .int .u8 0, .int .u8 0, .int .u8 0, .int .u8 0, .int .u8 0, .int .u8 0]
set_option maxRecDepth 100000 in
set_option maxHeartbeats 2000000 in
theorem qgroup_short (R m : Nat) (s : ByteArray) (i : Nat) (w : World) (hr : RdK w R m s i) (hs : s.size ≤ 1000000) (hi : i ≤ s.size) (h9 : s.size < i + 9) :
    Calls Tryz.prog 66 #[.pointer (some ⟨R, 0, none⟩)] w (KGone w R) := by
  have HT := Lib.hid (qtake_no R m s i 9 (w.alloc (.cells z9a 111)).drew ((hr.alloc _).keep (Below.refl _ _).drew) hs hi (by decide) h9)
  clear hr
  go_enter Tryz.func66, Tryz.ntmps66
  go_wp2_with fail
  refine (wpIn_wide (n := 5)).1 ?_
  refine wpIn_region_any (by kernel_rfl) ?_
  change wpAnyIn _ _ _ _ _ _ _ _ _ (World.drew _)
  refine wpAnyInK_two 0 1 (by kernel_rfl) ?_ ?_
  · unfold wpOpIn
    go_simp
    refine wpAnyInK_one 1 (by kernel_rfl) ?_
    unfold wpOpIn
    go_simp
    refine wpAnyInK_one 2 (by kernel_rfl) ?_
    unfold wpOpIn
    go_simp
    refine ⟨trivial, (callsIn_wide.2 HT.out).mono ?_⟩
    rintro e w1 ⟨⟨t, rfl⟩, hg⟩
    exact ⟨rfl, ⟨_, rfl⟩, ((World.grownBy_alloc w (.cells z9a 111) (some R)).trans (show (w.alloc (.cells z9a 111)).grownBy (w.alloc (.cells z9a 111)).drew (some R) from kgrown_drewN _ 1 _)).trans hg⟩
  · unfold wpOpIn
    go_simp
    refine wpAnyInK_two 0 2 (by kernel_rfl) ?_ ?_
    · unfold wpOpIn
      go_simp
      refine wpAnyInK_one 2 (by kernel_rfl) ?_
      unfold wpOpIn
      go_simp
      refine ⟨trivial, (callsIn_wide.2 HT.out).mono ?_⟩
      rintro e w1 ⟨⟨t, rfl⟩, hg⟩
      exact ⟨rfl, ⟨_, rfl⟩, ((World.grownBy_alloc w (.cells z9a 111) (some R)).trans (show (w.alloc (.cells z9a 111)).grownBy (w.alloc (.cells z9a 111)).drew (some R) from kgrown_drewN _ 1 _)).trans hg⟩
    · unfold wpOpIn
      go_simp
      refine ⟨trivial, (callsIn_wide.2 HT.out).mono ?_⟩
      rintro e w1 ⟨⟨t, rfl⟩, hg⟩
      exact ⟨rfl, ⟨_, rfl⟩, ((World.grownBy_alloc w (.cells z9a 111) (some R)).trans (show (w.alloc (.cells z9a 111)).grownBy (w.alloc (.cells z9a 111)).drew (some R) from kgrown_drewN _ 1 _)).trans hg⟩
/-- the row behind the copy -/
structure Copied (w : World) (R m : Nat) (s t : ByteArray) (i : Nat) (a b c d e f g h j : UInt8) (w1 w2 : World) : Prop where
  run : (Builtin.copy_ #[55, 87] 3 #[.slice (some ⟨w.heap.size, 0, none⟩) 9 9, .string t]).run Tryz.prog w1 = .ok (.int .i64 9) w2
  row : Row9 w2 w.heap.size a b c d e f g h j
  size : w.heap.size < w2.heap.size
  rd : RdK w2 R m s (i + 9)
  grown : w.grownBy w2 (some R)
theorem copied {w w1 : World} {R m i : Nat} {s t : ByteArray} {e' : Ending} {a b c d e f g h j : UInt8} (hR : R < w.heap.size) (hM : m < w.heap.size) (htl : t.data.toList = [a, b, c, d, e, f, g, h, j]) (hk : KGot (w.alloc (.cells z9a 111)).drew R m s (i + 9) (.string t) e' w1) : e' = .returned (.string t) ∧ ∃ w2, Copied w R m s t i a b c d e f g h j w1 w2 := by
  obtain ⟨rfl, hr1, hg1⟩ := hk
  have hts : t.size = 9 := by
    have : t.data.toList.length = 9 := by rw [htl]; rfl
    rw [Array.length_toList] at this
    exact this
  have hz : w1.heap[w.heap.size]? = some (.cells z9a 111 (0, 0)) := (hg1.block w.heap.size (by show w.heap.size < (w.alloc _).heap.size; simp) (fun e0 => by cases e0; omega)).trans (heap_alloc_at w (.cells z9a 111))
  have hrun := Lib.run_copy_row_string (P := Tryz.prog) w1 55 87 3 5 w.heap.size 0 9 9 t z9a 111 Tryz.underlying55 info1 hz (by omega) (by rw [hts]; decide)
  rw [hts, htl] at hrun
  have hset := setRow_heap w1 w.heap.size z9a (z9a.toList.take 0 ++ Lib.byteCells [a, b, c, d, e, f, g, h, j] ++ z9a.toList.drop (0 + 9)).toArray 111 (0, 0) hz
  have hrow : Row9 _ w.heap.size a b c d e f g h j := Row9.of (t := 111) hset
  have q : ∀ _ : Nat, (w1.setRow w.heap.size (z9a.toList.take 0 ++ Lib.byteCells [a, b, c, d, e, f, g, h, j] ++ z9a.toList.drop (0 + 9)).toArray).heap[R]? = w1.heap[R]? := fun _ => setRow_other _ _ _ _ (by omega)
  refine ⟨rfl, _, hrun, hrow, (Array.getElem?_eq_some_iff.1 hset).1, ?_, ?_⟩
  · exact ⟨(World.cell?_of_block (a := ⟨R, 0, none⟩) (q 0)).trans hr1.bytes, (World.cell?_of_block (a := ⟨R, 1, none⟩) (q 0)).trans hr1.pos, (World.cell?_of_block (a := ⟨R, 2, none⟩) (q 0)).trans hr1.kinds, (World.frozen?_of_block (a := ⟨R, 1, none⟩) (q 0)).trans hr1.free, (setRow_other _ _ _ _ (by omega)).trans hr1.map, hr1.ne⟩
  · have hg0 : w.grownBy w1 (some R) := ((World.grownBy_alloc w (.cells z9a 111) (some R)).trans (show (w.alloc (.cells z9a 111)).grownBy (w.alloc (.cells z9a 111)).drew (some R) from kgrown_drewN _ 1 _)).trans hg1
    exact ⟨hg0.os, hg0.tape, hg0.output, by simp only [World.setRow, Array.size_modify]; exact hg0.size, fun k hk hr => (setRow_other _ _ _ _ (by omega)).trans (hg0.block k hk hr)⟩
theorem slice9 (m8 : Nat) (hm : m8 ≤ 8) (g : Nat) (W : World) : (Instr.sliceAt 111 (.pointer (some ⟨g, 0, none⟩)) none (some (.int .u8 (m8 : Int))) none).run Tryz.prog W = .ok (.slice (some ⟨g, 0, none⟩) m8 9) W := by
  rcases (show m8 = 0 ∨ m8 = 1 ∨ m8 = 2 ∨ m8 = 3 ∨ m8 = 4 ∨ m8 = 5 ∨ m8 = 6 ∨ m8 = 7 ∨ m8 = 8 by omega) with rfl | rfl | rfl | rfl | rfl | rfl | rfl | rfl | rfl <;> kernel_rfl
theorem row9_take {w : World} {G m8 : Nat} {a b c d e f g h j : UInt8} (r : Row9 w G a b c d e f g h j) (hm : m8 ≤ 8) : BytesOf w (.slice (some ⟨G, 0, none⟩) ([a, b, c, d, e, f, g, h, j].take m8).length 9) ([a, b, c, d, e, f, g, h, j].take m8) := by
  rcases row9_bytes r with ⟨h0, _⟩ | ⟨ad, cap, h1, _, hc⟩
  · cases h0
  · simp only [List.length_cons, List.length_nil, Nat.zero_add, Nat.reduceAdd, Value.slice.injEq, Option.some.injEq, true_and] at h1
    obtain ⟨rfl, rfl⟩ := h1
    refine .inr ⟨_, 9, rfl, by rw [List.length_take]; show min m8 9 ≤ 9; omega, fun k hk => ?_⟩
    have hk' : k < 9 := by rw [List.length_take] at hk; have : [a, b, c, d, e, f, g, h, j].length = 9 := rfl; omega
    have := hc k hk'
    rw [List.getElem_take]
    exact this
set_option maxRecDepth 100000 in
set_option maxHeartbeats 2000000 in
theorem qgroup_big (R m : Nat) (s : ByteArray) (i : Nat) (w : World) (hr : RdK w R m s i) (hs : s.size ≤ 1000000) (h9 : i + 9 ≤ s.size) (a b c d e f g h j : UInt8) (hl : cutS s i 9 = [a, b, c, d, e, f, g, h, j]) (hj : 9 < j.toNat) :
    Calls Tryz.prog 66 #[.pointer (some ⟨R, 0, none⟩)] w (KGone w R) := by
  have hR := hr.lt
  have hM := hr.mlt
  have HT := Lib.hid (qtake_yes R m s i 9 (w.alloc (.cells z9a 111)).drew ((hr.alloc _).keep (Below.refl _ _).drew) hs h9)
  rw [hl] at HT
  obtain ⟨t, ht⟩ : ∃ t : ByteArray, (⟨[a, b, c, d, e, f, g, h, j].toArray⟩ : ByteArray) = t := ⟨_, rfl⟩
  have HTL := Lib.hid (show t.data.toList = [a, b, c, d, e, f, g, h, j] by rw [← ht])
  rw [ht] at HT
  obtain ⟨m8, hm8⟩ : ∃ m8, min 8 j.toNat = m8 := ⟨_, rfl⟩
  have HM8 := Lib.hid (show m8 ≤ 8 by omega)
  have HPL := Lib.hid (show ([a, b, c, d, e, f, g, h, j].take m8).length = m8 by rw [List.length_take]; show min m8 9 = m8; omega)
  have hmin : min ((j.toNat : Nat) : Int) 8 = (m8 : Int) := by omega
  have hm88 : m8 ≤ 8 := by omega
  have hsl := slice9 m8 hm88 w.heap.size
  have hd : decide ((9 : Int) < (j.toNat : Int)) = true := decide_eq_true (by omega)
  clear hr hl ht hm8
  go_enter Tryz.func66, Tryz.ntmps66
  go_wp2_with fail
  refine (wpIn_wide (n := 5)).1 ?_
  refine wpIn_region_any (by kernel_rfl) ?_
  change wpAnyIn _ _ _ _ _ _ _ _ _ (World.drew _)
  refine wpAnyInK_two 0 1 (by kernel_rfl) ?_ ?_
  · unfold wpOpIn
    go_simp
    refine wpAnyInK_one 1 (by kernel_rfl) ?_
    unfold wpOpIn
    go_simp
    refine wpAnyInK_one 2 (by kernel_rfl) ?_
    unfold wpOpIn
    go_simp
    refine ⟨trivial, (callsIn_wide.2 HT.out).mono ?_⟩
    rintro e' w1 hw1
    obtain ⟨rfl, w2, hcp⟩ := copied hR hM HTL.out hw1
    have hrun := hcp.run
    have HCP := Lib.hid hcp
    clear hw1 hcp
    refine wpAnyInK_one 3 (by kernel_rfl) ?_
    unfold wpOpIn
    go_simp
    refine ⟨by kernel_rfl, ?_⟩
    obtain ⟨c0, c1, c2, c3, c4, c5, c6, c7, c8, fr⟩ := HCP.out.row
    have hz2 := HCP.out.size
    have HCL := Lib.hid (qClone_any ⟨w.heap.size, 0, none⟩ 9 ([a, b, c, d, e, f, g, h, j].take m8) w2 (row9_take HCP.out.row HM8.out) (by rw [HPL.out]; omega))
    rw [HPL.out] at HCL
    clear hrun
    go_wp2_with fail
    refine HCL.out.mono ?_
    rintro e' w3 ⟨oa, cc, rfl, hown, hb3⟩
    have HO3 := Lib.hid hown
    have HB3 := Lib.hid hb3
    have r0 := (hb3.cell (p := ⟨w.heap.size, 0, none⟩) hz2).trans c0
    have r1 := (hb3.cell (p := ⟨w.heap.size, 1, none⟩) hz2).trans c1
    have r2 := (hb3.cell (p := ⟨w.heap.size, 2, none⟩) hz2).trans c2
    have r3 := (hb3.cell (p := ⟨w.heap.size, 3, none⟩) hz2).trans c3
    have r4 := (hb3.cell (p := ⟨w.heap.size, 4, none⟩) hz2).trans c4
    have r5 := (hb3.cell (p := ⟨w.heap.size, 5, none⟩) hz2).trans c5
    have r6 := (hb3.cell (p := ⟨w.heap.size, 6, none⟩) hz2).trans c6
    have r7 := (hb3.cell (p := ⟨w.heap.size, 7, none⟩) hz2).trans c7
    have r8 := (hb3.cell (p := ⟨w.heap.size, 8, none⟩) hz2).trans c8
    have l0 : ∀ p : Later w3, p.W.cell? ⟨w.heap.size, 0, none⟩ = some (.int .u8 (a.toNat : Int)) := later_cell r0
    have l1 : ∀ p : Later w3, p.W.cell? ⟨w.heap.size, 1, none⟩ = some (.int .u8 (b.toNat : Int)) := later_cell r1
    have l2 : ∀ p : Later w3, p.W.cell? ⟨w.heap.size, 2, none⟩ = some (.int .u8 (c.toNat : Int)) := later_cell r2
    have l3 : ∀ p : Later w3, p.W.cell? ⟨w.heap.size, 3, none⟩ = some (.int .u8 (d.toNat : Int)) := later_cell r3
    have l4 : ∀ p : Later w3, p.W.cell? ⟨w.heap.size, 4, none⟩ = some (.int .u8 (e.toNat : Int)) := later_cell r4
    have l5 : ∀ p : Later w3, p.W.cell? ⟨w.heap.size, 5, none⟩ = some (.int .u8 (f.toNat : Int)) := later_cell r5
    have l6 : ∀ p : Later w3, p.W.cell? ⟨w.heap.size, 6, none⟩ = some (.int .u8 (g.toNat : Int)) := later_cell r6
    have l7 : ∀ p : Later w3, p.W.cell? ⟨w.heap.size, 7, none⟩ = some (.int .u8 (h.toNat : Int)) := later_cell r7
    have l8 : ∀ p : Later w3, p.W.cell? ⟨w.heap.size, 8, none⟩ = some (.int .u8 (j.toNat : Int)) := later_cell r8
    have HGO : Hid (∀ p : Later w3, Calls Tryz.prog 65 #[.slice oa m8 cc, .int .u8 (j.toNat : Int)] p.W fun e' w' => e' = .returned (.agg (gcells (grpL ([a, b, c, d, e, f, g, h, j].take m8) j))) ∧ Below p.W.heap.size p.W w') := Lib.hid fun p => qgroupOf_any _ _ j p.W ((BytesOf.own (l := [a, b, c, d, e, f, g, h, j].take m8) (by rw [HPL.out]; exact HO3.out)).keep p.h (Nat.le_refl _)) (by rw [HPL.out]; exact HM8.out)
    clear r0 r1 r2 r3 r4 r5 r6 r7 r8 c0 c1 c2 c3 c4 c5 c6 c7 c8 fr hown hb3
    go_wp2_with fail
    refine wp_region_later (by kernel_rfl) (by kernel_rfl) ?_
    repeat (go_big_quiet_step ((first | (go_at_call 65; exact Calls.later (HGO.out _)))))
    refine wpQuiet_nil ?_
    rintro w4 ⟨⟨W4, hb4⟩, rfl⟩
    have HB4 := Lib.hid hb4
    clear hb4
    go_wp2_with fail
    exact ⟨rfl, ⟨_, rfl⟩, (HCP.out.grown.trans (kgrown_below HB3.out _)).trans (kgrown_below HB4.out _)⟩
  · unfold wpOpIn
    go_simp
    refine wpAnyInK_two 0 2 (by kernel_rfl) ?_ ?_
    · unfold wpOpIn
      go_simp
      refine wpAnyInK_one 2 (by kernel_rfl) ?_
      unfold wpOpIn
      go_simp
      refine ⟨trivial, (callsIn_wide.2 HT.out).mono ?_⟩
      rintro e' w1 hw1
      obtain ⟨rfl, w2, hcp⟩ := copied hR hM HTL.out hw1
      have hrun := hcp.run
      have HCP := Lib.hid hcp
      clear hw1 hcp
      refine wpAnyInK_one 3 (by kernel_rfl) ?_
      unfold wpOpIn
      go_simp
      refine ⟨by kernel_rfl, ?_⟩
      obtain ⟨c0, c1, c2, c3, c4, c5, c6, c7, c8, fr⟩ := HCP.out.row
      have hz2 := HCP.out.size
      have HCL := Lib.hid (qClone_any ⟨w.heap.size, 0, none⟩ 9 ([a, b, c, d, e, f, g, h, j].take m8) w2 (row9_take HCP.out.row HM8.out) (by rw [HPL.out]; omega))
      rw [HPL.out] at HCL
      clear hrun
      go_wp2_with fail
      refine HCL.out.mono ?_
      rintro e' w3 ⟨oa, cc, rfl, hown, hb3⟩
      have HO3 := Lib.hid hown
      have HB3 := Lib.hid hb3
      have r0 := (hb3.cell (p := ⟨w.heap.size, 0, none⟩) hz2).trans c0
      have r1 := (hb3.cell (p := ⟨w.heap.size, 1, none⟩) hz2).trans c1
      have r2 := (hb3.cell (p := ⟨w.heap.size, 2, none⟩) hz2).trans c2
      have r3 := (hb3.cell (p := ⟨w.heap.size, 3, none⟩) hz2).trans c3
      have r4 := (hb3.cell (p := ⟨w.heap.size, 4, none⟩) hz2).trans c4
      have r5 := (hb3.cell (p := ⟨w.heap.size, 5, none⟩) hz2).trans c5
      have r6 := (hb3.cell (p := ⟨w.heap.size, 6, none⟩) hz2).trans c6
      have r7 := (hb3.cell (p := ⟨w.heap.size, 7, none⟩) hz2).trans c7
      have r8 := (hb3.cell (p := ⟨w.heap.size, 8, none⟩) hz2).trans c8
      have l0 : ∀ p : Later w3, p.W.cell? ⟨w.heap.size, 0, none⟩ = some (.int .u8 (a.toNat : Int)) := later_cell r0
      have l1 : ∀ p : Later w3, p.W.cell? ⟨w.heap.size, 1, none⟩ = some (.int .u8 (b.toNat : Int)) := later_cell r1
      have l2 : ∀ p : Later w3, p.W.cell? ⟨w.heap.size, 2, none⟩ = some (.int .u8 (c.toNat : Int)) := later_cell r2
      have l3 : ∀ p : Later w3, p.W.cell? ⟨w.heap.size, 3, none⟩ = some (.int .u8 (d.toNat : Int)) := later_cell r3
      have l4 : ∀ p : Later w3, p.W.cell? ⟨w.heap.size, 4, none⟩ = some (.int .u8 (e.toNat : Int)) := later_cell r4
      have l5 : ∀ p : Later w3, p.W.cell? ⟨w.heap.size, 5, none⟩ = some (.int .u8 (f.toNat : Int)) := later_cell r5
      have l6 : ∀ p : Later w3, p.W.cell? ⟨w.heap.size, 6, none⟩ = some (.int .u8 (g.toNat : Int)) := later_cell r6
      have l7 : ∀ p : Later w3, p.W.cell? ⟨w.heap.size, 7, none⟩ = some (.int .u8 (h.toNat : Int)) := later_cell r7
      have l8 : ∀ p : Later w3, p.W.cell? ⟨w.heap.size, 8, none⟩ = some (.int .u8 (j.toNat : Int)) := later_cell r8
      have HGO : Hid (∀ p : Later w3, Calls Tryz.prog 65 #[.slice oa m8 cc, .int .u8 (j.toNat : Int)] p.W fun e' w' => e' = .returned (.agg (gcells (grpL ([a, b, c, d, e, f, g, h, j].take m8) j))) ∧ Below p.W.heap.size p.W w') := Lib.hid fun p => qgroupOf_any _ _ j p.W ((BytesOf.own (l := [a, b, c, d, e, f, g, h, j].take m8) (by rw [HPL.out]; exact HO3.out)).keep p.h (Nat.le_refl _)) (by rw [HPL.out]; exact HM8.out)
      clear r0 r1 r2 r3 r4 r5 r6 r7 r8 c0 c1 c2 c3 c4 c5 c6 c7 c8 fr hown hb3
      go_wp2_with fail
      refine wp_region_later (by kernel_rfl) (by kernel_rfl) ?_
      repeat (go_big_quiet_step ((first | (go_at_call 65; exact Calls.later (HGO.out _)))))
      refine wpQuiet_nil ?_
      rintro w4 ⟨⟨W4, hb4⟩, rfl⟩
      have HB4 := Lib.hid hb4
      clear hb4
      go_wp2_with fail
      exact ⟨rfl, ⟨_, rfl⟩, (HCP.out.grown.trans (kgrown_below HB3.out _)).trans (kgrown_below HB4.out _)⟩
    · unfold wpOpIn
      go_simp
      refine ⟨trivial, (callsIn_wide.2 HT.out).mono ?_⟩
      rintro e' w1 hw1
      obtain ⟨rfl, w2, hcp⟩ := copied hR hM HTL.out hw1
      have hrun := hcp.run
      have HCP := Lib.hid hcp
      clear hw1 hcp
      refine wpAnyInK_one 0 (by kernel_rfl) ?_
      unfold wpOpIn
      go_simp
      refine wpAnyInK_one 3 (by kernel_rfl) ?_
      unfold wpOpIn
      go_simp
      refine ⟨by kernel_rfl, ?_⟩
      obtain ⟨c0, c1, c2, c3, c4, c5, c6, c7, c8, fr⟩ := HCP.out.row
      have hz2 := HCP.out.size
      have HCL := Lib.hid (qClone_any ⟨w.heap.size, 0, none⟩ 9 ([a, b, c, d, e, f, g, h, j].take m8) w2 (row9_take HCP.out.row HM8.out) (by rw [HPL.out]; omega))
      rw [HPL.out] at HCL
      clear hrun
      go_wp2_with fail
      refine HCL.out.mono ?_
      rintro e' w3 ⟨oa, cc, rfl, hown, hb3⟩
      have HO3 := Lib.hid hown
      have HB3 := Lib.hid hb3
      have r0 := (hb3.cell (p := ⟨w.heap.size, 0, none⟩) hz2).trans c0
      have r1 := (hb3.cell (p := ⟨w.heap.size, 1, none⟩) hz2).trans c1
      have r2 := (hb3.cell (p := ⟨w.heap.size, 2, none⟩) hz2).trans c2
      have r3 := (hb3.cell (p := ⟨w.heap.size, 3, none⟩) hz2).trans c3
      have r4 := (hb3.cell (p := ⟨w.heap.size, 4, none⟩) hz2).trans c4
      have r5 := (hb3.cell (p := ⟨w.heap.size, 5, none⟩) hz2).trans c5
      have r6 := (hb3.cell (p := ⟨w.heap.size, 6, none⟩) hz2).trans c6
      have r7 := (hb3.cell (p := ⟨w.heap.size, 7, none⟩) hz2).trans c7
      have r8 := (hb3.cell (p := ⟨w.heap.size, 8, none⟩) hz2).trans c8
      have l0 : ∀ p : Later w3, p.W.cell? ⟨w.heap.size, 0, none⟩ = some (.int .u8 (a.toNat : Int)) := later_cell r0
      have l1 : ∀ p : Later w3, p.W.cell? ⟨w.heap.size, 1, none⟩ = some (.int .u8 (b.toNat : Int)) := later_cell r1
      have l2 : ∀ p : Later w3, p.W.cell? ⟨w.heap.size, 2, none⟩ = some (.int .u8 (c.toNat : Int)) := later_cell r2
      have l3 : ∀ p : Later w3, p.W.cell? ⟨w.heap.size, 3, none⟩ = some (.int .u8 (d.toNat : Int)) := later_cell r3
      have l4 : ∀ p : Later w3, p.W.cell? ⟨w.heap.size, 4, none⟩ = some (.int .u8 (e.toNat : Int)) := later_cell r4
      have l5 : ∀ p : Later w3, p.W.cell? ⟨w.heap.size, 5, none⟩ = some (.int .u8 (f.toNat : Int)) := later_cell r5
      have l6 : ∀ p : Later w3, p.W.cell? ⟨w.heap.size, 6, none⟩ = some (.int .u8 (g.toNat : Int)) := later_cell r6
      have l7 : ∀ p : Later w3, p.W.cell? ⟨w.heap.size, 7, none⟩ = some (.int .u8 (h.toNat : Int)) := later_cell r7
      have l8 : ∀ p : Later w3, p.W.cell? ⟨w.heap.size, 8, none⟩ = some (.int .u8 (j.toNat : Int)) := later_cell r8
      have HGO : Hid (∀ p : Later w3, Calls Tryz.prog 65 #[.slice oa m8 cc, .int .u8 (j.toNat : Int)] p.W fun e' w' => e' = .returned (.agg (gcells (grpL ([a, b, c, d, e, f, g, h, j].take m8) j))) ∧ Below p.W.heap.size p.W w') := Lib.hid fun p => qgroupOf_any _ _ j p.W ((BytesOf.own (l := [a, b, c, d, e, f, g, h, j].take m8) (by rw [HPL.out]; exact HO3.out)).keep p.h (Nat.le_refl _)) (by rw [HPL.out]; exact HM8.out)
      clear r0 r1 r2 r3 r4 r5 r6 r7 r8 c0 c1 c2 c3 c4 c5 c6 c7 c8 fr hown hb3
      go_wp2_with fail
      refine wp_region_later (by kernel_rfl) (by kernel_rfl) ?_
      repeat (go_big_quiet_step ((first | (go_at_call 65; exact Calls.later (HGO.out _)))))
      refine wpQuiet_nil ?_
      rintro w4 ⟨⟨W4, hb4⟩, rfl⟩
      have HB4 := Lib.hid hb4
      clear hb4
      go_wp2_with fail
      exact ⟨rfl, ⟨_, rfl⟩, (HCP.out.grown.trans (kgrown_below HB3.out _)).trans (kgrown_below HB4.out _)⟩
set_option maxRecDepth 100000 in
set_option maxHeartbeats 2000000 in
theorem qgroup_bad (R m : Nat) (s : ByteArray) (i : Nat) (w : World) (hr : RdK w R m s i) (hs : s.size ≤ 1000000) (h9 : i + 9 ≤ s.size) (a b c d e f g h j : UInt8) (hl : cutS s i 9 = [a, b, c, d, e, f, g, h, j]) (hj : j.toNat ≤ 9) (hq : grpEq [a, b, c, d, e, f, g, h, j] (grpL ([a, b, c, d, e, f, g, h, j].take (min 8 j.toNat)) j) = false) :
    Calls Tryz.prog 66 #[.pointer (some ⟨R, 0, none⟩)] w (KGone w R) := by
  have hR := hr.lt
  have hM := hr.mlt
  have HT := Lib.hid (qtake_yes R m s i 9 (w.alloc (.cells z9a 111)).drew ((hr.alloc _).keep (Below.refl _ _).drew) hs h9)
  rw [hl] at HT
  obtain ⟨t, ht⟩ : ∃ t : ByteArray, (⟨[a, b, c, d, e, f, g, h, j].toArray⟩ : ByteArray) = t := ⟨_, rfl⟩
  have HTL := Lib.hid (show t.data.toList = [a, b, c, d, e, f, g, h, j] by rw [← ht])
  rw [ht] at HT
  obtain ⟨m8, hm8⟩ : ∃ m8, min 8 j.toNat = m8 := ⟨_, rfl⟩
  have HM8 := Lib.hid (show m8 ≤ 8 by omega)
  have HPL := Lib.hid (show ([a, b, c, d, e, f, g, h, j].take m8).length = m8 by rw [List.length_take]; show min m8 9 = m8; omega)
  have hmin : min ((j.toNat : Nat) : Int) 8 = (m8 : Int) := by omega
  have hm88 : m8 ≤ 8 := by omega
  have hsl := slice9 m8 hm88 w.heap.size
  have hneq : ∀ W, (binOp .neq 111 (.agg #[.int .u8 (a.toNat : Int), .int .u8 (b.toNat : Int), .int .u8 (c.toNat : Int), .int .u8 (d.toNat : Int), .int .u8 (e.toNat : Int), .int .u8 (f.toNat : Int), .int .u8 (g.toNat : Int), .int .u8 (h.toNat : Int), .int .u8 (j.toNat : Int)]) (.agg (gcells (grpL ([a, b, c, d, e, f, g, h, j].take m8) j)))).run Tryz.prog W = .ok (.bool true) W := fun W => (neq9 [a, b, c, d, e, f, g, h, j] _ W).trans (by rw [← hm8, hq]; rfl)
  have hd : decide ((9 : Int) < (j.toNat : Int)) = false := decide_eq_false (by omega)
  clear hr hl ht hm8
  go_enter Tryz.func66, Tryz.ntmps66
  go_wp2_with fail
  refine (wpIn_wide (n := 5)).1 ?_
  refine wpIn_region_any (by kernel_rfl) ?_
  change wpAnyIn _ _ _ _ _ _ _ _ _ (World.drew _)
  refine wpAnyInK_two 0 1 (by kernel_rfl) ?_ ?_
  · unfold wpOpIn
    go_simp
    refine wpAnyInK_one 1 (by kernel_rfl) ?_
    unfold wpOpIn
    go_simp
    refine wpAnyInK_one 2 (by kernel_rfl) ?_
    unfold wpOpIn
    go_simp
    refine ⟨trivial, (callsIn_wide.2 HT.out).mono ?_⟩
    rintro e' w1 hw1
    obtain ⟨rfl, w2, hcp⟩ := copied hR hM HTL.out hw1
    have hrun := hcp.run
    have HCP := Lib.hid hcp
    clear hw1 hcp
    refine wpAnyInK_one 3 (by kernel_rfl) ?_
    unfold wpOpIn
    go_simp
    refine ⟨by kernel_rfl, ?_⟩
    obtain ⟨c0, c1, c2, c3, c4, c5, c6, c7, c8, fr⟩ := HCP.out.row
    have hz2 := HCP.out.size
    have HCL := Lib.hid (qClone_any ⟨w.heap.size, 0, none⟩ 9 ([a, b, c, d, e, f, g, h, j].take m8) w2 (row9_take HCP.out.row HM8.out) (by rw [HPL.out]; omega))
    rw [HPL.out] at HCL
    clear hrun
    go_wp2_with fail
    refine HCL.out.mono ?_
    rintro e' w3 ⟨oa, cc, rfl, hown, hb3⟩
    have HO3 := Lib.hid hown
    have HB3 := Lib.hid hb3
    have r0 := (hb3.cell (p := ⟨w.heap.size, 0, none⟩) hz2).trans c0
    have r1 := (hb3.cell (p := ⟨w.heap.size, 1, none⟩) hz2).trans c1
    have r2 := (hb3.cell (p := ⟨w.heap.size, 2, none⟩) hz2).trans c2
    have r3 := (hb3.cell (p := ⟨w.heap.size, 3, none⟩) hz2).trans c3
    have r4 := (hb3.cell (p := ⟨w.heap.size, 4, none⟩) hz2).trans c4
    have r5 := (hb3.cell (p := ⟨w.heap.size, 5, none⟩) hz2).trans c5
    have r6 := (hb3.cell (p := ⟨w.heap.size, 6, none⟩) hz2).trans c6
    have r7 := (hb3.cell (p := ⟨w.heap.size, 7, none⟩) hz2).trans c7
    have r8 := (hb3.cell (p := ⟨w.heap.size, 8, none⟩) hz2).trans c8
    have l0 : ∀ p : Later w3, p.W.cell? ⟨w.heap.size, 0, none⟩ = some (.int .u8 (a.toNat : Int)) := later_cell r0
    have l1 : ∀ p : Later w3, p.W.cell? ⟨w.heap.size, 1, none⟩ = some (.int .u8 (b.toNat : Int)) := later_cell r1
    have l2 : ∀ p : Later w3, p.W.cell? ⟨w.heap.size, 2, none⟩ = some (.int .u8 (c.toNat : Int)) := later_cell r2
    have l3 : ∀ p : Later w3, p.W.cell? ⟨w.heap.size, 3, none⟩ = some (.int .u8 (d.toNat : Int)) := later_cell r3
    have l4 : ∀ p : Later w3, p.W.cell? ⟨w.heap.size, 4, none⟩ = some (.int .u8 (e.toNat : Int)) := later_cell r4
    have l5 : ∀ p : Later w3, p.W.cell? ⟨w.heap.size, 5, none⟩ = some (.int .u8 (f.toNat : Int)) := later_cell r5
    have l6 : ∀ p : Later w3, p.W.cell? ⟨w.heap.size, 6, none⟩ = some (.int .u8 (g.toNat : Int)) := later_cell r6
    have l7 : ∀ p : Later w3, p.W.cell? ⟨w.heap.size, 7, none⟩ = some (.int .u8 (h.toNat : Int)) := later_cell r7
    have l8 : ∀ p : Later w3, p.W.cell? ⟨w.heap.size, 8, none⟩ = some (.int .u8 (j.toNat : Int)) := later_cell r8
    have HGO : Hid (∀ p : Later w3, Calls Tryz.prog 65 #[.slice oa m8 cc, .int .u8 (j.toNat : Int)] p.W fun e' w' => e' = .returned (.agg (gcells (grpL ([a, b, c, d, e, f, g, h, j].take m8) j))) ∧ Below p.W.heap.size p.W w') := Lib.hid fun p => qgroupOf_any _ _ j p.W ((BytesOf.own (l := [a, b, c, d, e, f, g, h, j].take m8) (by rw [HPL.out]; exact HO3.out)).keep p.h (Nat.le_refl _)) (by rw [HPL.out]; exact HM8.out)
    clear r0 r1 r2 r3 r4 r5 r6 r7 r8 c0 c1 c2 c3 c4 c5 c6 c7 c8 fr hown hb3
    go_wp2_with fail
    refine wp_region_later (by kernel_rfl) (by kernel_rfl) ?_
    repeat (go_big_quiet_step ((first | (go_at_call 65; exact Calls.later (HGO.out _)))))
    refine wpQuiet_nil ?_
    rintro w4 ⟨⟨W4, hb4⟩, rfl⟩
    have HB4 := Lib.hid hb4
    clear hb4
    go_wp2_with fail
    exact ⟨rfl, ⟨_, rfl⟩, (HCP.out.grown.trans (kgrown_below HB3.out _)).trans (kgrown_below HB4.out _)⟩
  · unfold wpOpIn
    go_simp
    refine wpAnyInK_two 0 2 (by kernel_rfl) ?_ ?_
    · unfold wpOpIn
      go_simp
      refine wpAnyInK_one 2 (by kernel_rfl) ?_
      unfold wpOpIn
      go_simp
      refine ⟨trivial, (callsIn_wide.2 HT.out).mono ?_⟩
      rintro e' w1 hw1
      obtain ⟨rfl, w2, hcp⟩ := copied hR hM HTL.out hw1
      have hrun := hcp.run
      have HCP := Lib.hid hcp
      clear hw1 hcp
      refine wpAnyInK_one 3 (by kernel_rfl) ?_
      unfold wpOpIn
      go_simp
      refine ⟨by kernel_rfl, ?_⟩
      obtain ⟨c0, c1, c2, c3, c4, c5, c6, c7, c8, fr⟩ := HCP.out.row
      have hz2 := HCP.out.size
      have HCL := Lib.hid (qClone_any ⟨w.heap.size, 0, none⟩ 9 ([a, b, c, d, e, f, g, h, j].take m8) w2 (row9_take HCP.out.row HM8.out) (by rw [HPL.out]; omega))
      rw [HPL.out] at HCL
      clear hrun
      go_wp2_with fail
      refine HCL.out.mono ?_
      rintro e' w3 ⟨oa, cc, rfl, hown, hb3⟩
      have HO3 := Lib.hid hown
      have HB3 := Lib.hid hb3
      have r0 := (hb3.cell (p := ⟨w.heap.size, 0, none⟩) hz2).trans c0
      have r1 := (hb3.cell (p := ⟨w.heap.size, 1, none⟩) hz2).trans c1
      have r2 := (hb3.cell (p := ⟨w.heap.size, 2, none⟩) hz2).trans c2
      have r3 := (hb3.cell (p := ⟨w.heap.size, 3, none⟩) hz2).trans c3
      have r4 := (hb3.cell (p := ⟨w.heap.size, 4, none⟩) hz2).trans c4
      have r5 := (hb3.cell (p := ⟨w.heap.size, 5, none⟩) hz2).trans c5
      have r6 := (hb3.cell (p := ⟨w.heap.size, 6, none⟩) hz2).trans c6
      have r7 := (hb3.cell (p := ⟨w.heap.size, 7, none⟩) hz2).trans c7
      have r8 := (hb3.cell (p := ⟨w.heap.size, 8, none⟩) hz2).trans c8
      have l0 : ∀ p : Later w3, p.W.cell? ⟨w.heap.size, 0, none⟩ = some (.int .u8 (a.toNat : Int)) := later_cell r0
      have l1 : ∀ p : Later w3, p.W.cell? ⟨w.heap.size, 1, none⟩ = some (.int .u8 (b.toNat : Int)) := later_cell r1
      have l2 : ∀ p : Later w3, p.W.cell? ⟨w.heap.size, 2, none⟩ = some (.int .u8 (c.toNat : Int)) := later_cell r2
      have l3 : ∀ p : Later w3, p.W.cell? ⟨w.heap.size, 3, none⟩ = some (.int .u8 (d.toNat : Int)) := later_cell r3
      have l4 : ∀ p : Later w3, p.W.cell? ⟨w.heap.size, 4, none⟩ = some (.int .u8 (e.toNat : Int)) := later_cell r4
      have l5 : ∀ p : Later w3, p.W.cell? ⟨w.heap.size, 5, none⟩ = some (.int .u8 (f.toNat : Int)) := later_cell r5
      have l6 : ∀ p : Later w3, p.W.cell? ⟨w.heap.size, 6, none⟩ = some (.int .u8 (g.toNat : Int)) := later_cell r6
      have l7 : ∀ p : Later w3, p.W.cell? ⟨w.heap.size, 7, none⟩ = some (.int .u8 (h.toNat : Int)) := later_cell r7
      have l8 : ∀ p : Later w3, p.W.cell? ⟨w.heap.size, 8, none⟩ = some (.int .u8 (j.toNat : Int)) := later_cell r8
      have HGO : Hid (∀ p : Later w3, Calls Tryz.prog 65 #[.slice oa m8 cc, .int .u8 (j.toNat : Int)] p.W fun e' w' => e' = .returned (.agg (gcells (grpL ([a, b, c, d, e, f, g, h, j].take m8) j))) ∧ Below p.W.heap.size p.W w') := Lib.hid fun p => qgroupOf_any _ _ j p.W ((BytesOf.own (l := [a, b, c, d, e, f, g, h, j].take m8) (by rw [HPL.out]; exact HO3.out)).keep p.h (Nat.le_refl _)) (by rw [HPL.out]; exact HM8.out)
      clear r0 r1 r2 r3 r4 r5 r6 r7 r8 c0 c1 c2 c3 c4 c5 c6 c7 c8 fr hown hb3
      go_wp2_with fail
      refine wp_region_later (by kernel_rfl) (by kernel_rfl) ?_
      repeat (go_big_quiet_step ((first | (go_at_call 65; exact Calls.later (HGO.out _)))))
      refine wpQuiet_nil ?_
      rintro w4 ⟨⟨W4, hb4⟩, rfl⟩
      have HB4 := Lib.hid hb4
      clear hb4
      go_wp2_with fail
      exact ⟨rfl, ⟨_, rfl⟩, (HCP.out.grown.trans (kgrown_below HB3.out _)).trans (kgrown_below HB4.out _)⟩
    · unfold wpOpIn
      go_simp
      refine ⟨trivial, (callsIn_wide.2 HT.out).mono ?_⟩
      rintro e' w1 hw1
      obtain ⟨rfl, w2, hcp⟩ := copied hR hM HTL.out hw1
      have hrun := hcp.run
      have HCP := Lib.hid hcp
      clear hw1 hcp
      refine wpAnyInK_one 0 (by kernel_rfl) ?_
      unfold wpOpIn
      go_simp
      refine wpAnyInK_one 3 (by kernel_rfl) ?_
      unfold wpOpIn
      go_simp
      refine ⟨by kernel_rfl, ?_⟩
      obtain ⟨c0, c1, c2, c3, c4, c5, c6, c7, c8, fr⟩ := HCP.out.row
      have hz2 := HCP.out.size
      have HCL := Lib.hid (qClone_any ⟨w.heap.size, 0, none⟩ 9 ([a, b, c, d, e, f, g, h, j].take m8) w2 (row9_take HCP.out.row HM8.out) (by rw [HPL.out]; omega))
      rw [HPL.out] at HCL
      clear hrun
      go_wp2_with fail
      refine HCL.out.mono ?_
      rintro e' w3 ⟨oa, cc, rfl, hown, hb3⟩
      have HO3 := Lib.hid hown
      have HB3 := Lib.hid hb3
      have r0 := (hb3.cell (p := ⟨w.heap.size, 0, none⟩) hz2).trans c0
      have r1 := (hb3.cell (p := ⟨w.heap.size, 1, none⟩) hz2).trans c1
      have r2 := (hb3.cell (p := ⟨w.heap.size, 2, none⟩) hz2).trans c2
      have r3 := (hb3.cell (p := ⟨w.heap.size, 3, none⟩) hz2).trans c3
      have r4 := (hb3.cell (p := ⟨w.heap.size, 4, none⟩) hz2).trans c4
      have r5 := (hb3.cell (p := ⟨w.heap.size, 5, none⟩) hz2).trans c5
      have r6 := (hb3.cell (p := ⟨w.heap.size, 6, none⟩) hz2).trans c6
      have r7 := (hb3.cell (p := ⟨w.heap.size, 7, none⟩) hz2).trans c7
      have r8 := (hb3.cell (p := ⟨w.heap.size, 8, none⟩) hz2).trans c8
      have l0 : ∀ p : Later w3, p.W.cell? ⟨w.heap.size, 0, none⟩ = some (.int .u8 (a.toNat : Int)) := later_cell r0
      have l1 : ∀ p : Later w3, p.W.cell? ⟨w.heap.size, 1, none⟩ = some (.int .u8 (b.toNat : Int)) := later_cell r1
      have l2 : ∀ p : Later w3, p.W.cell? ⟨w.heap.size, 2, none⟩ = some (.int .u8 (c.toNat : Int)) := later_cell r2
      have l3 : ∀ p : Later w3, p.W.cell? ⟨w.heap.size, 3, none⟩ = some (.int .u8 (d.toNat : Int)) := later_cell r3
      have l4 : ∀ p : Later w3, p.W.cell? ⟨w.heap.size, 4, none⟩ = some (.int .u8 (e.toNat : Int)) := later_cell r4
      have l5 : ∀ p : Later w3, p.W.cell? ⟨w.heap.size, 5, none⟩ = some (.int .u8 (f.toNat : Int)) := later_cell r5
      have l6 : ∀ p : Later w3, p.W.cell? ⟨w.heap.size, 6, none⟩ = some (.int .u8 (g.toNat : Int)) := later_cell r6
      have l7 : ∀ p : Later w3, p.W.cell? ⟨w.heap.size, 7, none⟩ = some (.int .u8 (h.toNat : Int)) := later_cell r7
      have l8 : ∀ p : Later w3, p.W.cell? ⟨w.heap.size, 8, none⟩ = some (.int .u8 (j.toNat : Int)) := later_cell r8
      have HGO : Hid (∀ p : Later w3, Calls Tryz.prog 65 #[.slice oa m8 cc, .int .u8 (j.toNat : Int)] p.W fun e' w' => e' = .returned (.agg (gcells (grpL ([a, b, c, d, e, f, g, h, j].take m8) j))) ∧ Below p.W.heap.size p.W w') := Lib.hid fun p => qgroupOf_any _ _ j p.W ((BytesOf.own (l := [a, b, c, d, e, f, g, h, j].take m8) (by rw [HPL.out]; exact HO3.out)).keep p.h (Nat.le_refl _)) (by rw [HPL.out]; exact HM8.out)
      clear r0 r1 r2 r3 r4 r5 r6 r7 r8 c0 c1 c2 c3 c4 c5 c6 c7 c8 fr hown hb3
      go_wp2_with fail
      refine wp_region_later (by kernel_rfl) (by kernel_rfl) ?_
      repeat (go_big_quiet_step ((first | (go_at_call 65; exact Calls.later (HGO.out _)))))
      refine wpQuiet_nil ?_
      rintro w4 ⟨⟨W4, hb4⟩, rfl⟩
      have HB4 := Lib.hid hb4
      clear hb4
      go_wp2_with fail
      exact ⟨rfl, ⟨_, rfl⟩, (HCP.out.grown.trans (kgrown_below HB3.out _)).trans (kgrown_below HB4.out _)⟩
set_option maxRecDepth 100000 in
set_option maxHeartbeats 2000000 in
theorem qgroup_ok (R m : Nat) (s : ByteArray) (i : Nat) (w : World) (hr : RdK w R m s i) (hs : s.size ≤ 1000000) (h9 : i + 9 ≤ s.size) (a b c d e f g h j : UInt8) (hl : cutS s i 9 = [a, b, c, d, e, f, g, h, j]) (m8' : Nat) (more : Bool) (hm8' : m8' = min 8 j.toNat) (hmore : more = ((j.toNat : Int) == 9)) (hj : j.toNat ≤ 9) (hq : grpEq [a, b, c, d, e, f, g, h, j] (grpL ([a, b, c, d, e, f, g, h, j].take (min 8 j.toNat)) j) = true) :
    Calls Tryz.prog 66 #[.pointer (some ⟨R, 0, none⟩)] w (fun e' w' => ∃ oa c', e' = .returned (.tuple #[.slice oa m8' c', .bool more]) ∧ w'.ownsRow w.heap.size 5 1 (.slice oa m8' c') m8' (u8s ([a, b, c, d, e, f, g, h, j].take m8')) ∧ RdK w' R m s (i + 9) ∧ w.grownBy w' (some R)) := by
  have hR := hr.lt
  have hM := hr.mlt
  have HT := Lib.hid (qtake_yes R m s i 9 (w.alloc (.cells z9a 111)).drew ((hr.alloc _).keep (Below.refl _ _).drew) hs h9)
  rw [hl] at HT
  obtain ⟨t, ht⟩ : ∃ t : ByteArray, (⟨[a, b, c, d, e, f, g, h, j].toArray⟩ : ByteArray) = t := ⟨_, rfl⟩
  have HTL := Lib.hid (show t.data.toList = [a, b, c, d, e, f, g, h, j] by rw [← ht])
  rw [ht] at HT
  obtain ⟨m8, hm8⟩ : ∃ m8, min 8 j.toNat = m8 := ⟨_, rfl⟩
  have HM8 := Lib.hid (show m8 ≤ 8 by omega)
  have HPL := Lib.hid (show ([a, b, c, d, e, f, g, h, j].take m8).length = m8 by rw [List.length_take]; show min m8 9 = m8; omega)
  have hmin : min ((j.toNat : Nat) : Int) 8 = (m8 : Int) := by omega
  have hm88 : m8 ≤ 8 := by omega
  have hsl := slice9 m8 hm88 w.heap.size
  have hneq : ∀ W, (binOp .neq 111 (.agg #[.int .u8 (a.toNat : Int), .int .u8 (b.toNat : Int), .int .u8 (c.toNat : Int), .int .u8 (d.toNat : Int), .int .u8 (e.toNat : Int), .int .u8 (f.toNat : Int), .int .u8 (g.toNat : Int), .int .u8 (h.toNat : Int), .int .u8 (j.toNat : Int)]) (.agg (gcells (grpL ([a, b, c, d, e, f, g, h, j].take m8) j)))).run Tryz.prog W = .ok (.bool false) W := fun W => (neq9 [a, b, c, d, e, f, g, h, j] _ W).trans (by rw [← hm8, hq]; rfl)
  have hd : decide ((9 : Int) < (j.toNat : Int)) = false := decide_eq_false (by omega)
  have em : m8 = m8' := by omega
  subst em
  subst hmore
  clear hm8'
  clear hr hl ht hm8
  go_enter Tryz.func66, Tryz.ntmps66
  go_wp2_with fail
  refine (wpIn_wide (n := 5)).1 ?_
  refine wpIn_region_any (by kernel_rfl) ?_
  change wpAnyIn _ _ _ _ _ _ _ _ _ (World.drew _)
  refine wpAnyInK_two 0 1 (by kernel_rfl) ?_ ?_
  · unfold wpOpIn
    go_simp
    refine wpAnyInK_one 1 (by kernel_rfl) ?_
    unfold wpOpIn
    go_simp
    refine wpAnyInK_one 2 (by kernel_rfl) ?_
    unfold wpOpIn
    go_simp
    refine ⟨trivial, (callsIn_wide.2 HT.out).mono ?_⟩
    rintro e' w1 hw1
    obtain ⟨rfl, w2, hcp⟩ := copied hR hM HTL.out hw1
    have hrun := hcp.run
    have HCP := Lib.hid hcp
    clear hw1 hcp
    refine wpAnyInK_one 3 (by kernel_rfl) ?_
    unfold wpOpIn
    go_simp
    refine ⟨by kernel_rfl, ?_⟩
    obtain ⟨c0, c1, c2, c3, c4, c5, c6, c7, c8, fr⟩ := HCP.out.row
    have hz2 := HCP.out.size
    have HCL := Lib.hid (qClone_any ⟨w.heap.size, 0, none⟩ 9 ([a, b, c, d, e, f, g, h, j].take m8) w2 (row9_take HCP.out.row HM8.out) (by rw [HPL.out]; omega))
    rw [HPL.out] at HCL
    clear hrun
    go_wp2_with fail
    refine HCL.out.mono ?_
    rintro e' w3 ⟨oa, cc, rfl, hown, hb3⟩
    have HO3 := Lib.hid hown
    have HB3 := Lib.hid hb3
    have r0 := (hb3.cell (p := ⟨w.heap.size, 0, none⟩) hz2).trans c0
    have r1 := (hb3.cell (p := ⟨w.heap.size, 1, none⟩) hz2).trans c1
    have r2 := (hb3.cell (p := ⟨w.heap.size, 2, none⟩) hz2).trans c2
    have r3 := (hb3.cell (p := ⟨w.heap.size, 3, none⟩) hz2).trans c3
    have r4 := (hb3.cell (p := ⟨w.heap.size, 4, none⟩) hz2).trans c4
    have r5 := (hb3.cell (p := ⟨w.heap.size, 5, none⟩) hz2).trans c5
    have r6 := (hb3.cell (p := ⟨w.heap.size, 6, none⟩) hz2).trans c6
    have r7 := (hb3.cell (p := ⟨w.heap.size, 7, none⟩) hz2).trans c7
    have r8 := (hb3.cell (p := ⟨w.heap.size, 8, none⟩) hz2).trans c8
    have l0 : ∀ p : Later w3, p.W.cell? ⟨w.heap.size, 0, none⟩ = some (.int .u8 (a.toNat : Int)) := later_cell r0
    have l1 : ∀ p : Later w3, p.W.cell? ⟨w.heap.size, 1, none⟩ = some (.int .u8 (b.toNat : Int)) := later_cell r1
    have l2 : ∀ p : Later w3, p.W.cell? ⟨w.heap.size, 2, none⟩ = some (.int .u8 (c.toNat : Int)) := later_cell r2
    have l3 : ∀ p : Later w3, p.W.cell? ⟨w.heap.size, 3, none⟩ = some (.int .u8 (d.toNat : Int)) := later_cell r3
    have l4 : ∀ p : Later w3, p.W.cell? ⟨w.heap.size, 4, none⟩ = some (.int .u8 (e.toNat : Int)) := later_cell r4
    have l5 : ∀ p : Later w3, p.W.cell? ⟨w.heap.size, 5, none⟩ = some (.int .u8 (f.toNat : Int)) := later_cell r5
    have l6 : ∀ p : Later w3, p.W.cell? ⟨w.heap.size, 6, none⟩ = some (.int .u8 (g.toNat : Int)) := later_cell r6
    have l7 : ∀ p : Later w3, p.W.cell? ⟨w.heap.size, 7, none⟩ = some (.int .u8 (h.toNat : Int)) := later_cell r7
    have l8 : ∀ p : Later w3, p.W.cell? ⟨w.heap.size, 8, none⟩ = some (.int .u8 (j.toNat : Int)) := later_cell r8
    have HGO : Hid (∀ p : Later w3, Calls Tryz.prog 65 #[.slice oa m8 cc, .int .u8 (j.toNat : Int)] p.W fun e' w' => e' = .returned (.agg (gcells (grpL ([a, b, c, d, e, f, g, h, j].take m8) j))) ∧ Below p.W.heap.size p.W w') := Lib.hid fun p => qgroupOf_any _ _ j p.W ((BytesOf.own (l := [a, b, c, d, e, f, g, h, j].take m8) (by rw [HPL.out]; exact HO3.out)).keep p.h (Nat.le_refl _)) (by rw [HPL.out]; exact HM8.out)
    clear r0 r1 r2 r3 r4 r5 r6 r7 r8 c0 c1 c2 c3 c4 c5 c6 c7 c8 fr hown hb3
    go_wp2_with fail
    refine wp_region_later (by kernel_rfl) (by kernel_rfl) ?_
    repeat (go_big_quiet_step ((first | (go_at_call 65; exact Calls.later (HGO.out _)))))
    refine wpQuiet_nil ?_
    rintro w4 ⟨⟨W4, hb4⟩, rfl⟩
    have HB4 := Lib.hid hb4
    clear hb4
    go_wp2_with fail
    go_ret2
    refine ⟨oa, cc, rfl, ?_, ?_, ?_⟩
    · exact World.ownsRow.mono (own_keepK HO3.out HB4.out) (by omega)
    · exact (HCP.out.rd.keep HB3.out).keep HB4.out
    · exact (HCP.out.grown.trans (kgrown_below HB3.out _)).trans (kgrown_below HB4.out _)
  · unfold wpOpIn
    go_simp
    refine wpAnyInK_two 0 2 (by kernel_rfl) ?_ ?_
    · unfold wpOpIn
      go_simp
      refine wpAnyInK_one 2 (by kernel_rfl) ?_
      unfold wpOpIn
      go_simp
      refine ⟨trivial, (callsIn_wide.2 HT.out).mono ?_⟩
      rintro e' w1 hw1
      obtain ⟨rfl, w2, hcp⟩ := copied hR hM HTL.out hw1
      have hrun := hcp.run
      have HCP := Lib.hid hcp
      clear hw1 hcp
      refine wpAnyInK_one 3 (by kernel_rfl) ?_
      unfold wpOpIn
      go_simp
      refine ⟨by kernel_rfl, ?_⟩
      obtain ⟨c0, c1, c2, c3, c4, c5, c6, c7, c8, fr⟩ := HCP.out.row
      have hz2 := HCP.out.size
      have HCL := Lib.hid (qClone_any ⟨w.heap.size, 0, none⟩ 9 ([a, b, c, d, e, f, g, h, j].take m8) w2 (row9_take HCP.out.row HM8.out) (by rw [HPL.out]; omega))
      rw [HPL.out] at HCL
      clear hrun
      go_wp2_with fail
      refine HCL.out.mono ?_
      rintro e' w3 ⟨oa, cc, rfl, hown, hb3⟩
      have HO3 := Lib.hid hown
      have HB3 := Lib.hid hb3
      have r0 := (hb3.cell (p := ⟨w.heap.size, 0, none⟩) hz2).trans c0
      have r1 := (hb3.cell (p := ⟨w.heap.size, 1, none⟩) hz2).trans c1
      have r2 := (hb3.cell (p := ⟨w.heap.size, 2, none⟩) hz2).trans c2
      have r3 := (hb3.cell (p := ⟨w.heap.size, 3, none⟩) hz2).trans c3
      have r4 := (hb3.cell (p := ⟨w.heap.size, 4, none⟩) hz2).trans c4
      have r5 := (hb3.cell (p := ⟨w.heap.size, 5, none⟩) hz2).trans c5
      have r6 := (hb3.cell (p := ⟨w.heap.size, 6, none⟩) hz2).trans c6
      have r7 := (hb3.cell (p := ⟨w.heap.size, 7, none⟩) hz2).trans c7
      have r8 := (hb3.cell (p := ⟨w.heap.size, 8, none⟩) hz2).trans c8
      have l0 : ∀ p : Later w3, p.W.cell? ⟨w.heap.size, 0, none⟩ = some (.int .u8 (a.toNat : Int)) := later_cell r0
      have l1 : ∀ p : Later w3, p.W.cell? ⟨w.heap.size, 1, none⟩ = some (.int .u8 (b.toNat : Int)) := later_cell r1
      have l2 : ∀ p : Later w3, p.W.cell? ⟨w.heap.size, 2, none⟩ = some (.int .u8 (c.toNat : Int)) := later_cell r2
      have l3 : ∀ p : Later w3, p.W.cell? ⟨w.heap.size, 3, none⟩ = some (.int .u8 (d.toNat : Int)) := later_cell r3
      have l4 : ∀ p : Later w3, p.W.cell? ⟨w.heap.size, 4, none⟩ = some (.int .u8 (e.toNat : Int)) := later_cell r4
      have l5 : ∀ p : Later w3, p.W.cell? ⟨w.heap.size, 5, none⟩ = some (.int .u8 (f.toNat : Int)) := later_cell r5
      have l6 : ∀ p : Later w3, p.W.cell? ⟨w.heap.size, 6, none⟩ = some (.int .u8 (g.toNat : Int)) := later_cell r6
      have l7 : ∀ p : Later w3, p.W.cell? ⟨w.heap.size, 7, none⟩ = some (.int .u8 (h.toNat : Int)) := later_cell r7
      have l8 : ∀ p : Later w3, p.W.cell? ⟨w.heap.size, 8, none⟩ = some (.int .u8 (j.toNat : Int)) := later_cell r8
      have HGO : Hid (∀ p : Later w3, Calls Tryz.prog 65 #[.slice oa m8 cc, .int .u8 (j.toNat : Int)] p.W fun e' w' => e' = .returned (.agg (gcells (grpL ([a, b, c, d, e, f, g, h, j].take m8) j))) ∧ Below p.W.heap.size p.W w') := Lib.hid fun p => qgroupOf_any _ _ j p.W ((BytesOf.own (l := [a, b, c, d, e, f, g, h, j].take m8) (by rw [HPL.out]; exact HO3.out)).keep p.h (Nat.le_refl _)) (by rw [HPL.out]; exact HM8.out)
      clear r0 r1 r2 r3 r4 r5 r6 r7 r8 c0 c1 c2 c3 c4 c5 c6 c7 c8 fr hown hb3
      go_wp2_with fail
      refine wp_region_later (by kernel_rfl) (by kernel_rfl) ?_
      repeat (go_big_quiet_step ((first | (go_at_call 65; exact Calls.later (HGO.out _)))))
      refine wpQuiet_nil ?_
      rintro w4 ⟨⟨W4, hb4⟩, rfl⟩
      have HB4 := Lib.hid hb4
      clear hb4
      go_wp2_with fail
      go_ret2
      refine ⟨oa, cc, rfl, ?_, ?_, ?_⟩
      · exact World.ownsRow.mono (own_keepK HO3.out HB4.out) (by omega)
      · exact (HCP.out.rd.keep HB3.out).keep HB4.out
      · exact (HCP.out.grown.trans (kgrown_below HB3.out _)).trans (kgrown_below HB4.out _)
    · unfold wpOpIn
      go_simp
      refine ⟨trivial, (callsIn_wide.2 HT.out).mono ?_⟩
      rintro e' w1 hw1
      obtain ⟨rfl, w2, hcp⟩ := copied hR hM HTL.out hw1
      have hrun := hcp.run
      have HCP := Lib.hid hcp
      clear hw1 hcp
      refine wpAnyInK_one 0 (by kernel_rfl) ?_
      unfold wpOpIn
      go_simp
      refine wpAnyInK_one 3 (by kernel_rfl) ?_
      unfold wpOpIn
      go_simp
      refine ⟨by kernel_rfl, ?_⟩
      obtain ⟨c0, c1, c2, c3, c4, c5, c6, c7, c8, fr⟩ := HCP.out.row
      have hz2 := HCP.out.size
      have HCL := Lib.hid (qClone_any ⟨w.heap.size, 0, none⟩ 9 ([a, b, c, d, e, f, g, h, j].take m8) w2 (row9_take HCP.out.row HM8.out) (by rw [HPL.out]; omega))
      rw [HPL.out] at HCL
      clear hrun
      go_wp2_with fail
      refine HCL.out.mono ?_
      rintro e' w3 ⟨oa, cc, rfl, hown, hb3⟩
      have HO3 := Lib.hid hown
      have HB3 := Lib.hid hb3
      have r0 := (hb3.cell (p := ⟨w.heap.size, 0, none⟩) hz2).trans c0
      have r1 := (hb3.cell (p := ⟨w.heap.size, 1, none⟩) hz2).trans c1
      have r2 := (hb3.cell (p := ⟨w.heap.size, 2, none⟩) hz2).trans c2
      have r3 := (hb3.cell (p := ⟨w.heap.size, 3, none⟩) hz2).trans c3
      have r4 := (hb3.cell (p := ⟨w.heap.size, 4, none⟩) hz2).trans c4
      have r5 := (hb3.cell (p := ⟨w.heap.size, 5, none⟩) hz2).trans c5
      have r6 := (hb3.cell (p := ⟨w.heap.size, 6, none⟩) hz2).trans c6
      have r7 := (hb3.cell (p := ⟨w.heap.size, 7, none⟩) hz2).trans c7
      have r8 := (hb3.cell (p := ⟨w.heap.size, 8, none⟩) hz2).trans c8
      have l0 : ∀ p : Later w3, p.W.cell? ⟨w.heap.size, 0, none⟩ = some (.int .u8 (a.toNat : Int)) := later_cell r0
      have l1 : ∀ p : Later w3, p.W.cell? ⟨w.heap.size, 1, none⟩ = some (.int .u8 (b.toNat : Int)) := later_cell r1
      have l2 : ∀ p : Later w3, p.W.cell? ⟨w.heap.size, 2, none⟩ = some (.int .u8 (c.toNat : Int)) := later_cell r2
      have l3 : ∀ p : Later w3, p.W.cell? ⟨w.heap.size, 3, none⟩ = some (.int .u8 (d.toNat : Int)) := later_cell r3
      have l4 : ∀ p : Later w3, p.W.cell? ⟨w.heap.size, 4, none⟩ = some (.int .u8 (e.toNat : Int)) := later_cell r4
      have l5 : ∀ p : Later w3, p.W.cell? ⟨w.heap.size, 5, none⟩ = some (.int .u8 (f.toNat : Int)) := later_cell r5
      have l6 : ∀ p : Later w3, p.W.cell? ⟨w.heap.size, 6, none⟩ = some (.int .u8 (g.toNat : Int)) := later_cell r6
      have l7 : ∀ p : Later w3, p.W.cell? ⟨w.heap.size, 7, none⟩ = some (.int .u8 (h.toNat : Int)) := later_cell r7
      have l8 : ∀ p : Later w3, p.W.cell? ⟨w.heap.size, 8, none⟩ = some (.int .u8 (j.toNat : Int)) := later_cell r8
      have HGO : Hid (∀ p : Later w3, Calls Tryz.prog 65 #[.slice oa m8 cc, .int .u8 (j.toNat : Int)] p.W fun e' w' => e' = .returned (.agg (gcells (grpL ([a, b, c, d, e, f, g, h, j].take m8) j))) ∧ Below p.W.heap.size p.W w') := Lib.hid fun p => qgroupOf_any _ _ j p.W ((BytesOf.own (l := [a, b, c, d, e, f, g, h, j].take m8) (by rw [HPL.out]; exact HO3.out)).keep p.h (Nat.le_refl _)) (by rw [HPL.out]; exact HM8.out)
      clear r0 r1 r2 r3 r4 r5 r6 r7 r8 c0 c1 c2 c3 c4 c5 c6 c7 c8 fr hown hb3
      go_wp2_with fail
      refine wp_region_later (by kernel_rfl) (by kernel_rfl) ?_
      repeat (go_big_quiet_step ((first | (go_at_call 65; exact Calls.later (HGO.out _)))))
      refine wpQuiet_nil ?_
      rintro w4 ⟨⟨W4, hb4⟩, rfl⟩
      have HB4 := Lib.hid hb4
      clear hb4
      go_wp2_with fail
      go_ret2
      refine ⟨oa, cc, rfl, ?_, ?_, ?_⟩
      · exact World.ownsRow.mono (own_keepK HO3.out HB4.out) (by omega)
      · exact (HCP.out.rd.keep HB3.out).keep HB4.out
      · exact (HCP.out.grown.trans (kgrown_below HB3.out _)).trans (kgrown_below HB4.out _)
end Go.Proofs.YtcedeipmboekaaaGreatDoor
namespace Go.Proofs.YtcedeipmboekaaaGreatDoor
open Go.RowKit

/-- the bytes of the group with which l begins, and whether more follow -/
def gread (l : List UInt8) : Option (List UInt8 × Bool) :=
  if l.length < 9 then none
  else if 9 < (l.getD 8 0).toNat then none
  else if grpEq (l.take 9) (grpL ((l.take 9).take (min 8 (l.getD 8 0).toNat)) (l.getD 8 0)) = true then some ((l.take 9).take (min 8 (l.getD 8 0).toNat), (((l.getD 8 0).toNat : Int) == 9)) else none
theorem gread_len {l p : List UInt8} {b : Bool} (h : gread l = some (p, b)) : p.length ≤ 8 ∧ (b = true → p.length = 8) ∧ 9 ≤ l.length := by
  unfold gread at h
  split at h
  · cases h
  · split at h
    · cases h
    · split at h
      · simp only [Option.some.injEq, Prod.mk.injEq] at h
        obtain ⟨rfl, rfl⟩ := h
        refine ⟨by rw [List.length_take, List.length_take]; omega, fun hb => ?_, by omega⟩
        rw [beq_iff_eq] at hb
        rw [List.length_take, List.length_take]
        omega
      · cases h
theorem readG_gread (k : Nat) (l : List UInt8) (c : Nat) : readG (k + 1) l c = match gread l with
    | none => none
    | some (p, true) => if 200 < c + 8 then none else match readG k (l.drop 9) (c + 8) with
      | some (s, n) => some (p ++ s, 9 + n)
      | none => none
    | some (p, false) => if (p.length = 0 ∧ 0 < c) ∨ 200 < c + p.length then none else some (p, 9) := by
  by_cases h9 : l.length < 9
  · rw [readG, if_pos h9]
    unfold gread
    rw [if_pos h9]
  · have hlen9 : (l.take 9).length = 9 := by rw [List.length_take]; omega
    obtain ⟨a, b, c', d, e, f, g, h, j, hr⟩ := list9 _ hlen9
    have hj : l.getD 8 0 = j := by
      have := take8_cons l h9
      rw [hr] at this
      have h8 : (l.take 8).length = 8 := by rw [List.length_take]; omega
      have e2 := congrArg (fun z => z.getD 8 0) this
      simp only [getD8 _ [] _ h8] at e2
      exact e2.symm
    have ht8 : l.take 8 = [a, b, c', d, e, f, g, h] := by
      have : l.take 8 = (l.take 9).take 8 := by rw [List.take_take]; rfl
      rw [this, hr]
      rfl
    have htk : ∀ n, n ≤ 8 → l.take n = [a, b, c', d, e, f, g, h].take n := fun n hn => by rw [← ht8, List.take_take, Nat.min_eq_left hn]
    have hdrop : ∀ n, n ≤ 8 → [a, b, c', d, e, f, g, h, j].take n = [a, b, c', d, e, f, g, h].take n := fun n hn => by
      rw [← hr, List.take_take, Nat.min_eq_left (by omega)]
      exact htk n hn
    by_cases hm9 : 9 < j.toNat
    · rw [readG_last h9 (by rw [hj]; omega), hj, if_neg (fun h => by omega)]
      unfold gread
      rw [if_neg h9, hj, if_pos hm9]
    · by_cases hm : j.toNat = 9
      · have hj9 : j = 9 := UInt8.toNat_inj.1 hm
        subst hj9
        have hg : gread l = some ([a, b, c', d, e, f, g, h], true) := by
          unfold gread
          rw [if_neg h9, hj, if_neg hm9, hr, if_pos (by rw [grpEq_iff (by rfl) (by rfl)]; rfl)]
          rfl
        rw [readG_more h9 (by rw [hj]; rfl), hg, ht8]
        rfl
      · have hm8 : j.toNat ≤ 8 := by omega
        rw [readG_last h9 (by rw [hj]; exact hm), hj, ht8, htk _ hm8]
        unfold gread
        rw [if_neg h9, hj, if_neg hm9, hr, Nat.min_eq_right hm8, hdrop _ hm8]
        have hp : ([a, b, c', d, e, f, g, h].take j.toNat).length = j.toNat := by rw [List.length_take]; show min j.toNat 8 = _; omega
        have hgl : (grpL ([a, b, c', d, e, f, g, h].take j.toNat) j).length = 9 := grpL_length _ (by rw [hp]; exact hm8)
        have hiff : grpEq [a, b, c', d, e, f, g, h, j] (grpL ([a, b, c', d, e, f, g, h].take j.toNat) j) = true ↔ [a, b, c', d, e, f, g, h] = [a, b, c', d, e, f, g, h].take j.toNat ++ List.replicate (8 - j.toNat) 0 := by
          rw [grpEq_iff rfl hgl]
          unfold grpL padG
          rw [hp]
          constructor
          · intro e0
            have := List.append_inj' (show [a, b, c', d, e, f, g, h] ++ [j] = _ from e0) rfl
            exact this.1
          · intro e0
            rw [← e0]
            rfl
        by_cases hq : grpEq [a, b, c', d, e, f, g, h, j] (grpL ([a, b, c', d, e, f, g, h].take j.toNat) j) = true
        · rw [if_pos hq]
          have hb : (((j.toNat : Nat) : Int) == 9) = false := by rw [beq_eq_false_iff_ne]; omega
          rw [hb]
          simp only [hp]
          have he := hiff.1 hq
          by_cases hc : (j.toNat = 0 ∧ 0 < c) ∨ 200 < c + j.toNat
          · rw [if_pos hc, if_neg (fun hh => by rcases hc with hc | hc; exact hh.2.2.1 hc; omega)]
          · rw [if_neg hc, if_pos ⟨hm8, he, fun hh => hc (.inl hh), by omega⟩]
        · rw [if_neg hq, if_neg (fun hh => hq (hiff.2 hh.2.1))]
/-- what group tells -/
def GOut (w : World) (R m : Nat) (s : ByteArray) (i : Nat) (o : Option (List UInt8 × Bool)) (e : Ending) (w' : World) : Prop :=
  match o with
  | none => KGone w R e w'
  | some (p, more) => ∃ oa c, e = .returned (.tuple #[.slice oa p.length c, .bool more]) ∧ w'.ownsRow w.heap.size 5 1 (.slice oa p.length c) p.length (u8s p) ∧ RdK w' R m s (i + 9) ∧ w.grownBy w' (some R)
theorem qgroup_out (R m : Nat) (s : ByteArray) (i : Nat) (w : World) (hr : RdK w R m s i) (hs : s.size ≤ 1000000) (hi : i ≤ s.size) :
    Calls Tryz.prog 66 #[.pointer (some ⟨R, 0, none⟩)] w (GOut w R m s i (gread (s.data.toList.drop i))) := by
  have hlen : (s.data.toList.drop i).length = s.size - i := by rw [List.length_drop]; rfl
  by_cases h9 : s.size < i + 9
  · have : gread (s.data.toList.drop i) = none := by unfold gread; rw [if_pos (by omega)]
    rw [this]
    exact qgroup_short R m s i w hr hs hi h9
  · obtain ⟨a, b, c, d, e, f, g, h, j, hl⟩ := list9 (cutS s i 9) (cutS_eq s i 9 (by omega))
    have hl' : (s.data.toList.drop i).take 9 = [a, b, c, d, e, f, g, h, j] := hl
    have hj : (s.data.toList.drop i).getD 8 0 = j := by
      have := congrArg (fun z => z.getD 8 0) hl'
      simp only [List.getD_eq_getElem?_getD, List.getElem?_take] at this ⊢
      simpa using this
    unfold gread
    rw [if_neg (by omega), hj, hl']
    by_cases hm : 9 < j.toNat
    · rw [if_pos hm]
      exact qgroup_big R m s i w hr hs (by omega) a b c d e f g h j hl hm
    · rw [if_neg hm]
      cases hq : grpEq [a, b, c, d, e, f, g, h, j] (grpL ([a, b, c, d, e, f, g, h, j].take (min 8 j.toNat)) j)
      · rw [if_neg (by simp)]
        exact qgroup_bad R m s i w hr hs (by omega) a b c d e f g h j hl (by omega) hq
      · rw [if_pos rfl]
        have hp : ([a, b, c, d, e, f, g, h, j].take (min 8 j.toNat)).length = min 8 j.toNat := by rw [List.length_take]; show min _ 9 = _; omega
        have := qgroup_ok R m s i w hr hs (by omega) a b c d e f g h j hl (min 8 j.toNat) _ rfl rfl (by omega) hq
        refine this.mono ?_
        rintro e' w' ⟨oa, c', h1, h2, h3, h4⟩
        refine ⟨oa, c', ?_, ?_, h3, h4⟩
        · rw [hp]; exact h1
        · rw [hp]; exact h2
end Go.Proofs.YtcedeipmboekaaaGreatDoor
namespace Go.Proofs.YtcedeipmboekaaaGreatDoor
open Go.RowKit

def posK (w : World) (R : Nat) : Nat := match w.cell? ⟨R, 1, none⟩ with | some v => (intOf v).toNat | none => 0
theorem posK_rd {w : World} {R m i : Nat} {s : ByteArray} (h : RdK w R m s i) : posK w R = i := by
  unfold posK
  rw [h.pos]
  simp [intOf]
/-- what is read behind acc -/
def comb (acc : List UInt8) (d : Nat) : Option (List UInt8 × Nat) → Option (List UInt8 × Nat)
  | some (t, n) => some (acc ++ t, d + n)
  | none => none
/-- where the groups stand -/
def GSt (L0 : List UInt8) (s : ByteArray) (i i' : Nat) (acc : List UInt8) (mb : Bool) : Prop :=
  (mb = true ∧ 0 < acc.length ∧ ∃ k, acc.length = 8 * (29 - k) ∧ 5 ≤ k + 1 ∧ k ≤ 29 ∧ readG 30 L0 0 = comb acc (i' - i) (readG (k + 1) (s.data.toList.drop i') acc.length)) ∨ (mb = false ∧ readG 30 L0 0 = some (acc, i' - i))
theorem gst_step {L0 : List UInt8} {s : ByteArray} {i i' : Nat} {acc p : List UInt8} {b : Bool} (hi : i ≤ i') (h : GSt L0 s i i' acc true) (hg : gread (s.data.toList.drop i') = some (p, b)) :
    if p.length = 0 ∨ 200 < (acc ++ p).length then readG 30 L0 0 = none else GSt L0 s i (i' + 9) (acc ++ p) b := by
  obtain ⟨hp8, hpb, h9⟩ := gread_len hg
  rcases h with ⟨_, h0, k, hk, hk5, hk29, hr⟩ | ⟨h, _⟩
  · rw [readG_gread k (s.data.toList.drop i') acc.length, hg] at hr
    cases b with
    | true =>
      have hp := hpb rfl
      simp only at hr
      by_cases hc : 200 < acc.length + 8
      · rw [if_pos (.inr (by rw [List.length_append, hp]; exact hc))]
        rw [if_pos hc] at hr
        exact hr
      · rw [if_neg (by rw [List.length_append]; omega)]
        rw [if_neg hc] at hr
        refine .inl ⟨rfl, by rw [List.length_append]; omega, k - 1, by rw [List.length_append]; omega, by omega, by omega, ?_⟩
        rw [hr, List.drop_drop, show k - 1 + 1 = k by omega, List.length_append, hp]
        cases readG k (s.data.toList.drop (i' + 9)) (acc.length + 8) with
        | none => rfl
        | some y =>
          obtain ⟨t, n⟩ := y
          simp only [comb, List.append_assoc]
          congr 2
          omega
    | false =>
      simp only at hr
      by_cases hc : (p.length = 0 ∧ 0 < acc.length) ∨ 200 < acc.length + p.length
      · rw [if_pos (by rw [List.length_append]; rcases hc with hc | hc; exact .inl hc.1; exact .inr hc)]
        rw [if_pos hc] at hr
        exact hr
      · rw [if_neg (by rw [List.length_append]; omega)]
        rw [if_neg hc] at hr
        refine .inr ⟨rfl, ?_⟩
        rw [hr]
        simp only [comb]
        congr 2
        omega
  · cases h
theorem gst_none {L0 : List UInt8} {s : ByteArray} {i i' : Nat} {acc : List UInt8} (h : GSt L0 s i i' acc true) (hg : gread (s.data.toList.drop i') = none) : readG 30 L0 0 = none := by
  rcases h with ⟨_, h0, k, hk, hk5, hk29, hr⟩ | ⟨h, _⟩
  · rw [readG_gread k (s.data.toList.drop i') acc.length, hg] at hr
    exact hr
  · cases h
theorem gst_first {s : ByteArray} {i : Nat} {p : List UInt8} {b : Bool} (hg : gread (s.data.toList.drop i) = some (p, b)) : GSt (s.data.toList.drop i) s i (i + 9) p b := by
  obtain ⟨hp8, hpb, h9⟩ := gread_len hg
  have hr := readG_gread 29 (s.data.toList.drop i) 0
  rw [hg] at hr
  cases b with
  | true =>
    have hp := hpb rfl
    simp only at hr
    rw [if_neg (by omega)] at hr
    refine .inl ⟨rfl, by omega, 28, by omega, by omega, by omega, ?_⟩
    rw [hr, List.drop_drop, hp]
    cases readG 29 (s.data.toList.drop (i + 9)) (0 + 8) with
    | none => rfl
    | some y =>
      obtain ⟨t, n⟩ := y
      simp only [comb]
      congr 2
      omega
  | false =>
    simp only at hr
    rw [if_neg (by omega)] at hr
    refine .inr ⟨rfl, ?_⟩
    rw [hr]
    congr 2
    omega
def bytesR : Option (List UInt8 × Nat) → Option (Vl × Nat)
  | some (t, n) => some (⟨4, 0, 0, ⟨t.toArray⟩⟩, n)
  | none => none
set_option maxRecDepth 100000 in
set_option maxHeartbeats 2000000 in
theorem qreadBytes_any (R m : Nat) (s : ByteArray) (i : Nat) (w : World) (hr : RdK w R m s i) (hs : s.size ≤ 1000000) (hi : i ≤ s.size) :
    Calls Tryz.prog 50 #[.pointer (some ⟨R, 0, none⟩)] w (KBody w R m s i (bytesR (readG 30 (s.data.toList.drop i) 0))) := by
  have hR := hr.lt
  have hM := hr.mlt
  have HG := Lib.hid (qgroup_out R m s i _ (hr.alloc (.cells #[.int .i64 0, .int .i64 0, .int .u64 0, .string ⟨#[]⟩] 42)) hs hi)
  obtain ⟨O, hO⟩ : ∃ O, bytesR (readG 30 (s.data.toList.drop i) 0) = O := ⟨_, rfl⟩
  rw [hO]
  have HOO := Lib.hid hO
  clear hO
  cases hg : gread (s.data.toList.drop i) with
  | none =>
    have hn := readG_gread 29 (s.data.toList.drop i) 0
    rw [hg] at hn HG
    have HN := Lib.hid (show O = none by rw [← HOO.out, hn]; rfl)
    clear hr hg hn
    go_enter Tryz.func50, Tryz.ntmps50
    go_wp2_with fail
    refine HG.out.mono ?_
    rintro e w1 ⟨⟨t, rfl⟩, hg1⟩
    refine ⟨rfl, ?_⟩
    rw [HN.out]
    exact ⟨⟨_, rfl⟩, (World.grownBy_alloc w _ _).trans hg1⟩
  | some y =>
    obtain ⟨p, mb⟩ := y
    have hgl := gread_len hg
    rw [List.length_drop] at hgl
    have hsz : s.data.toList.length = s.size := by rw [Array.length_toList]; rfl
    have HS0 := Lib.hid (gst_first hg)
    rw [hg] at HG
    clear hr hg
    go_enter Tryz.func50, Tryz.ntmps50
    go_wp2_with fail
    refine HG.out.mono ?_
    rintro e w1 ⟨oa, c, rfl, hown, hrd, hgr⟩
    obtain ⟨pn, hpn⟩ : ∃ pn, p.length = pn := ⟨_, rfl⟩
    have HO1 := Lib.hid (World.ownsRow.mono hown (show w.heap.size + 1 ≤ _ by simp))
    have HRD1 := Lib.hid hrd
    have HGR1 := Lib.hid hgr
    have HPN := Lib.hid hpn
    have hi9 : i + 9 ≤ s.size := by omega
    have hp8 : pn ≤ 8 := by omega
    rw [hpn] at HO1 ⊢
    clear hown hrd hgr hpn hgl hsz
    go_wp2_with fail
    go_loopw [3, 4] (fun b mo wr => ∃ (acc : List UInt8) (n : Nat) (a7 : Option Addr) (c7 i' : Nat) (mb : Bool), b = .slice a7 n c7 ∧ mo = .bool mb ∧ Hid (acc.length = n) ∧ Hid (wr.ownsRow (w.heap.size + 1) 5 1 (.slice a7 n c7) n (u8s acc)) ∧ Hid (RdK wr R m s i') ∧ i ≤ i' ∧ i' ≤ s.size ∧ n ≤ 200 ∧ Hid ((w.alloc (.cells #[.int .i64 0, .int .i64 0, .int .u64 0, .string ⟨#[]⟩] 42)).grownBy wr (some R)) ∧ Hid (GSt (s.data.toList.drop i) s i i' acc mb)) (fun _ _ wr => s.size - posK wr R)
    case atStart => exact ⟨p, pn, oa, c, i + 9, mb, rfl, rfl, HPN, HO1, HRD1, by omega, hi9, by omega, HGR1, HS0⟩
    case round =>
      obtain ⟨acc, n, a7, c7, i', mb', rfl, rfl, HN, HO, HRD, hi0, hi1, hn2, HGR, HST⟩ := hrel
      have hzw := HGR.out.size
      rw [World.size_alloc] at hzw
      clear HO1 HRD1 HGR1 HS0 HPN HG
      cases mb' with
      | true =>
        have HG2 := Lib.hid (qgroup_out R m s i' wr HRD.out hs hi1)
        cases hg2 : gread (s.data.toList.drop i') with
        | none =>
          have HNN := Lib.hid (gst_none HST.out hg2)
          rw [hg2] at HG2
          clear hg2
          go_wp2_with fail
          refine HG2.out.mono ?_
          rintro e w2 ⟨⟨t, rfl⟩, hg1⟩
          refine ⟨rfl, ?_⟩
          rw [← HOO.out, HNN.out]
          exact ⟨⟨_, rfl⟩, ((World.grownBy_alloc w _ _).trans HGR.out).trans hg1⟩
        | some y =>
          obtain ⟨p2, b2⟩ := y
          have hgl := gread_len hg2
          rw [List.length_drop] at hgl
          have hszl : s.data.toList.length = s.size := by rw [Array.length_toList]; rfl
          have HST2 := Lib.hid (gst_step hi0 HST.out hg2)
          rw [hg2] at HG2
          clear hg2
          go_wp2_with fail
          refine HG2.out.mono ?_
          rintro e w2 ⟨oa2, c2, rfl, hown2, hrd2, hgr2⟩
          obtain ⟨pn2, hpn2⟩ : ∃ pn2, p2.length = pn2 := ⟨_, rfl⟩
          have HX := Lib.hid (BytesOf.own hown2)
          have hzw2 := hgr2.size
          have hO2 : w2.ownsRow (w.heap.size + 1) 5 1 (.slice a7 n c7) n (u8s acc) := HO.out.kept hgr2 (.inr (fun e => by have := (HO.out.lt R e).1; omega))
          have HO2 := Lib.hid hO2
          have HRD2 := Lib.hid hrd2
          have HGR2 := Lib.hid (HGR.out.trans hgr2)
          have HPN2 := Lib.hid hpn2
          have hp28 : pn2 ≤ 8 := by omega
          have hi29 : i' + 9 ≤ s.size := by omega
          rw [hpn2] at HX ⊢
          obtain ⟨na, hna⟩ : ∃ na, acc.length + pn2 = na := ⟨_, rfl⟩
          have HNA := Lib.hid hna
          have hna2 : na ≤ 208 := by have := HN.out; omega
          clear hown2 hrd2 hgr2 hpn2 hgl hszl hO2 hna HO HST HG2
          go_wp2_with (at_builtin; refine wpList_append_bytes rfl _ _ rfl (w.heap.size + 1) _ _ _ acc p2 rfl rfl (by rw [HN.out]; exact HO2.out) rfl HX.out ?e1 ?e2 ?_)
          case e1 => have := HN.out; have := HPN2.out; omega
          case e2 => omega
          intro v4 w4 hown4 hg4
          obtain ⟨a4, c4, rfl⟩ := own_slice hown4
          have hnn : acc.length + p2.length = na := by rw [HPN2.out]; exact HNA.out
          rw [hnn] at hown4 ⊢
          have HO4 := Lib.hid hown4
          have hlo : ∀ r, (Value.slice a7 n c7).ownBlock = some r → w.heap.size + 1 ≤ r := fun r hr => (HO2.out.lt r hr).1
          have HRD4 : Hid (RdK w4 R m s (i' + 9)) := Lib.hid (by
            obtain ⟨q0, q1, q2, q3, q4, q5⟩ := HRD2.out
            have hR2 := World.block_lt_of_cell? w2 _ q0
            have hfar : ∀ o, w4.cell? ⟨R, o, none⟩ = w2.cell? ⟨R, o, none⟩ := fun o => hg4.cell_far _ hR2 (fun e => by have := hlo R e.symm; omega)
            exact ⟨(hfar 0).trans q0, (hfar 1).trans q1, (hfar 2).trans q2, (hg4.frozen_far ⟨R, 1, none⟩ hR2 (fun e => by have := hlo R e.symm; omega)).trans q3, (hg4.block m (Array.getElem?_eq_some_iff.1 q4).1 (fun e => by have := hlo m e.symm; omega)).trans q4, q5⟩)
          have HGR4 : Hid ((w.alloc (.cells #[.int .i64 0, .int .i64 0, .int .u64 0, .string ⟨#[]⟩] 42)).grownBy w4 (some R)) := Lib.hid ⟨hg4.os.trans HGR2.out.os, hg4.tape.trans HGR2.out.tape, hg4.output.trans HGR2.out.output, Nat.le_trans HGR2.out.size hg4.size, fun k hk hkR => (hg4.block k (Nat.lt_of_lt_of_le hk HGR2.out.size) (fun e => by have := hlo k e.symm; rw [World.size_alloc] at hk; omega)).trans (HGR2.out.block k hk hkR)⟩
          clear hown4 hg4 hlo HO2 HX HRD2 HGR2
          by_cases hbad : pn2 = 0 ∨ 200 < na
          · have hno : readG 30 (s.data.toList.drop i) 0 = none := by
              have := HST2.out
              rw [if_pos (by rw [List.length_append, hnn, HPN2.out]; exact hbad)] at this
              exact this
            have HNN := Lib.hid hno
            clear hno
            rcases hbad with rfl | hbad
            · go_wp2_with fail
              refine ⟨rfl, ?_⟩
              rw [← HOO.out, HNN.out]
              exact ⟨⟨_, rfl⟩, (World.grownBy_alloc w _ _).trans HGR4.out⟩
            · have hb2 : (200 : Int) < (na : Int) := by omega
              by_cases h0 : pn2 = 0
              · subst h0
                go_wp2_with fail
                refine ⟨rfl, ?_⟩
                rw [← HOO.out, HNN.out]
                exact ⟨⟨_, rfl⟩, (World.grownBy_alloc w _ _).trans HGR4.out⟩
              · have h0' : ((pn2 : Int) == 0) = false := by rw [beq_eq_false_iff_ne]; omega
                go_wp2_with fail
                refine ⟨rfl, ?_⟩
                rw [← HOO.out, HNN.out]
                exact ⟨⟨_, rfl⟩, (World.grownBy_alloc w _ _).trans HGR4.out⟩
          · have h0' : ((pn2 : Int) == 0) = false := by rw [beq_eq_false_iff_ne]; omega
            have hb2 : ¬ (200 : Int) < (na : Int) := by omega
            have hst := HST2.out
            rw [if_neg (by rw [List.length_append, hnn, HPN2.out]; exact hbad)] at hst
            have HST4 := Lib.hid hst
            have HNL := Lib.hid (show (acc ++ p2).length = na by rw [List.length_append]; exact hnn)
            have hpos := posK_rd HRD.out
            have HPOS := Lib.hid hpos
            clear hst hpos hnn
            go_wp2_with fail
            go_roundw
            case rel => exact ⟨acc ++ p2, na, a4, c4, i' + 9, b2, rfl, rfl, HNL, HO4, HRD4, by omega, hi29, by omega, HGR4, HST4⟩
            case measure => rw [posK_rd HRD4.out, HPOS.out]; omega
      | false =>
        have hfin : readG 30 (s.data.toList.drop i) 0 = some (acc, i' - i) := by
          rcases HST.out with ⟨h, _⟩ | ⟨_, h⟩
          · cases h
          · exact h
        have hcv := bytes_string (BytesOf.own (l := acc) (by rw [HN.out]; exact HO.out)).at
        obtain ⟨c0, c1, c2, c3, f⟩ := resK hR HGR.out
        have hOO : O = some (⟨4, 0, 0, ⟨acc.toArray⟩⟩, i' - i) := by rw [← HOO.out, hfin]; rfl
        have HP : Hid (∀ a b c d, KBody w R m s i O (.returned (.agg #[.int .i64 4, .int .i64 0, .int .u64 0, .string ⟨acc.toArray⟩])) ((((wr.setCell ⟨w.heap.size, 0, none⟩ a).setCell ⟨w.heap.size, 1, none⟩ b).setCell ⟨w.heap.size, 2, none⟩ c).setCell ⟨w.heap.size, 3, none⟩ d)) := Lib.hid fun a b c d => by
          rw [hOO]
          show KGot w R m s (i + (i' - i)) _ _ _
          rw [show i + (i' - i) = i' by omega]
          exact kgot_res hR hM HRD.out HGR.out
        obtain ⟨t, ht⟩ : ∃ t : ByteArray, (⟨acc.toArray⟩ : ByteArray) = t := ⟨_, rfl⟩
        rw [ht] at hcv HP
        clear hfin hOO ht HO HN HST HRD HGR HOO
        go_wp2_with fail
        exact bodyPost_ret (v := .agg #[.int .i64 4, .int .i64 0, .int .u64 0, .string t]) (by simp [results, Tryz.results50, go_sem, c0, c1, c2, c3]) rfl (HP.out _ _ _ _)
end Go.Proofs.YtcedeipmboekaaaGreatDoor
