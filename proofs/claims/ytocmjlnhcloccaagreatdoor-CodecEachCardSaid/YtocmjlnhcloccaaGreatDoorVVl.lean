/-
  Values, lists of values, their order: no program.
-/
import Derived.Test.YtocmjlnhcloccaaGreatDoorRCheck
namespace Go.Proofs.YtocmjlnhcloccaaGreatDoor
open Go.RowKit

def cmpI (a b : Int) : Int := if a < b then -1 else if b < a then 1 else 0
def cmpS (a b : ByteArray) : Int := if Op.bytesLess a.toList b.toList = true then -1 else if (a.toList == b.toList) = true then 0 else 1

def or4 (a b c d : Int) : Int := if a ≠ 0 then a else if b ≠ 0 then b else if c ≠ 0 then c else d
def ord (k i u : Int) (s : ByteArray) (k' i' u' : Int) (s' : ByteArray) : Int := or4 (cmpI k k') (cmpI i i') (cmpI u u') (cmpS s s')

/-- The numbers of a value lie in their kinds; its bytes are few. -/
structure InR (i u : Int) (s : ByteArray) : Prop where
  i0 : -9223372036854775808 ≤ i
  i1 : i ≤ 9223372036854775807
  u0 : 0 ≤ u
  u1 : u ≤ 18446744073709551615
  z : s.size ≤ 300

/-- a value -/
structure Vl where
  k : Int
  i : Int
  u : Int
  s : ByteArray
def Vl.val (v : Vl) : Value := .agg #[.int .i64 v.k, .int .i64 v.i, .int .u64 v.u, .string v.s]
def Vl.ok (v : Vl) : Prop := InR v.i v.u v.s
/-- the cells of a value -/
def ValAt (w : World) (a : Addr) (v : Vl) : Prop := w.cell? a = some (.int .i64 v.k) ∧ w.cell? ⟨a.block, a.off + 1, none⟩ = some (.int .i64 v.i) ∧ w.cell? ⟨a.block, a.off + 2, none⟩ = some (.int .u64 v.u) ∧ w.cell? ⟨a.block, a.off + 3, none⟩ = some (.string v.s)
/-- the cells of a list of values -/
def ValsAt (w : World) (a : Addr) (l : List Vl) : Prop := ∀ (j : Nat) (h : j < l.length), ValAt w (a.add (j * 4)) l[j]
/-- a slice of values -/
def SliceOf (w : World) (v : Value) (l : List Vl) : Prop := (v = .slice none 0 0 ∧ l = []) ∨ ∃ a cap, v = .slice (some a) l.length cap ∧ l.length ≤ cap ∧ ValsAt w a l

def Vl.chk (v : Vl) : Int := Go.Proofs.YtocmjlnhcloccaaGreatDoor.chk v.k v.i v.u v.s
def Vl.ord (a b : Vl) : Int := Go.Proofs.YtocmjlnhcloccaaGreatDoor.ord a.k a.i a.u a.s b.k b.i b.u b.s
def lists : List Vl → List Vl → Int
  | x :: l, y :: m => if x.ord y ≠ 0 then x.ord y else lists l m
  | l, m => cmpI l.length m.length
def LRel (l m : List Vl) (k : Nat) : Prop := lists l m = lists (l.drop k) (m.drop k)

theorem LRel.zero (l m : List Vl) : LRel l m 0 := rfl
theorem LRel.yes {l m : List Vl} {k : Nat} {x y : Vl} (h : LRel l m k) (hl : k < l.length) (hm : k < m.length) (hx : l[k] = x) (hy : m[k] = y) (h0 : x.ord y = 0) : LRel l m (k + 1) := by
  unfold LRel at *
  rw [h, List.drop_eq_getElem_cons hl, List.drop_eq_getElem_cons hm]
  simp [lists, hx, hy, h0]
theorem LRel.no {l m : List Vl} {k : Nat} {x y : Vl} (h : LRel l m k) (hl : k < l.length) (hm : k < m.length) (hx : l[k] = x) (hy : m[k] = y) (h0 : x.ord y ≠ 0) : lists l m = x.ord y := by
  unfold LRel at *
  rw [h, List.drop_eq_getElem_cons hl, List.drop_eq_getElem_cons hm]
  simp [lists, hx, hy, h0]
theorem cmpI_sub (a b : Nat) (k : Nat) (ha : k ≤ a) (hb : k ≤ b) : cmpI ((a - k : Nat) : Int) ((b - k : Nat) : Int) = cmpI (a : Int) (b : Int) := by
  unfold cmpI
  split <;> split <;> (try split) <;> (try split) <;> omega
theorem LRel.all {l m : List Vl} {k : Nat} (h : LRel l m k) (hl : k ≤ l.length) (hm : k ≤ m.length) (he : k = l.length ∨ k = m.length) : lists l m = cmpI l.length m.length := by
  unfold LRel at h
  rw [h, ← cmpI_sub _ _ k hl hm, ← List.length_drop, ← List.length_drop]
  rcases he with rfl | rfl
  · rw [List.drop_of_length_le (Nat.le_refl _)]; simp [lists]
  · rw [List.drop_of_length_le (l := m) (Nat.le_refl _)]; cases List.drop m.length l <;> simp [lists]

theorem ValAt.lt {w : World} {a : Addr} {v : Vl} (h : ValAt w a v) : a.block < w.heap.size := World.block_lt_of_cell? w a h.1
theorem ValAt.keep {w w' : World} {B : Nat} {a : Addr} {v : Vl} (h : ValAt w a v) (hb : Below B w w') (hB : w.heap.size ≤ B) : ValAt w' a v := by
  have hl := h.lt
  refine ⟨?_, ?_, ?_, ?_⟩
  · rw [hb.cell (by omega)]; exact h.1
  · rw [hb.cell (by simp; omega)]; exact h.2.1
  · rw [hb.cell (by simp; omega)]; exact h.2.2.1
  · rw [hb.cell (by simp; omega)]; exact h.2.2.2

theorem SliceOf.keep {w w' : World} {B : Nat} {v : Value} {l : List Vl} (h : SliceOf w v l) (hb : Below B w w') (hB : w.heap.size ≤ B) : SliceOf w' v l := by
  rcases h with ⟨rfl, rfl⟩ | ⟨a, cap, rfl, hc, ha⟩
  · exact .inl ⟨rfl, rfl⟩
  · exact .inr ⟨a, cap, rfl, hc, fun j hj => (ha j hj).keep hb hB⟩
theorem held_trans {w a b : World} (h : Below w.heap.size w a) (k : Below a.heap.size a b) : Below w.heap.size w b := h.trans (k.mono h.size)
end Go.Proofs.YtocmjlnhcloccaaGreatDoor
