/-
  Lists held against each other, item by item: pure facts; two columns held against each other.
-/
import Derived.Test.YtjlhbpacecbfmaaGreatDoorSMem
namespace Go.Proofs.YtjlhbpacecbfmaaGreatDoor
open Go.RowKit

def allEq {α : Type} (p : α → α → Bool) : List α → List α → Bool
  | [], [] => true
  | x :: l, y :: m => p x y && allEq p l m
  | _, _ => false
theorem allEq_len {α : Type} {p : α → α → Bool} : ∀ {l m : List α}, l.length ≠ m.length → allEq p l m = false
  | [], [], h => absurd rfl h
  | [], _ :: _, _ => rfl
  | _ :: _, [], _ => rfl
  | x :: l, y :: m, h => by
    show (p x y && allEq p l m) = false
    rw [allEq_len (fun e => h (by simp [e])), Bool.and_false]
theorem allEq_refl {α : Type} {p : α → α → Bool} (h : ∀ x, p x x = true) : ∀ l : List α, allEq p l l = true
  | [] => rfl
  | x :: l => by show (p x x && allEq p l l) = true; rw [h, allEq_refl h l]; rfl
theorem allEq_symm {α : Type} {p : α → α → Bool} (h : ∀ x y, p x y = p y x) : ∀ l m : List α, allEq p l m = allEq p m l
  | [], [] => rfl
  | [], _ :: _ => rfl
  | _ :: _, [] => rfl
  | x :: l, y :: m => by show (p x y && allEq p l m) = (p y x && allEq p m l); rw [h x y, allEq_symm h l m]
def ERel {α : Type} (p : α → α → Bool) (l m : List α) (k : Nat) : Prop := allEq p l m = allEq p (l.drop k) (m.drop k)
theorem ERel.zero {α : Type} (p : α → α → Bool) (l m : List α) : ERel p l m 0 := rfl
theorem ERel.step {α : Type} {p : α → α → Bool} {l m : List α} {k : Nat} {x y : α} (h : ERel p l m k) (hl : k < l.length) (hm : k < m.length) (hx : l[k] = x) (hy : m[k] = y) : allEq p l m = (p x y && allEq p (l.drop (k + 1)) (m.drop (k + 1))) := by
  unfold ERel at h
  rw [h, List.drop_eq_getElem_cons hl, List.drop_eq_getElem_cons hm, hx, hy]
  rfl
theorem ERel.next {α : Type} {p : α → α → Bool} {l m : List α} {k : Nat} {x y : α} (h : ERel p l m k) (hl : k < l.length) (hm : k < m.length) (hx : l[k] = x) (hy : m[k] = y) (h0 : p x y = true) : ERel p l m (k + 1) := by
  unfold ERel
  rw [h.step hl hm hx hy, h0, Bool.true_and]
theorem ERel.hit {α : Type} {p : α → α → Bool} {l m : List α} {k : Nat} {x y : α} (h : ERel p l m k) (hl : k < l.length) (hm : k < m.length) (hx : l[k] = x) (hy : m[k] = y) (h0 : p x y = false) : allEq p l m = false := by
  rw [h.step hl hm hx hy, h0, Bool.false_and]
theorem ERel.done {α : Type} {p : α → α → Bool} {l m : List α} {k : Nat} (h : ERel p l m k) (hl : l.length ≤ k) (hm : m.length ≤ k) : allEq p l m = true := by
  unfold ERel at h
  rw [h, List.drop_eq_nil_of_le hl, List.drop_eq_nil_of_le hm]
  rfl

/-- are two columns the same? -/
def colB (c d : Col) : Bool := c.n.toList == d.n.toList && (c.t == d.t && (c.z == d.z && c.u == d.u))
def intB (x y : Int) : Bool := x == y
def intsB (l m : List Int) : Bool := allEq intB l m
/-- are two schemas the same? -/
def sameB (S T : Sch) : Bool := allEq colB S.cols T.cols && (intsB S.key T.key && allEq intsB S.uqs T.uqs)
theorem colB_refl (c : Col) : colB c c = true := by simp [colB]
theorem colB_symm (c d : Col) : colB c d = colB d c := by
  unfold colB
  rw [Bool.eq_iff_iff]
  simp only [Bool.and_eq_true, beq_iff_eq]
  constructor <;> (rintro ⟨h1, h2, h3, h4⟩; exact ⟨h1.symm, h2.symm, h3.symm, h4.symm⟩)
theorem intB_refl (x : Int) : intB x x = true := by simp [intB]
theorem intB_symm (x y : Int) : intB x y = intB y x := by
  unfold intB
  rw [Bool.eq_iff_iff, beq_iff_eq, beq_iff_eq]
  exact ⟨Eq.symm, Eq.symm⟩
theorem intsB_refl (l : List Int) : intsB l l = true := allEq_refl intB_refl l
theorem intsB_symm (l m : List Int) : intsB l m = intsB m l := allEq_symm intB_symm l m
theorem sameB_refl (S : Sch) : sameB S S = true := by
  unfold sameB
  rw [allEq_refl colB_refl, intsB_refl, allEq_refl intsB_refl]
  rfl
theorem sameB_symm (S T : Sch) : sameB S T = sameB T S := by
  unfold sameB
  rw [allEq_symm colB_symm, intsB_symm, allEq_symm intsB_symm]

theorem run_eql_col (n : ByteArray) (t z : Int) (u : Bool) (n' : ByteArray) (t' z' : Int) (u' : Bool) (w : World) :
    (binOp .eql 43 (.agg #[.string n, .int .i64 t, .int .i64 z, .bool u]) (.agg #[.string n', .int .i64 t', .int .i64 z', .bool u'])).run Tryz.prog w = .ok (.bool (colB ⟨n, t, z, u⟩ ⟨n', t', z', u'⟩)) w := by
  unfold colB
  cases h1 : n.toList == n'.toList <;> cases h2 : t == t' <;> cases h3 : z == z' <;> cases h4 : u == u' <;> (go_simp; try simp [h1, h2, h3, h4])
theorem run_neq_col (n : ByteArray) (t z : Int) (u : Bool) (n' : ByteArray) (t' z' : Int) (u' : Bool) (w : World) :
    (binOp .neq 43 (.agg #[.string n, .int .i64 t, .int .i64 z, .bool u]) (.agg #[.string n', .int .i64 t', .int .i64 z', .bool u'])).run Tryz.prog w = .ok (.bool (!colB ⟨n, t, z, u⟩ ⟨n', t', z', u'⟩)) w := by
  unfold colB
  cases h1 : n.toList == n'.toList <;> cases h2 : t == t' <;> cases h3 : z == z' <;> cases h4 : u == u' <;> (go_simp; try simp [h1, h2, h3, h4])

set_option maxHeartbeats 400000 in
theorem sameI_any (x y : Int) (w : World) :
    Calls Tryz.prog 50 #[.int .i64 x, .int .i64 y] w fun e w' => e = .returned (.bool (intB x y)) ∧ w = w' := by
  unfold intB
  cases hb : x == y
  all_goals
    go_enter Tryz.func50, Tryz.ntmps50
    go_wp2
    go_ret
    exact ⟨rfl, rfl⟩
set_option maxHeartbeats 400000 in
theorem sameC_any (c d : Col) (w : World) :
    Calls Tryz.prog 52 #[.agg #[.string c.n, .int .i64 c.t, .int .i64 c.z, .bool c.u], .agg #[.string d.n, .int .i64 d.t, .int .i64 d.z, .bool d.u]] w fun e w' => e = .returned (.bool (colB c d)) ∧ Below w.heap.size w w' := by
  have hr := run_eql_col c.n c.t c.z c.u d.n d.t d.z d.u
  obtain ⟨cn, ct, cz, cu⟩ := c
  obtain ⟨dn, dt, dz, du⟩ := d
  simp only at hr
  generalize colB ⟨cn, ct, cz, cu⟩ ⟨dn, dt, dz, du⟩ = b at *
  go_enter Tryz.func52, Tryz.ntmps52
  go_wp2
  go_ret
  exact ⟨rfl, by go_grown⟩
end Go.Proofs.YtjlhbpacecbfmaaGreatDoor
