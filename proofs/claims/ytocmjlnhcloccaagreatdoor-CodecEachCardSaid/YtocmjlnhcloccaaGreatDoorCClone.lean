/-
  slices.Clone at columns and at bytes.
-/
import Derived.Test.YtocmjlnhcloccaaGreatDoorCEachP
import Derived.Test.YtocmjlnhcloccaaGreatDoorOctA
import Derived.Deep.OwnRows
import Derived.Lib.SliceRun
namespace Go.Proofs.YtocmjlnhcloccaaGreatDoor
open Go.RowKit

def cc4 (c : Col) : List Value := [.string c.n, .int .i64 c.t, .int .i64 c.z, .bool c.u]
def ccells (l : List Col) : List Value := l.flatMap cc4
theorem ccells_len : ∀ l : List Col, (ccells l).length = l.length * 4
  | [] => rfl
  | x :: l => by
    show (cc4 x ++ ccells l).length = _
    rw [List.length_append, ccells_len l, List.length_cons]
    show 4 + _ = _
    omega
theorem ccells_at : ∀ (l : List Col) (j : Nat) (h : j < l.length) (i : Nat), i < 4 → (ccells l)[j * 4 + i]? = (cc4 l[j])[i]?
  | x :: l, 0, _, i, hi => by
    show (cc4 x ++ ccells l)[0 * 4 + i]? = (cc4 x)[i]?
    rw [List.getElem?_append_left (by show 0 * 4 + i < 4; omega), show 0 * 4 + i = i by omega]
  | x :: l, j + 1, h, i, hi => by
    show (cc4 x ++ ccells l)[(j + 1) * 4 + i]? = (cc4 (x :: l)[j + 1])[i]?
    rw [List.getElem?_append_right (by show 4 ≤ (j + 1) * 4 + i; omega), show (j + 1) * 4 + i - (cc4 x).length = j * 4 + i by show (j + 1) * 4 + i - 4 = _; omega, ccells_at l j (by simpa using h) i hi]
    rfl
theorem cl_add (a : Addr) (j i : Nat) (hi : i ≠ 0) : a.add (j * 4 + i) = ⟨(a.add (j * 4)).block, (a.add (j * 4)).off + i, none⟩ := by
  unfold Addr.add
  split <;> split <;> simp_all <;> omega
theorem cl_from (g j : Nat) : (⟨g, 0, none⟩ : Addr).add j = ⟨g, j, none⟩ := by
  unfold Addr.add
  split
  · simp_all
  · simp
theorem infoCl : (Tryz.prog.info? 64).map (fun i => (i.zero, i.size, i.bytes)) = some (some (.agg #[.string ⟨#[]⟩, .int .i64 0, .int .i64 0, .bool false]), 4, 40) := by kernel_rfl
/-- columns of the call's own -/
structure NewC (w w' : World) (oa : Option Addr) (l : List Col) : Prop where
  cols : ColsIn w' oa l
  new : ∀ a, oa = some a → w.heap.size ≤ a.block ∧ a.block < w'.heap.size
  below : Below w.heap.size w w'
theorem own_cols {W : World} {B n : Nat} {v : Value} {l : List Col} (h : W.ownsRow B 64 4 v n (ccells l)) (hn : l.length = n) : ∃ oa cap, v = .slice oa n cap ∧ ColsIn W oa l ∧ ∀ a, oa = some a → B ≤ a.block ∧ a.block < W.heap.size := by
  have h0 := h
  rcases h.2 with ⟨e, hn0⟩ | ⟨g, cap, cur, e, _, hgb, hnc, _⟩
  · exact ⟨none, 0, by rw [e, hn0], fun j hj => by omega, fun a e => by cases e⟩
  · subst e
    have hlt := h.lt g rfl
    refine ⟨_, cap, rfl, fun j hj => ⟨_, rfl, ?_⟩, fun a e => by cases e; exact hlt⟩
    rw [cl_from]
    have q : ∀ i, i < 4 → W.cell? ⟨g, j * 4 + i, none⟩ = (cc4 l[j])[i]? := fun i hi => by
      rw [h0.cellAt (j * 4 + i) (by omega), ccells_at l j hj i hi]
    exact ⟨q 0 (by omega), q 1 (by omega), q 2 (by omega), q 3 (by omega)⟩
set_option maxRecDepth 100000 in
set_option maxHeartbeats 1000000 in
theorem CloneC_any (oa : Option Addr) (cap : Nat) (l : List Col) (w : World) (hi : ColsIn w oa l) (hl : l.length ≤ 1000) :
    Calls Tryz.prog 41 #[.slice oa l.length cap] w fun e w' => ∃ ob cb, e = .returned (.slice ob l.length cb) ∧ NewC w w' ob l := by
  have q23 : ∀ (w : World) (a : Option Addr) (n c n' c' : Nat), (binOp .eql 22 (.slice a n c) (.slice none n' c')).run Tryz.prog w = .ok (.bool a.isNone) w := fun w a n c n' c' => Lib.run_eql_slice_nil w _ _ a n c n' c' Tryz.underlying22
  cases oa with
  | none =>
    have hz : l = [] := by
      cases l with
      | nil => rfl
      | cons x l => obtain ⟨a, e, _⟩ := hi 0 (by simp); cases e
    subst hz
    clear hi
    go_enter Tryz.func41, Tryz.ntmps41
    go_wp2
    go_ret
    exact ⟨none, 0, rfl, ⟨fun j hj => absurd hj (Nat.not_lt_zero j), (fun _ h => by cases h), Below.refl _ _⟩⟩
  | some ad =>
    obtain ⟨i0, hi0, hz0, hz1, hz2⟩ := info_parts infoCl
    have HI := Lib.hid hi
    clear hi
    go_enter Tryz.func41, Tryz.ntmps41
    go_wp2_with (first | (at_builtin; refine wpList_append_own _ rfl _ _ 22 rfl w.heap.size 64 i0 (.agg #[.string ⟨#[]⟩, .int .i64 0, .int .i64 0, .bool false]) 4 40 Tryz.underlying22 hi0 hz0 hz1 hz2 rfl (by decide) _ 0 [] rfl (World.ownsRow_made w #[] 0 (Nat.le_refl _) (by decide) (by simp)) ad l.length cap (ccells l) rfl (ccells_len l) ?e1 ?e2 ?e3 ?e4 ?e5 ?_))
    case e1 =>
      intro j u hj
      have hjl : j < (ccells l).length := (List.getElem?_eq_some_iff.1 hj).1
      rw [ccells_len] at hjl
      obtain ⟨q, r, hr, rfl⟩ : ∃ q r, r < 4 ∧ j = q * 4 + r := ⟨j / 4, j % 4, Nat.mod_lt _ (by decide), by omega⟩
      have hq : q < l.length := by omega
      rw [ccells_at l q hq r hr] at hj
      obtain ⟨a, e, h0, h1, h2, h3⟩ := HI.out.keep ((Below.refl _ _).alloc (Nat.le_refl _) (.cells #[] 64)) (Nat.le_refl _) q hq
      cases e
      match r, hr, hj with
      | 0, _, hj => rw [Nat.add_zero, h0]; simpa [cc4] using hj
      | 1, _, hj => rw [cl_add _ _ _ (by decide), h1]; simpa [cc4] using hj
      | 2, _, hj => rw [cl_add _ _ _ (by decide), h2]; simpa [cc4] using hj
      | 3, _, hj => rw [cl_add _ _ _ (by decide), h3]; simpa [cc4] using hj
    case e2 =>
      intro u hu
      unfold ccells at hu
      obtain ⟨x, _, hx⟩ := List.mem_flatMap.1 hu
      simp [cc4] at hx
      rcases hx with rfl | rfl | rfl | rfl <;> rfl
    case e3 => unfold maxLen; omega
    case e4 => omega
    case e5 => simp
    intro v4 w4 hown4 hg4 _
    have hb4 : Below w.heap.size w w4 := ((Below.refl _ _).alloc (Nat.le_refl _) (.cells #[] 64)).grown hg4 (by simp) (fun x hx => by cases hx; exact Nat.le_refl _)
    obtain ⟨ob, cb, rfl, h1, h3⟩ := own_cols hown4 rfl
    have HN := Lib.hid (show NewC w w4 ob l from ⟨h1, h3, hb4⟩)
    clear hown4 hg4 hb4 h1 h3
    go_wp2_with fail
    go_ret
    exact ⟨ob, cb, rfl, HN.out⟩
/-- bytes of the call's own -/
structure NewB (w w' : World) (oa : Option Addr) (cap : Nat) (l : List UInt8) : Prop where
  bytes : BytesOf w' (.slice oa l.length cap) l
  new : ∀ a, oa = some a → w.heap.size ≤ a.block ∧ a.block < w'.heap.size
  below : Below w.heap.size w w'

set_option maxRecDepth 100000 in
set_option maxHeartbeats 1000000 in
theorem CloneBC_any (v : Value) (l : List UInt8) (w : World) (hv : BytesOf w v l) (hl : l.length ≤ 900000) :
    Calls Tryz.prog 42 #[v] w fun e w' => ∃ oa cap, e = .returned (.slice oa l.length cap) ∧ NewB w w' oa cap l := by
  have q23 : ∀ (w : World) (a : Option Addr) (n c n' c' : Nat), (binOp .eql 31 (.slice a n c) (.slice none n' c')).run Tryz.prog w = .ok (.bool a.isNone) w := fun w a n c n' c' => Lib.run_eql_slice_nil w _ _ a n c n' c' Tryz.underlying31
  rcases hv with ⟨rfl, rfl⟩ | ⟨ad, cap, rfl, hcap, hc⟩
  · go_enter Tryz.func42, Tryz.ntmps42
    go_wp2
    go_ret
    exact ⟨none, 0, rfl, ⟨.inl ⟨rfl, rfl⟩, (fun _ h => by cases h), Below.refl _ _⟩⟩
  · have HV := Lib.hid (show BytesOf w (.slice (some ad) l.length cap) l from .inr ⟨ad, cap, rfl, hcap, hc⟩)
    clear hc
    go_enter Tryz.func42, Tryz.ntmps42
    go_wp2_with (first | (at_builtin; refine wpList_append_bytes rfl _ _ rfl w.heap.size _ (.slice (some ad) l.length cap) 0 [] l rfl rfl (World.ownsRow_made w #[] 0 (Nat.le_refl _) (by decide) (by simp)) rfl (HV.out.keep ((Below.refl _ _).alloc (Nat.le_refl _) _) (Nat.le_refl _)) ?c1 ?c2 ?_))
    case c1 => omega
    case c2 => simp
    intro v2 w2 hown2 hg2
    have hb2 : Below w.heap.size w w2 := ((Below.refl _ _).alloc (Nat.le_refl _) (.cells #[] 5)).grown hg2 (by simp) (fun x hx => by cases hx; exact Nat.le_refl _)
    have hs := BytesOf.own hown2
    have hlt := hown2.lt
    obtain ⟨ob, cap2, rfl, _, _⟩ := hs.at
    have HR := Lib.hid (show NewB w w2 ob cap2 l from ⟨hs, fun a ha => by subst ha; exact hlt a.block rfl, hb2⟩)
    clear hs hlt hown2 hg2 hb2
    go_wp2
    go_ret
    exact ⟨_, _, rfl, HR.out⟩

end Go.Proofs.YtocmjlnhcloccaaGreatDoor
