/-
  append(l, v) of values; where a comma and a blank stand.
-/
import Derived.Test.YtifmfcaaofiboaaGreatDoorPieV
import Derived.Test.YtifmfcaaofiboaaGreatDoorRParseW
namespace Go.Proofs.YtifmfcaaofiboaaGreatDoor
open Go.RowKit

def vc4K (v : Vl) : List Value := [.int .i64 v.k, .int .i64 v.i, .int .u64 v.u, .string v.s]
def vcellsK (l : List Vl) : List Value := l.flatMap vc4K
theorem vcellsK_len : ∀ l : List Vl, (vcellsK l).length = l.length * 4
  | [] => rfl
  | x :: l => by
    show (vc4K x ++ vcellsK l).length = _
    rw [List.length_append, vcellsK_len l, List.length_cons]
    show 4 + _ = _
    omega
theorem vcellsK_at : ∀ (l : List Vl) (j : Nat) (h : j < l.length) (i : Nat), i < 4 → (vcellsK l)[j * 4 + i]? = (vc4K l[j])[i]?
  | x :: l, 0, _, i, hi => by
    show (vc4K x ++ vcellsK l)[0 * 4 + i]? = (vc4K x)[i]?
    rw [List.getElem?_append_left (by show 0 * 4 + i < 4; omega), show 0 * 4 + i = i by omega]
  | x :: l, j + 1, h, i, hi => by
    show (vc4K x ++ vcellsK l)[(j + 1) * 4 + i]? = (vc4K (x :: l)[j + 1])[i]?
    rw [List.getElem?_append_right (by show 4 ≤ (j + 1) * 4 + i; omega), show (j + 1) * 4 + i - (vc4K x).length = j * 4 + i by show (j + 1) * 4 + i - 4 = _; omega, vcellsK_at l j (by simpa using h) i hi]
    rfl
theorem vcellsK_snoc (l : List Vl) (v : Vl) : vcellsK (l ++ [v]) = vcellsK l ++ vc4K v := by
  unfold vcellsK
  rw [List.flatMap_append]
  simp
theorem addK4 (b j : Nat) : (⟨b, 0, none⟩ : Addr).add (j * 4) = ⟨b, j * 4, none⟩ := by rw [Addr.add_lit, Nat.zero_add]
theorem sliceK_own {w : World} {base : Nat} {v : Value} {l : List Vl} (h : w.ownsRow base 25 4 v l.length (vcellsK l)) : SliceOf w v l := by
  have h0 := h
  rcases h.2 with ⟨e, hn⟩ | ⟨g, cap, cur, e, _, _, hnc, _⟩
  · exact .inl ⟨e, List.eq_nil_of_length_eq_zero hn⟩
  · subst e
    refine .inr ⟨_, cap, rfl, hnc, fun j hj => ?_⟩
    rw [addK4]
    have q : ∀ i, i < 4 → w.cell? ⟨g, j * 4 + i, none⟩ = (vc4K l[j])[i]? := fun i hi => by
      rw [h0.cellAt (j * 4 + i) (by omega), vcellsK_at l j hj i hi]
    exact ⟨q 0 (by omega), q 1 (by omega), q 2 (by omega), q 3 (by omega)⟩
theorem infoVK : (Tryz.prog.info? 25).map (fun i => (i.zero, i.size, i.bytes)) = some (some (.agg #[.int .i64 0, .int .i64 0, .int .u64 0, .string ⟨#[]⟩]), 4, 40) := by kernel_rfl
theorem ownK_slice {W : World} {B n : Nat} {v : Value} {xs : List Value} (h : W.ownsRow B 25 4 v n xs) : ∃ a c, v = .slice a n c := by
  rcases h.2 with ⟨e0, h0⟩ | ⟨g, cap, cur, e0, _⟩
  · exact ⟨none, 0, by rw [e0, h0]⟩
  · exact ⟨_, _, e0⟩
/-- append(l, v) -/
theorem appendV_run {w : World} {base n : Nat} {a7 : Option Addr} {c7 : Nat} {vs : List Vl} {x : Vl} (hown : w.ownsRow base 25 4 (.slice a7 n c7) n (vcellsK vs)) (hn : n ≤ 100000) (hbase : base ≤ w.heap.size) (ty : TypeId) :
    ∃ a8 c8 w', (Builtin.append_ #[26, 26] ty #[.slice a7 n c7, .slice (some ⟨w.heap.size, 0, none⟩) 1 1]).run Tryz.prog (w.alloc (.cells #[.int .i64 x.k, .int .i64 x.i, .int .u64 x.u, .string x.s] 25)) = .ok (.slice a8 (n + 1) c8) w' ∧ w'.ownsRow base 25 4 (.slice a8 (n + 1) c8) (n + 1) (vcellsK (vs ++ [x])) ∧ (w.alloc (.cells #[.int .i64 x.k, .int .i64 x.i, .int .u64 x.u, .string x.s] 25)).grownBy w' (Value.slice a7 n c7).ownBlock := by
  obtain ⟨i0, hi0, hz0, hz1, hz2⟩ := info_parts infoVK
  obtain ⟨v', w', hrun, r1, r2, _⟩ := run_append_own (P := Tryz.prog) (w.alloc (.cells #[.int .i64 x.k, .int .i64 x.i, .int .u64 x.u, .string x.s] 25)) base 26 ty 25 i0 (.agg #[.int .i64 0, .int .i64 0, .int .u64 0, .string ⟨#[]⟩]) 4 40 Tryz.underlying26 hi0 hz0 hz1 hz2 rfl (by decide) (.slice a7 n c7) n (vcellsK vs) (hown.alloc _) ⟨w.heap.size, 0, none⟩ 1 1 (vc4K x) rfl (by
      intro j' u' hj'
      match j', hj' with
      | 0, hj' => simp [vc4K] at hj'; subst hj'; simp [Addr.add, go_sem]
      | 1, hj' => simp [vc4K] at hj'; subst hj'; simp [Addr.add, go_sem]
      | 2, hj' => simp [vc4K] at hj'; subst hj'; simp [Addr.add, go_sem]
      | 3, hj' => simp [vc4K] at hj'; subst hj'; simp [Addr.add, go_sem]) (by intro u' hu'; simp [vc4K] at hu'; rcases hu' with rfl | rfl | rfl | rfl <;> rfl) (by unfold maxLen; omega) (by omega) (by simp; omega)
  obtain ⟨a8, c8, rfl⟩ := ownK_slice r1
  rw [← vcellsK_snoc] at r1
  exact ⟨a8, c8, w', hrun, r1, r2⟩
theorem own_keepV {w w' : World} {B : Nat} {v : Value} {n : Nat} {xs : List Value} (h : w.ownsRow B 25 4 v n xs) (hb : Below w.heap.size w w') : w'.ownsRow B 25 4 v n xs :=
  h.kept (show w.grownBy w' none from ⟨hb.os, hb.tape, hb.output, hb.size, fun k hk _ => hb.block k hk⟩) (by cases hq : v.ownBlock with
    | none => exact .inl rfl
    | some k => exact .inr (by simp))
/-- where the first comma and blank stand -/
def fnd : List UInt8 → Nat
  | [] => 0
  | x :: t => if [44, 32].isPrefixOf (x :: t) = true then 0 else fnd t + 1
theorem fnd_le : ∀ r : List UInt8, fnd r ≤ r.length
  | [] => Nat.le_refl _
  | x :: t => by
    unfold fnd
    split
    · exact Nat.zero_le _
    · have := fnd_le t
      simp only [List.length_cons]
      omega
theorem index_fnd : ∀ r : List UInt8, Lib.index r [44, 32] = if fnd r < r.length then (fnd r : Int) else -1
  | [] => rfl
  | x :: t => by
    unfold Lib.index fnd
    by_cases h : [44, 32].isPrefixOf (x :: t) = true
    · rw [if_pos h, if_pos h, if_pos (by simp)]
      rfl
    · rw [if_neg h, if_neg h, index_fnd t]
      by_cases h2 : fnd t < t.length
      · have h3 : fnd t + 1 < (x :: t).length := by simp only [List.length_cons]; omega
        rw [if_pos h2, if_pos h3, if_neg (by simp)]
        omega
      · have h3 : ¬ fnd t + 1 < (x :: t).length := by simp only [List.length_cons]; omega
        rw [if_neg h2, if_neg h3]
        rfl
theorem cut_fnd (r : List UInt8) : Lib.cut r [44, 32] = if fnd r < r.length then (r.take (fnd r), r.drop (fnd r + 2), true) else (r, [], false) := by
  unfold Lib.cut
  rw [index_fnd]
  by_cases h : fnd r < r.length
  · rw [if_pos h, if_pos h, if_pos (by omega)]
    rfl
  · rw [if_neg h, if_neg h, if_neg (by omega)]
theorem fnd_two : ∀ r : List UInt8, fnd r < r.length → fnd r + 2 ≤ r.length
  | [], h => by simp [fnd] at h
  | x :: t, h => by
    unfold fnd at h ⊢
    split
    · rename_i h0
      cases t with
      | nil => simp at h0
      | cons y u => simp
    · rename_i h0
      rw [if_neg h0] at h
      have := fnd_two t (by simp only [List.length_cons] at h; omega)
      simp only [List.length_cons]
      omega
/-- the values of a text -/
def psGo : Nat → List UInt8 → List Vl
  | 0, _ => []
  | f + 1, r => match valO (Lib.cut r [44, 32]).1 with
    | none => []
    | some v => v :: (if (Lib.cut r [44, 32]).2.2 = true then psGo f (Lib.cut r [44, 32]).2.1 else [])
def psV (r : List UInt8) : List Vl := psGo (r.length + 1) r
theorem psGo_parts : ∀ (f k : Nat) (r : List UInt8), (partsW (pieGo f k r)).map (·.2) = psGo f r
  | 0, _, _ => rfl
  | f + 1, k, r => by
    unfold pieGo psGo partsW
    simp only
    cases valO (Lib.cut r [44, 32]).1 with
    | none => rfl
    | some v =>
      simp only [List.map_cons]
      by_cases h : (Lib.cut r [44, 32]).2.2 = true
      · rw [if_pos h, if_pos h, psGo_parts f (k + 1) _]
      · rw [if_neg h, if_neg h]
        rfl
theorem psV_parts (r : List UInt8) : (partsW (pieW 0 r)).map (·.2) = psV r := psGo_parts _ 0 r
theorem psGo_fuel : ∀ (f g : Nat) (r : List UInt8), r.length < f → r.length < g → psGo f r = psGo g r
  | 0, _, _, h, _ => by omega
  | _ + 1, 0, _, _, h => by omega
  | f + 1, g + 1, r, hf, hg => by
    unfold psGo
    cases valO (Lib.cut r [44, 32]).1 with
    | none => rfl
    | some v =>
      simp only
      by_cases h : (Lib.cut r [44, 32]).2.2 = true
      · have := cut_less h
        rw [if_pos h, if_pos h, psGo_fuel f g _ (by omega) (by omega)]
      · rw [if_neg h, if_neg h]
theorem psV_step (r : List UInt8) : psV r = match valO (r.take (fnd r)) with
    | none => []
    | some v => v :: (if fnd r < r.length then psV (r.drop (fnd r + 2)) else []) := by
  conv => lhs; unfold psV psGo
  rw [cut_fnd]
  by_cases h : fnd r < r.length
  · rw [if_pos h, if_pos h]
    simp only [if_true]
    cases valO (r.take (fnd r)) with
    | none => rfl
    | some v =>
      have h2 := fnd_two r h
      simp only
      rw [psGo_fuel r.length ((r.drop (fnd r + 2)).length + 1) _ (by rw [List.length_drop]; omega) (by omega)]
      rfl
  · rw [if_neg h, if_neg h]
    have he : fnd r = r.length := by have := fnd_le r; omega
    rw [he, List.take_length]
    rfl
/-- what is read of a text's values up to a place -/
def PRel (l : List UInt8) (i : Nat) (vs : List Vl) : Prop := psV l = vs ++ psV (l.drop i)
theorem PRel.zero (l : List UInt8) : PRel l 0 [] := rfl
theorem PRel.none {l : List UInt8} {i : Nat} {vs : List Vl} (h : PRel l i vs) (hv : valO ((l.drop i).take (fnd (l.drop i))) = none) : psV l = vs := by
  rw [h, psV_step, hv]
  exact List.append_nil _
theorem PRel.last {l : List UInt8} {i : Nat} {vs : List Vl} {v : Vl} (h : PRel l i vs) (hv : valO ((l.drop i).take (fnd (l.drop i))) = some v) (hl : ¬ fnd (l.drop i) < (l.drop i).length) : psV l = vs ++ [v] := by
  rw [h, psV_step, hv]
  simp only
  rw [if_neg hl]
theorem PRel.next {l : List UInt8} {i : Nat} {vs : List Vl} {v : Vl} (h : PRel l i vs) (hv : valO ((l.drop i).take (fnd (l.drop i))) = some v) (hl : fnd (l.drop i) < (l.drop i).length) : PRel l (i + fnd (l.drop i) + 2) (vs ++ [v]) := by
  unfold PRel
  rw [h, psV_step (l.drop i), hv]
  simp only
  rw [if_pos hl, List.drop_drop, List.append_assoc, show i + (fnd (l.drop i) + 2) = i + fnd (l.drop i) + 2 by omega]
  rfl
/-- going on to the end of a piece -/
def ERel (l : List UInt8) (i e : Nat) : Prop := fnd (l.drop i) = (e - i) + fnd (l.drop e)
theorem ERel.zero (l : List UInt8) (i : Nat) : ERel l i i := by unfold ERel; omega
theorem ERel.all {l : List UInt8} {i e : Nat} (h : ERel l i e) (he : e = l.length) : fnd (l.drop i) = e - i := by
  unfold ERel at h
  rw [h, he, List.drop_length]
  rfl
theorem ERel.found {l : List UInt8} {i e : Nat} (h : ERel l i e) (he : e + 1 < l.length) (h1 : l[e] = 44) (h2 : l[e + 1] = 32) : fnd (l.drop i) = e - i := by
  unfold ERel at h
  rw [h, List.drop_eq_getElem_cons (by omega), List.drop_eq_getElem_cons he, h1, h2]
  rfl
theorem ERel.more {l : List UInt8} {i e : Nat} (h : ERel l i e) (hie : i ≤ e) (he : e < l.length) (hn : ∀ hh : e + 1 < l.length, ¬ (l[e] = 44 ∧ l[e + 1] = 32)) : ERel l i (e + 1) := by
  unfold ERel at *
  rw [h, List.drop_eq_getElem_cons he]
  have : fnd (l[e] :: l.drop (e + 1)) = fnd (l.drop (e + 1)) + 1 := by
    conv => lhs; unfold fnd
    rw [if_neg]
    intro hp
    by_cases hh : e + 1 < l.length
    · rw [List.drop_eq_getElem_cons hh] at hp
      simp only [List.isPrefixOf, Bool.and_eq_true, beq_iff_eq] at hp
      exact hn hh ⟨hp.1.symm, hp.2.1.symm⟩
    · rw [List.drop_eq_nil_of_le (by omega)] at hp
      simp [List.isPrefixOf] at hp
  rw [this]
  omega
end Go.Proofs.YtifmfcaaofiboaaGreatDoor
