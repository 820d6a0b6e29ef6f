/-
  disk: a map from the numbers of files to slices: look-ups, stores, delete, what a copy holds, the sum over all.
-/
import Derived.Test.YtlnemefegkjjiaaDoorBase
import Derived.Laws.IdiomRangeMap
import Derived.MapKept
import Derived.Laws.AppendOwn
namespace Go.Proofs.YtlnemefegkjjiaaDoor
open Go.RowKit

abbrev nilS : Value := .slice none 0 0
def updV (V : Nat → Value) (f : Nat) (v : Value) : Nat → Value := fun g => if g = f then v else V g
theorem updV_same (V : Nat → Value) (f : Nat) (v : Value) : updV V f v f = v := by simp [updV]
theorem updV_other {V : Nat → Value} {f g : Nat} {v : Value} (h : g ≠ f) : updV V f v g = V g := by simp [updV, h]
structure FMapE (es : Array MapEntry) (clock : Nat) (V : Nat → Value) : Prop where
  st : MapKept.Stamped es clock
  sound : ∀ x ∈ es.toList, ∃ f : Nat, f < 64 ∧ x.key = .int .i64 f ∧ x.val = V f ∧ V f ≠ nilS
  full : ∀ f, V f ≠ nilS → ∃ x ∈ es.toList, x.key = .int .i64 f
def FMap (w : World) (r : Nat) (V : Nat → Value) : Prop := ∃ es clock, w.heap[r]? = some (.map es clock) ∧ FMapE es clock V
theorem FMapE.keys {es : Array MapEntry} {clock : Nat} {V : Nat → Value} (h : FMapE es clock V) : ∀ x ∈ es.toList, MapKept.IsKey (.int .i64) x.key := fun x hx => by
  obtain ⟨f, _, e, _⟩ := h.sound x hx
  rw [e]; rfl
theorem FMapE.range {es : Array MapEntry} {clock : Nat} {V : Nat → Value} (h : FMapE es clock V) {f : Nat} (hf : V f ≠ nilS) : f < 64 := by
  obtain ⟨x, hx, e⟩ := h.full f hf
  obtain ⟨g, hg, e2, _⟩ := h.sound x hx
  rw [e] at e2
  simp at e2
  omega
theorem i64_inj {f g : Nat} (h : Value.int .i64 (f : Int) = .int .i64 (g : Int)) : f = g := by
  simp at h
  omega
theorem FMap.keep {w w' : World} {r : Nat} {V : Nat → Value} (h : FMap w r V) (hb : w'.heap[r]? = w.heap[r]?) : FMap w' r V := by
  obtain ⟨es, c, h1, h2⟩ := h
  exact ⟨es, c, hb.trans h1, h2⟩
theorem FMap.lt {w : World} {r : Nat} {V : Nat → Value} (h : FMap w r V) : r < w.heap.size := by
  obtain ⟨es, c, h1, h2⟩ := h
  exact (Array.getElem?_eq_some_iff.1 h1).1
theorem FMap.new (w : World) : FMap (w.alloc (.map #[] 0)) w.heap.size (fun _ => nilS) :=
  ⟨#[], 0, heap_alloc_at w _, MapKept.stamped_empty 0, fun x hx => by simp at hx, fun f hf => absurd rfl hf⟩
section
variable {P : Program} {w : World} {r : Nat} {V : Nat → Value} {t kt et : TypeId}
theorem FMap.lookup (h : FMap w r V) (ht : P.underlying t = some (.map kt et)) (hk : P.underlying kt = some (.int .i64)) (hz : (zeroValue et).run P w = .ok nilS w) (f : Nat) :
    (Instr.lookup t (.map (some r)) (.int .i64 f) false).run P w = .ok (V f) w := by
  obtain ⟨es, c, hb, he⟩ := h
  rcases MapKept.findNow_spec (d := .int .i64) (k := .int .i64 f) rfl es.toList 0 he.keys with ⟨h1, h2⟩ | ⟨j, e, h1, h2, h3⟩
  · have hV : V f = nilS := Classical.byContradiction fun hn => by
      obtain ⟨x, hx, hxk⟩ := he.full f hn
      exact h2 x hx hxk
    rw [run_lookup_none w ht hk hb h1 hz false, hV]
    rfl
  · obtain ⟨g, _, e1, e2, _⟩ := he.sound e (List.mem_of_getElem? h2)
    rw [h3] at e1
    have := i64_inj e1
    subst this
    rw [run_lookup_known w ht hk hb h1 false, e2]
    rfl
theorem grownBy_set (w : World) (r : Nat) (o o' : Obj) (hb : w.heap[r]? = some o) : w.grownBy { w with heap := w.heap.setIfInBounds r o' } (some r) :=
  ⟨rfl, rfl, rfl, by simp, fun k _ hk => (MapKept.heap_set hb).2 k (fun e => hk (by rw [e]))⟩
theorem FMap.store (h : FMap w r V) (ht : P.underlying t = some (.map kt et)) (hk : P.underlying kt = some (.int .i64)) (f : Nat) (hf : f < 64) (v : Value) (hv : v ≠ nilS) :
    ∃ w', (Instr.mapUpdate t (.map (some r)) (.int .i64 f) v).run P w = .ok () w' ∧ FMap w' r (updV V f v) ∧ w.grownBy w' (some r) := by
  obtain ⟨es, c, hb, he⟩ := h
  have hkey : MapKept.IsKey (.int .i64) (.int .i64 (f : Int)) := rfl
  rcases MapKept.findNow_spec (d := .int .i64) (k := .int .i64 f) rfl es.toList 0 he.keys with ⟨h1, h2⟩ | ⟨j, e, h1, h2, h3⟩
  · refine ⟨_, by simp [Instr.mapUpdate, run_underlying ht, MapKept.run_getObj_map hb, MapKept.run_checkKey hk hkey, MapKept.run_findKey hk h1, MapKept.run_setObj_map _ hb, Result.andThen]; rfl, ⟨_, _, (MapKept.heap_set hb).1, MapKept.stamped_push he.st h2, ?_, ?_⟩, grownBy_set w r _ _ hb⟩
    · intro x hx
      simp only [Array.toList_push, List.mem_append, List.mem_singleton] at hx
      rcases hx with hx | rfl
      · obtain ⟨g, g1, g2, g3, g4⟩ := he.sound x hx
        have hne : g ≠ f := fun e => h2 x hx (by rw [g2, e])
        exact ⟨g, g1, g2, by rw [updV_other hne]; exact g3, by rw [updV_other hne]; exact g4⟩
      · exact ⟨f, hf, rfl, by rw [updV_same], by rw [updV_same]; exact hv⟩
    · intro g hg
      by_cases hgf : g = f
      · exact ⟨_, by simp only [Array.toList_push, List.mem_append, List.mem_singleton]; exact .inr rfl, by rw [hgf]⟩
      · rw [updV_other hgf] at hg
        obtain ⟨x, hx, hxk⟩ := he.full g hg
        exact ⟨x, by simp only [Array.toList_push, List.mem_append]; exact .inl hx, hxk⟩
  · have hj : es[j]? = some e := by simpa using h2
    have hkey2 : ∀ e', es[j]? = some e' → ({ e' with key := .int .i64 f, val := v } : MapEntry).key = e'.key := fun e' he' => by rw [hj] at he'; cases he'; exact h3.symm
    have hmem : ∀ x, x ∈ (es.modify j fun e => { e with key := .int .i64 f, val := v }).toList ↔ (x = { e with key := .int .i64 f, val := v } ∨ ∃ i, i ≠ j ∧ es[i]? = some x) := by
      intro x
      rw [List.mem_iff_getElem?]
      simp only [Array.getElem?_toList, Array.getElem?_modify]
      constructor
      · rintro ⟨i, hi⟩
        by_cases hij : j = i
        · subst hij
          rw [if_pos rfl, hj] at hi
          simp at hi
          exact .inl hi.symm
        · rw [if_neg hij] at hi
          exact .inr ⟨i, fun e => hij e.symm, hi⟩
      · rintro (rfl | ⟨i, hij, hi⟩)
        · exact ⟨j, by rw [if_pos rfl, hj]; rfl⟩
        · exact ⟨i, by rw [if_neg (fun e => hij e.symm)]; exact hi⟩
    have hpw := List.pairwise_iff_getElem.1 (List.pairwise_map.1 he.st.2.2)
    have hother : ∀ i x, i ≠ j → es[i]? = some x → x.key ≠ .int .i64 f := by
      intro i x hij hi he2
      obtain ⟨hi1, hi2⟩ := Array.getElem?_eq_some_iff.1 hi
      obtain ⟨hj1, hj2⟩ := Array.getElem?_eq_some_iff.1 hj
      rcases Nat.lt_or_gt_of_ne hij with hlt | hlt
      · exact hpw i j (by simpa using hi1) (by simpa using hj1) hlt (by simp only [Array.getElem_toList, hi2, hj2]; rw [he2, h3])
      · exact hpw j i (by simpa using hj1) (by simpa using hi1) hlt (by simp only [Array.getElem_toList, hi2, hj2]; rw [he2, h3])
    refine ⟨{ w with heap := w.heap.setIfInBounds r (.map (es.modify j fun e => { e with key := .int .i64 f, val := v }) c) }, by simp [Instr.mapUpdate, run_underlying ht, MapKept.run_getObj_map hb, MapKept.run_checkKey hk hkey, MapKept.run_findKey hk h1, hj, h3, MapKept.run_keyThatStays hkey, MapKept.run_setObj_map _ hb, Result.andThen], ⟨_, _, (MapKept.heap_set hb).1, MapKept.stamped_modify he.st _ _ (fun _ _ => rfl) (fun e' _ he' => hkey2 e' he'), ?_, ?_⟩, grownBy_set w r _ _ hb⟩
    · intro x hx
      rcases (hmem x).1 hx with rfl | ⟨i, hij, hi⟩
      · exact ⟨f, hf, rfl, by rw [updV_same], by rw [updV_same]; exact hv⟩
      · obtain ⟨g, g1, g2, g3, g4⟩ := he.sound x (List.mem_of_getElem? (by rw [Array.getElem?_toList]; exact hi))
        have hne : g ≠ f := fun e => hother i x hij hi (by rw [g2, e])
        exact ⟨g, g1, g2, by rw [updV_other hne]; exact g3, by rw [updV_other hne]; exact g4⟩
    · intro g hg
      by_cases hgf : g = f
      · exact ⟨_, (hmem _).2 (.inl rfl), by rw [hgf]⟩
      · rw [updV_other hgf] at hg
        obtain ⟨x, hx, hxk⟩ := he.full g hg
        obtain ⟨i, hi⟩ := List.mem_iff_getElem?.1 hx
        rw [Array.getElem?_toList] at hi
        refine ⟨x, (hmem x).2 (.inr ⟨i, fun e => ?_, hi⟩), hxk⟩
        subst e
        rw [hj] at hi
        cases hi
        rw [h3] at hxk
        exact hgf (i64_inj hxk).symm
theorem FMap.delete (h : FMap w r V) (ht : P.underlying t = some (.map kt et)) (hk : P.underlying kt = some (.int .i64)) (f : Nat) (ty : TypeId) :
    ∃ w', (Builtin.delete_ #[t, kt] ty #[.map (some r), .int .i64 f]).run P w = .ok (.tuple #[]) w' ∧ FMap w' r (updV V f nilS) ∧ w.grownBy w' (some r) := by
  obtain ⟨es, c, hb, he⟩ := h
  have hkey : MapKept.IsKey (.int .i64) (.int .i64 (f : Int)) := rfl
  rcases MapKept.findNow_spec (d := .int .i64) (k := .int .i64 f) rfl es.toList 0 he.keys with ⟨h1, h2⟩ | ⟨j, e, h1, h2, h3⟩
  · refine ⟨{ w with heap := w.heap.setIfInBounds r (.map es c) }, by simp [Builtin.delete_, run_underlying ht, MapKept.run_getObj_map hb, MapKept.run_checkKey hk hkey, MapKept.run_findKey hk h1, MapKept.run_setObj_map _ hb, Result.andThen], ⟨_, _, (MapKept.heap_set hb).1, he.st, ?_, ?_⟩, grownBy_set w r _ _ hb⟩
    · intro x hx
      obtain ⟨g, g1, g2, g3, g4⟩ := he.sound x hx
      have hne : g ≠ f := fun e => h2 x hx (by rw [g2, e])
      exact ⟨g, g1, g2, by rw [updV_other hne]; exact g3, by rw [updV_other hne]; exact g4⟩
    · intro g hg
      by_cases hgf : g = f
      · exact absurd (by rw [hgf, updV_same]) hg
      · rw [updV_other hgf] at hg
        exact he.full g hg
  · have hj : es[j]? = some e := by simpa using h2
    obtain ⟨hj1, hj2⟩ := Array.getElem?_eq_some_iff.1 hj
    have hpw := List.pairwise_iff_getElem.1 (List.pairwise_map.1 he.st.2.2)
    have hel : (es.eraseIdxIfInBounds j).toList = es.toList.eraseIdx j := by
      unfold Array.eraseIdxIfInBounds
      rw [dif_pos hj1]
      simp
    have hmem : ∀ x, x ∈ (es.eraseIdxIfInBounds j).toList ↔ ∃ i, i ≠ j ∧ es[i]? = some x := by
      intro x
      rw [hel, List.mem_eraseIdx_iff_getElem?]
      simp
    have hother : ∀ i x, i ≠ j → es[i]? = some x → x.key ≠ .int .i64 f := by
      intro i x hij hi he2
      obtain ⟨hi1, hi2⟩ := Array.getElem?_eq_some_iff.1 hi
      rcases Nat.lt_or_gt_of_ne hij with hlt | hlt
      · exact hpw i j (by simpa using hi1) (by simpa using hj1) hlt (by simp only [Array.getElem_toList, hi2, hj2]; rw [he2, h3])
      · exact hpw j i (by simpa using hj1) (by simpa using hi1) hlt (by simp only [Array.getElem_toList, hi2, hj2]; rw [he2, h3])
    refine ⟨{ w with heap := w.heap.setIfInBounds r (.map (es.eraseIdxIfInBounds j) c) }, by simp [Builtin.delete_, run_underlying ht, MapKept.run_getObj_map hb, MapKept.run_checkKey hk hkey, MapKept.run_findKey hk h1, MapKept.run_setObj_map _ hb, Result.andThen], ⟨_, _, (MapKept.heap_set hb).1, MapKept.stamped_erase he.st _, ?_, ?_⟩, grownBy_set w r _ _ hb⟩
    · intro x hx
      obtain ⟨i, hij, hi⟩ := (hmem x).1 hx
      obtain ⟨g, g1, g2, g3, g4⟩ := he.sound x (List.mem_of_getElem? (by rw [Array.getElem?_toList]; exact hi))
      have hne : g ≠ f := fun e => hother i x hij hi (by rw [g2, e])
      exact ⟨g, g1, g2, by rw [updV_other hne]; exact g3, by rw [updV_other hne]; exact g4⟩
    · intro g hg
      by_cases hgf : g = f
      · exact absurd (by rw [hgf, updV_same]) hg
      · rw [updV_other hgf] at hg
        obtain ⟨x, hx, hxk⟩ := he.full g hg
        obtain ⟨i, hi⟩ := List.mem_iff_getElem?.1 hx
        rw [Array.getElem?_toList] at hi
        refine ⟨x, (hmem x).2 ⟨i, fun e => ?_, hi⟩, hxk⟩
        subst e
        rw [hj] at hi
        cases hi
        rw [h3] at hxk
        exact hgf (i64_inj hxk).symm
end
end Go.Proofs.YtlnemefegkjjiaaDoor
