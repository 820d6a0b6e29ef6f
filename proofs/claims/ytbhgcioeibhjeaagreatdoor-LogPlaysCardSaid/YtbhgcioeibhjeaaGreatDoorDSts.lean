/-
  disk: maps of files, rows, sets.
-/
import Derived.Test.YtbhgcioeibhjeaaGreatDoorBasK
import Derived.Laws.IdiomRangeMap
import Derived.MapKept
import Derived.Laws.AppendOwn
import Derived.Lib.AppendStr
import Derived.Handy
namespace Go.Proofs.YtbhgcioeibhjeaaGreatDoor
open Go.RowKit

abbrev nilS : Value := .slice none 0 0
def updV (V : Nat → Value) (f : Nat) (v : Value) : Nat → Value := fun g => if g = f then v else V g
theorem updV_same (V : Nat → Value) (f : Nat) (v : Value) : updV V f v f = v := by simp [updV]
theorem updV_other {V : Nat → Value} {f g : Nat} {v : Value} (h : g ≠ f) : updV V f v g = V g := by simp [updV, h]
structure FMapE (es : Array MapEntry) (clock : Nat) (V : Nat → Value) : Prop where
  st : MapKept.Stamped es clock
  sound : ∀ x ∈ es.toList, ∃ f : Nat, f < 64 ∧ x.key = .int .i64 f ∧ x.val = V f ∧ V f ≠ nilS
  full : ∀ f, V f ≠ nilS → ∃ x ∈ es.toList, x.key = .int .i64 f
def FMap (w : World) (r : Nat) (V : Nat → Value) : Prop := ∃ es clock, w.heap[r]? = some (.map es clock) ∧ FMapE es clock V
theorem FMapE.keys {es : Array MapEntry} {clock : Nat} {V : Nat → Value} (h : FMapE es clock V) : ∀ x ∈ es.toList, MapKept.IsKey (.int .i64) x.key := fun x hx => by
  obtain ⟨f, _, e, _⟩ := h.sound x hx
  rw [e]; rfl
theorem FMapE.range {es : Array MapEntry} {clock : Nat} {V : Nat → Value} (h : FMapE es clock V) {f : Nat} (hf : V f ≠ nilS) : f < 64 := by
  obtain ⟨x, hx, e⟩ := h.full f hf
  obtain ⟨g, hg, e2, _⟩ := h.sound x hx
  rw [e] at e2
  simp at e2
  omega
theorem i64_inj {f g : Nat} (h : Value.int .i64 (f : Int) = .int .i64 (g : Int)) : f = g := by
  simp at h
  omega
theorem FMap.keep {w w' : World} {r : Nat} {V : Nat → Value} (h : FMap w r V) (hb : w'.heap[r]? = w.heap[r]?) : FMap w' r V := by
  obtain ⟨es, c, h1, h2⟩ := h
  exact ⟨es, c, hb.trans h1, h2⟩
theorem FMap.lt {w : World} {r : Nat} {V : Nat → Value} (h : FMap w r V) : r < w.heap.size := by
  obtain ⟨es, c, h1, h2⟩ := h
  exact (Array.getElem?_eq_some_iff.1 h1).1
theorem FMap.new (w : World) : FMap (w.alloc (.map #[] 0)) w.heap.size (fun _ => nilS) :=
  ⟨#[], 0, heap_alloc_at w _, MapKept.stamped_empty 0, fun x hx => by simp at hx, fun f hf => absurd rfl hf⟩
section
variable {P : Program} {w : World} {r : Nat} {V : Nat → Value} {t kt et : TypeId}
theorem FMap.lookup (h : FMap w r V) (ht : P.underlying t = some (.map kt et)) (hk : P.underlying kt = some (.int .i64)) (hz : (zeroValue et).run P w = .ok nilS w) (f : Nat) :
    (Instr.lookup t (.map (some r)) (.int .i64 f) false).run P w = .ok (V f) w := by
  obtain ⟨es, c, hb, he⟩ := h
  rcases MapKept.findNow_spec (d := .int .i64) (k := .int .i64 f) rfl es.toList 0 he.keys with ⟨h1, h2⟩ | ⟨j, e, h1, h2, h3⟩
  · have hV : V f = nilS := Classical.byContradiction fun hn => by
      obtain ⟨x, hx, hxk⟩ := he.full f hn
      exact h2 x hx hxk
    rw [run_lookup_none w ht hk hb h1 hz false, hV]
    rfl
  · obtain ⟨g, _, e1, e2, _⟩ := he.sound e (List.mem_of_getElem? h2)
    rw [h3] at e1
    have := i64_inj e1
    subst this
    rw [run_lookup_known w ht hk hb h1 false, e2]
    rfl
theorem grownBy_set (w : World) (r : Nat) (o o' : Obj) (hb : w.heap[r]? = some o) : w.grownBy { w with heap := w.heap.setIfInBounds r o' } (some r) :=
  ⟨rfl, rfl, rfl, by simp, fun k _ hk => (MapKept.heap_set hb).2 k (fun e => hk (by rw [e]))⟩
theorem FMap.store (h : FMap w r V) (ht : P.underlying t = some (.map kt et)) (hk : P.underlying kt = some (.int .i64)) (f : Nat) (hf : f < 64) (v : Value) (hv : v ≠ nilS) :
    ∃ w', (Instr.mapUpdate t (.map (some r)) (.int .i64 f) v).run P w = .ok () w' ∧ FMap w' r (updV V f v) ∧ w.grownBy w' (some r) := by
  obtain ⟨es, c, hb, he⟩ := h
  have hkey : MapKept.IsKey (.int .i64) (.int .i64 (f : Int)) := rfl
  rcases MapKept.findNow_spec (d := .int .i64) (k := .int .i64 f) rfl es.toList 0 he.keys with ⟨h1, h2⟩ | ⟨j, e, h1, h2, h3⟩
  · refine ⟨_, by simp [Instr.mapUpdate, run_underlying ht, MapKept.run_getObj_map hb, MapKept.run_checkKey hk hkey, MapKept.run_findKey hk h1, MapKept.run_setObj_map _ hb, Result.andThen]; rfl, ⟨_, _, (MapKept.heap_set hb).1, MapKept.stamped_push he.st h2, ?_, ?_⟩, grownBy_set w r _ _ hb⟩
    · intro x hx
      simp only [Array.toList_push, List.mem_append, List.mem_singleton] at hx
      rcases hx with hx | rfl
      · obtain ⟨g, g1, g2, g3, g4⟩ := he.sound x hx
        have hne : g ≠ f := fun e => h2 x hx (by rw [g2, e])
        exact ⟨g, g1, g2, by rw [updV_other hne]; exact g3, by rw [updV_other hne]; exact g4⟩
      · exact ⟨f, hf, rfl, by rw [updV_same], by rw [updV_same]; exact hv⟩
    · intro g hg
      by_cases hgf : g = f
      · exact ⟨_, by simp only [Array.toList_push, List.mem_append, List.mem_singleton]; exact .inr rfl, by rw [hgf]⟩
      · rw [updV_other hgf] at hg
        obtain ⟨x, hx, hxk⟩ := he.full g hg
        exact ⟨x, by simp only [Array.toList_push, List.mem_append]; exact .inl hx, hxk⟩
  · have hj : es[j]? = some e := by simpa using h2
    have hkey2 : ∀ e', es[j]? = some e' → ({ e' with key := .int .i64 f, val := v } : MapEntry).key = e'.key := fun e' he' => by rw [hj] at he'; cases he'; exact h3.symm
    have hmem : ∀ x, x ∈ (es.modify j fun e => { e with key := .int .i64 f, val := v }).toList ↔ (x = { e with key := .int .i64 f, val := v } ∨ ∃ i, i ≠ j ∧ es[i]? = some x) := by
      intro x
      rw [List.mem_iff_getElem?]
      simp only [Array.getElem?_toList, Array.getElem?_modify]
      constructor
      · rintro ⟨i, hi⟩
        by_cases hij : j = i
        · subst hij
          rw [if_pos rfl, hj] at hi
          simp at hi
          exact .inl hi.symm
        · rw [if_neg hij] at hi
          exact .inr ⟨i, fun e => hij e.symm, hi⟩
      · rintro (rfl | ⟨i, hij, hi⟩)
        · exact ⟨j, by rw [if_pos rfl, hj]; rfl⟩
        · exact ⟨i, by rw [if_neg (fun e => hij e.symm)]; exact hi⟩
    have hpw := List.pairwise_iff_getElem.1 (List.pairwise_map.1 he.st.2.2)
    have hother : ∀ i x, i ≠ j → es[i]? = some x → x.key ≠ .int .i64 f := by
      intro i x hij hi he2
      obtain ⟨hi1, hi2⟩ := Array.getElem?_eq_some_iff.1 hi
      obtain ⟨hj1, hj2⟩ := Array.getElem?_eq_some_iff.1 hj
      rcases Nat.lt_or_gt_of_ne hij with hlt | hlt
      · exact hpw i j (by simpa using hi1) (by simpa using hj1) hlt (by simp only [Array.getElem_toList, hi2, hj2]; rw [he2, h3])
      · exact hpw j i (by simpa using hj1) (by simpa using hi1) hlt (by simp only [Array.getElem_toList, hi2, hj2]; rw [he2, h3])
    refine ⟨{ w with heap := w.heap.setIfInBounds r (.map (es.modify j fun e => { e with key := .int .i64 f, val := v }) c) }, by simp [Instr.mapUpdate, run_underlying ht, MapKept.run_getObj_map hb, MapKept.run_checkKey hk hkey, MapKept.run_findKey hk h1, hj, h3, MapKept.run_keyThatStays hkey, MapKept.run_setObj_map _ hb, Result.andThen], ⟨_, _, (MapKept.heap_set hb).1, MapKept.stamped_modify he.st _ _ (fun _ _ => rfl) (fun e' _ he' => hkey2 e' he'), ?_, ?_⟩, grownBy_set w r _ _ hb⟩
    · intro x hx
      rcases (hmem x).1 hx with rfl | ⟨i, hij, hi⟩
      · exact ⟨f, hf, rfl, by rw [updV_same], by rw [updV_same]; exact hv⟩
      · obtain ⟨g, g1, g2, g3, g4⟩ := he.sound x (List.mem_of_getElem? (by rw [Array.getElem?_toList]; exact hi))
        have hne : g ≠ f := fun e => hother i x hij hi (by rw [g2, e])
        exact ⟨g, g1, g2, by rw [updV_other hne]; exact g3, by rw [updV_other hne]; exact g4⟩
    · intro g hg
      by_cases hgf : g = f
      · exact ⟨_, (hmem _).2 (.inl rfl), by rw [hgf]⟩
      · rw [updV_other hgf] at hg
        obtain ⟨x, hx, hxk⟩ := he.full g hg
        obtain ⟨i, hi⟩ := List.mem_iff_getElem?.1 hx
        rw [Array.getElem?_toList] at hi
        refine ⟨x, (hmem x).2 (.inr ⟨i, fun e => ?_, hi⟩), hxk⟩
        subst e
        rw [hj] at hi
        cases hi
        rw [h3] at hxk
        exact hgf (i64_inj hxk).symm
theorem FMap.delete (h : FMap w r V) (ht : P.underlying t = some (.map kt et)) (hk : P.underlying kt = some (.int .i64)) (f : Nat) (ty : TypeId) :
    ∃ w', (Builtin.delete_ #[t, kt] ty #[.map (some r), .int .i64 f]).run P w = .ok (.tuple #[]) w' ∧ FMap w' r (updV V f nilS) ∧ w.grownBy w' (some r) := by
  obtain ⟨es, c, hb, he⟩ := h
  have hkey : MapKept.IsKey (.int .i64) (.int .i64 (f : Int)) := rfl
  rcases MapKept.findNow_spec (d := .int .i64) (k := .int .i64 f) rfl es.toList 0 he.keys with ⟨h1, h2⟩ | ⟨j, e, h1, h2, h3⟩
  · refine ⟨{ w with heap := w.heap.setIfInBounds r (.map es c) }, by simp [Builtin.delete_, run_underlying ht, MapKept.run_getObj_map hb, MapKept.run_checkKey hk hkey, MapKept.run_findKey hk h1, MapKept.run_setObj_map _ hb, Result.andThen], ⟨_, _, (MapKept.heap_set hb).1, he.st, ?_, ?_⟩, grownBy_set w r _ _ hb⟩
    · intro x hx
      obtain ⟨g, g1, g2, g3, g4⟩ := he.sound x hx
      have hne : g ≠ f := fun e => h2 x hx (by rw [g2, e])
      exact ⟨g, g1, g2, by rw [updV_other hne]; exact g3, by rw [updV_other hne]; exact g4⟩
    · intro g hg
      by_cases hgf : g = f
      · exact absurd (by rw [hgf, updV_same]) hg
      · rw [updV_other hgf] at hg
        exact he.full g hg
  · have hj : es[j]? = some e := by simpa using h2
    obtain ⟨hj1, hj2⟩ := Array.getElem?_eq_some_iff.1 hj
    have hpw := List.pairwise_iff_getElem.1 (List.pairwise_map.1 he.st.2.2)
    have hel : (es.eraseIdxIfInBounds j).toList = es.toList.eraseIdx j := by
      unfold Array.eraseIdxIfInBounds
      rw [dif_pos hj1]
      simp
    have hmem : ∀ x, x ∈ (es.eraseIdxIfInBounds j).toList ↔ ∃ i, i ≠ j ∧ es[i]? = some x := by
      intro x
      rw [hel, List.mem_eraseIdx_iff_getElem?]
      simp
    have hother : ∀ i x, i ≠ j → es[i]? = some x → x.key ≠ .int .i64 f := by
      intro i x hij hi he2
      obtain ⟨hi1, hi2⟩ := Array.getElem?_eq_some_iff.1 hi
      rcases Nat.lt_or_gt_of_ne hij with hlt | hlt
      · exact hpw i j (by simpa using hi1) (by simpa using hj1) hlt (by simp only [Array.getElem_toList, hi2, hj2]; rw [he2, h3])
      · exact hpw j i (by simpa using hj1) (by simpa using hi1) hlt (by simp only [Array.getElem_toList, hi2, hj2]; rw [he2, h3])
    refine ⟨{ w with heap := w.heap.setIfInBounds r (.map (es.eraseIdxIfInBounds j) c) }, by simp [Builtin.delete_, run_underlying ht, MapKept.run_getObj_map hb, MapKept.run_checkKey hk hkey, MapKept.run_findKey hk h1, MapKept.run_setObj_map _ hb, Result.andThen], ⟨_, _, (MapKept.heap_set hb).1, MapKept.stamped_erase he.st _, ?_, ?_⟩, grownBy_set w r _ _ hb⟩
    · intro x hx
      obtain ⟨i, hij, hi⟩ := (hmem x).1 hx
      obtain ⟨g, g1, g2, g3, g4⟩ := he.sound x (List.mem_of_getElem? (by rw [Array.getElem?_toList]; exact hi))
      have hne : g ≠ f := fun e => hother i x hij hi (by rw [g2, e])
      exact ⟨g, g1, g2, by rw [updV_other hne]; exact g3, by rw [updV_other hne]; exact g4⟩
    · intro g hg
      by_cases hgf : g = f
      · exact absurd (by rw [hgf, updV_same]) hg
      · rw [updV_other hgf] at hg
        obtain ⟨x, hx, hxk⟩ := he.full g hg
        obtain ⟨i, hi⟩ := List.mem_iff_getElem?.1 hx
        rw [Array.getElem?_toList] at hi
        refine ⟨x, (hmem x).2 ⟨i, fun e => ?_, hi⟩, hxk⟩
        subst e
        rw [hj] at hi
        cases hi
        rw [h3] at hxk
        exact hgf (i64_inj hxk).symm
end
end Go.Proofs.YtbhgcioeibhjeaaGreatDoor
namespace Go.Proofs.YtbhgcioeibhjeaaGreatDoor
open Go.RowKit

theorem infoB : (Tryz.prog.info? 5).map (fun i => (i.zero, i.size, i.bytes)) = some (some (.int .u8 0), 1, 1) := by kernel_rfl
def cB (l : List UInt8) : List Value := l.map fun b => Value.int .u8 b.toNat
theorem cB_length (l : List UInt8) : (cB l).length = l.length := by simp [cB]
theorem cB_append (l m : List UInt8) : cB (l ++ m) = cB l ++ cB m := by simp [cB]
theorem cB_take (l : List UInt8) (n : Nat) : (cB l).take n = cB (l.take n) := by simp [cB, List.map_take]
/-- a file's bytes: none at all are nil -/
def SlAt (w : World) (v : Value) (l : List UInt8) : Prop := (v = nilS ∧ l = []) ∨ (l ≠ [] ∧ ∃ g cap cur, v = .slice (some ⟨g, 0, none⟩) l.length cap ∧ w.heap[g]? = some (.cells cur 5 (0, 0)) ∧ l.length ≤ cap ∧ cap ≤ cur.size ∧ cap ≤ maxLen ∧ cur.toList.take l.length = cB l)
theorem SlAt.nil (w : World) : SlAt w nilS [] := .inl ⟨rfl, rfl⟩
theorem SlAt.keep {w w' : World} {v : Value} {l : List UInt8} (h : SlAt w v l) (hb : ∀ g, v.ownBlock = some g → w'.heap[g]? = w.heap[g]?) : SlAt w' v l := by
  rcases h with h | ⟨hl, g, cap, cur, rfl, h1, h2⟩
  · exact .inl h
  · exact .inr ⟨hl, g, cap, cur, rfl, (hb g rfl).trans h1, h2⟩
theorem SlAt.lt {w : World} {v : Value} {l : List UInt8} (h : SlAt w v l) : ∀ g, v.ownBlock = some g → g < w.heap.size := by
  intro g hg
  rcases h with ⟨rfl, _⟩ | ⟨hl, g', cap, cur, rfl, h1, h2⟩
  · cases hg
  · simp [Value.ownBlock] at hg
    subst hg
    exact (Array.getElem?_eq_some_iff.1 h1).1
theorem SlAt.elem {w : World} {v : Value} {l : List UInt8} (h : SlAt w v l) : ∀ g, v.ownBlock = some g → ∃ cur, w.heap[g]? = some (.cells cur 5 (0, 0)) := by
  intro g hg
  rcases h with ⟨rfl, _⟩ | ⟨hl, g', cap, cur, rfl, h1, h2⟩
  · cases hg
  · simp [Value.ownBlock] at hg
    subst hg
    exact ⟨cur, h1⟩
theorem SlAt.nil_iff {w : World} {v : Value} {l : List UInt8} (h : SlAt w v l) : v = nilS ↔ l = [] := by
  rcases h with ⟨rfl, rfl⟩ | ⟨hl, g', cap, cur, rfl, h1, h2⟩
  · simp
  · simp [hl]
theorem SlAt.len {w : World} {v : Value} {l : List UInt8} (h : SlAt w v l) : ∃ oa cap, v = .slice oa l.length cap := by
  rcases h with ⟨rfl, rfl⟩ | ⟨hl, g', cap, cur, rfl, h1, h2⟩
  · exact ⟨none, 0, rfl⟩
  · exact ⟨_, _, rfl⟩
def capOf : Value → Nat
  | .slice _ _ c => c
  | _ => 0
/-- how an append went -/
def Went (w w' : World) (v v' : Value) (n m : Nat) : Prop :=
  (w.grownBy w' none ∧ v' = v ∧ m = 0) ∨
  (∃ g cap cur cur', v = .slice (some ⟨g, 0, none⟩) n cap ∧ v' = .slice (some ⟨g, 0, none⟩) (n + m) cap ∧ n + m ≤ cap ∧ w.heap[g]? = some (.cells cur 5 (0, 0)) ∧ w'.heap[g]? = some (.cells cur' 5 (0, 0)) ∧ cur'.size = cur.size ∧ cur'.toList.take n = cur.toList.take n ∧ (m = 0 → cur' = cur) ∧ w.grownBy w' (some g) ∧ w'.heap.size = w.heap.size) ∨
  (v'.ownBlock = some w.heap.size ∧ w.grownBy w' none)
theorem strCells_cB (s : ByteArray) : Lib.strCells s = cB s.data.toList := rfl
section
variable {P : Program} (w : World)
theorem run_append_str (t u ty e : TypeId) (he : e = 5) (i : TypeInfo) (ht : P.underlying t = some (.slice e)) (hu : P.underlying u = some .string) (hi : P.info? e = some i) (hz : i.zero = some (.int .u8 0))
    (hsize : i.size = 1) (hby : i.bytes = 1) (v : Value) (l : List UInt8) (h : SlAt w v l) (s : ByteArray) (hl : l.length ≤ 100000000) (hs : s.size ≤ 100000000) :
    ∃ v' w', (Builtin.append_ #[t, u] ty #[v, .string s]).run P w = .ok v' w' ∧ SlAt w' v' (l ++ s.data.toList) ∧ Went w w' v v' l.length s.size := by
  have h63 : l.length + s.size ≤ maxLen := by unfold maxLen; omega
  have hsl : s.data.toList.length = s.size := by simp
  have hcl : (cB l ++ Lib.strCells s).length = l.length + s.size := by rw [List.length_append, cB_length, Lib.strCells_length]
  have hall : cB (l ++ s.data.toList) = cB l ++ Lib.strCells s := by rw [cB_append, strCells_cB]
  have hlen2 : (l ++ s.data.toList).length = l.length + s.size := by rw [List.length_append, hsl]
  have grown : ∀ (old : Nat), old < l.length + s.size →
      SlAt (w.drew.alloc (.cells ((cB l).toArray ++ (Lib.strCells s).toArray ++ Builtin.zeroCells (Value.int .u8 0).cells (grownCap w (l.length + s.size) old e - (l.length + s.size))) e))
        (.slice (some ⟨w.heap.size, 0, none⟩) (l.length + s.size) (grownCap w (l.length + s.size) old e)) (l ++ s.data.toList) ∧
      w.grownBy (w.drew.alloc (.cells ((cB l).toArray ++ (Lib.strCells s).toArray ++ Builtin.zeroCells (Value.int .u8 0).cells (grownCap w (l.length + s.size) old e - (l.length + s.size))) e)) none := by
    intro old ho
    have hge := grownCap_ge w (l.length + s.size) old e
    have hcm : grownCap w (l.length + s.size) old e ≤ maxLen := grownCap_le_maxLen w (l.length + s.size) old e h63
    refine ⟨.inr ⟨fun e0 => by have := congrArg List.length e0; rw [hlen2, List.length_nil] at this; omega, w.heap.size, _, _, by rw [hlen2], by rw [← he]; exact heap_alloc_new w.drew _, by rw [hlen2]; exact hge, ?_, hcm, ?_⟩, ⟨rfl, rfl, rfl, by simp, fun k hk _ => heap_alloc_old w.drew _ hk⟩⟩
    · have hz1 : (Value.int IntKind.u8 0).cells.size = 1 := rfl
      simp only [Array.size_append, List.size_toArray, size_zeroCells, hz1, cB_length, Lib.strCells_length]
      omega
    · simp only [Array.toList_append, List.append_assoc]
      rw [← List.append_assoc, hall, hlen2, ← hcl]
      exact List.take_left
  rcases h with ⟨rfl, rfl⟩ | ⟨hne, g, cap, cur, rfl, hg, hnc, hcs, hcm, htake⟩
  · by_cases hm : s.size = 0
    · have hs0 : s.data.toList = [] := List.eq_nil_of_length_eq_zero (by omega)
      refine ⟨.slice none 0 0, w, ?_, .inl ⟨rfl, by rw [hs0]; rfl⟩, (.inl ⟨⟨rfl, rfl, rfl, Nat.le_refl _, fun _ _ _ => rfl⟩, rfl, hm⟩)⟩
      have hf := Lib.run_firstCells_string (P := P) w 1 s
      rw [hm] at hf
      simp [Builtin.append_, run_underlying ht, run_underlying hu, sizeOf, typeInfo, hi, hsize, Builtin.lenOf, hm, hf]
    · have hr := run_append_nil_string (P := P) w t u ty e i (.int .u8 0) ht hu hi hz s (by omega) (by omega) (by rw [hby]; omega)
      have hgr := grown 0 (by omega)
      have e0 : cB [] = [] := rfl
      simp only [List.length_nil, Nat.zero_add, e0, List.nil_append, Array.empty_append] at hgr ⊢
      have e1 : (s.data.map fun b => Value.int .u8 b.toNat) = (Lib.strCells s).toArray := by
        apply Array.ext'
        simp [Lib.strCells]
      rw [e1] at hr
      exact ⟨_, _, hr, hgr.1, .inr (.inr ⟨rfl, hgr.2⟩)⟩
  · by_cases hroom : l.length + s.size ≤ cap
    · subst he
      have hr := Lib.run_append_room_string (P := P) w t u ty _ i ht hu hi hsize g l.length cap cur hg s hroom (by omega)
      have hsz : (cur.toList.take l.length ++ Lib.strCells s ++ cur.toList.drop (l.length + s.size)).toArray.size = cur.size := by
        simp only [List.size_toArray, List.length_append, List.length_take, List.length_drop, Array.length_toList, Lib.strCells_length]
        omega
      refine ⟨_, _, hr, .inr ⟨fun e0 => hne (List.append_eq_nil_iff.1 e0).1, g, cap, _, by rw [hlen2], setRow_heap w g cur _ _ _ hg, by rw [hlen2]; exact hroom, by rw [hsz]; exact hcs, hcm, ?_⟩, .inr (.inl ⟨g, cap, cur, _, rfl, rfl, hroom, hg, setRow_heap w g cur _ _ _ hg, hsz, ?_, ?_, ⟨rfl, rfl, rfl, by simp, fun k _ hk => setRow_other w g k _ (fun e => hk (by rw [e]))⟩, by simp⟩)⟩
      · rw [htake, hall, hlen2, ← hcl]
        exact List.take_left
      · rw [List.append_assoc, htake, List.take_left' (cB_length l)]
      · intro hm
        have hs0 : Lib.strCells s = [] := List.eq_nil_of_length_eq_zero (by rw [Lib.strCells_length]; exact hm)
        rw [hs0, hm]
        simp
    · have holds : ∀ j u, (cB l)[j]? = some u → w.cell? ((⟨g, 0, none⟩ : Addr).add j) = some u := by
        intro j u hj
        have hjl : j < l.length := by rw [← cB_length]; exact (List.getElem?_eq_some_iff.1 hj).1
        rw [← htake, List.getElem?_take_of_lt hjl, Array.getElem?_toList] at hj
        have e : ((⟨g, 0, none⟩ : Addr).add j) = ⟨g, j, none⟩ := by
          unfold Addr.add
          split
          · simp_all
          · simp
        rw [e]
        simp [World.cell?, hg, hj]
      have hr := Lib.run_append_grow_string (P := P) w t u ty e i (.int .u8 0) ht hu hi hz ⟨g, 0, none⟩ l.length cap (cB l) (by rw [hsize, cB_length]; simp) holds s (by omega) (by omega) (by rw [hby]; exact growslice_fits (by omega) (by omega))
      have hgr := grown cap (by omega)
      exact ⟨_, _, hr, hgr.1, .inr (.inr ⟨rfl, hgr.2⟩)⟩
end
end Go.Proofs.YtbhgcioeibhjeaaGreatDoor
namespace Go.Proofs.YtbhgcioeibhjeaaGreatDoor
open Go.RowKit

section
variable {P : Program} {w : World} {ops : Array Oper} {rest : List Oper} {o : Oper} {a : Act} {Q : Exit → Act → World → Prop}
theorem wpList_app (hgd : o.guard = none) (sl x : Operand) (t u : TypeId) (ho : o.op = .call { callee := .builtin .append, args := #[sl, x], argTypes := #[t, u] })
    (vs vx : Value) (hs : a.eval sl = vs) (hx : a.eval x = vx) (v' : Value) (w' : World) (hr : (Builtin.append_ #[t, u] o.type #[vs, vx]).run P w = .ok v' w') (h : wpList P ops Q rest (a.put o.dst v') w') : wpList P ops Q (o :: rest) a w := by
  refine wpList_plain hgd fun K hK => ?_
  unfold Oper.wp execOp
  simp only [ho, resolve, invoke, builtin, Sem.run_bind, Sem.run_pure, Result.andThen_ok, List.map_toArray, List.map_cons, List.map_nil, hs, hx, hr]
  exact hK _ _ h
theorem wpList_del (hgd : o.guard = none) (sl x : Operand) (t u : TypeId) (ho : o.op = .call { callee := .builtin .delete, args := #[sl, x], argTypes := #[t, u] })
    (vs vx : Value) (hs : a.eval sl = vs) (hx : a.eval x = vx) (v' : Value) (w' : World) (hr : (Builtin.delete_ #[t, u] o.type #[vs, vx]).run P w = .ok v' w') (h : wpList P ops Q rest (a.put o.dst v') w') : wpList P ops Q (o :: rest) a w := by
  refine wpList_plain hgd fun K hK => ?_
  unfold Oper.wp execOp
  simp only [ho, resolve, invoke, builtin, Sem.run_bind, Sem.run_pure, Result.andThen_ok, List.map_toArray, List.map_cons, List.map_nil, hs, hx, hr]
  exact hK _ _ h
end
theorem zeroB (w : World) : (zeroValue 43).run Tryz.prog w = .ok nilS w := by kernel_rfl

/-- what a stored slice is: none at all, where it holds nothing -/
def stV (oa : Option Addr) (n cap : Nat) : Value := if n = 0 then nilS else .slice oa n cap
set_option maxHeartbeats 1000000 in
theorem set_any (r f : Nat) (V : Nat → Value) (oa : Option Addr) (n cap : Nat) (w : World) (h : FMap w r V) (hf : f < 64) :
    Calls Tryz.prog 93 #[.map (some r), .int .i64 f, .slice oa n cap] w fun e w' => e = .returned (.tuple #[]) ∧ FMap w' r (updV V f (stV oa n cap)) ∧ w.grownBy w' (some r) := by
  by_cases hn : n = 0
  · subst hn
    obtain ⟨w', hr, h1, h2⟩ := h.delete (P := Tryz.prog) Tryz.underlying69 Tryz.underlying3 f 0
    have H := Lib.hid (And.intro h1 h2)
    clear h h1 h2
    go_enter Tryz.func93, Tryz.ntmps93
    go_wp2_with (at_builtin; refine wpList_del rfl _ _ _ _ rfl _ _ rfl rfl _ w' hr ?_)
    refine bodyPost_ret (results_none rfl _ _ _) rfl ?_
    exact ⟨rfl, H.out⟩
  · have hne : Value.slice oa n cap ≠ nilS := fun e => by simp at e; exact hn e.2.1
    obtain ⟨w', hr, h1, h2⟩ := h.store (P := Tryz.prog) Tryz.underlying69 Tryz.underlying3 f hf (.slice oa n cap) hne
    have H := Lib.hid (And.intro h1 h2)
    have hst : stV oa n cap = .slice oa n cap := if_neg hn
    have HST := Lib.hid hst
    clear h h1 h2 hst
    have hn2 : ((n : Int) == 0) = false := by simp; omega
    go_enter Tryz.func93, Tryz.ntmps93
    go_wp2_with fail
    go_end0
    rw [HST.out]
    exact ⟨rfl, H.out⟩

/-- the bytes of files that lie in a map's slices; no two files share memory -/
structure Fs (w : World) (r : Nat) (V : Nat → Value) (F : Nat → List UInt8) : Prop where
  map : FMap w r V
  row : ∀ f, SlAt w (V f) (F f)
  apart : ∀ f f' g, f ≠ f' → (V f).ownBlock = some g → (V f').ownBlock ≠ some g
def updF (F : Nat → List UInt8) (f : Nat) (l : List UInt8) : Nat → List UInt8 := fun g => if g = f then l else F g
theorem updF_same (F : Nat → List UInt8) (f : Nat) (l : List UInt8) : updF F f l f = l := by simp [updF]
theorem updF_other {F : Nat → List UInt8} {f g : Nat} {l : List UInt8} (h : g ≠ f) : updF F f l g = F g := by simp [updF, h]
/-- a slice's block is no map's -/
theorem SlAt.noMap {w : World} {v : Value} {l : List UInt8} {r : Nat} {V : Nat → Value} (h : SlAt w v l) (hm : FMap w r V) : v.ownBlock ≠ some r := fun e => by
  obtain ⟨cur, hc⟩ := h.elem r e
  obtain ⟨es, c, h1, _⟩ := hm
  rw [h1] at hc
  cases hc
/-- a slice that lies elsewhere, or in front of what is put, abides -/
theorem SlAt.went {w w' : World} {v v' u : Value} {n m : Nat} {l : List UInt8} (h : SlAt w u l) (hw : Went w w' v v' n m) (hs : u.ownBlock = v.ownBlock → l.length ≤ n ∨ capOf v = n) : SlAt w' u l := by
  rcases hw with ⟨h6, _, _⟩ | ⟨g, cap, cur, cur', rfl, rfl, hr, h1, h2, h3, h4, h5, h6, _⟩ | ⟨_, h6⟩
  · exact h.keep (fun g' hg' => h6.block g' (h.lt g' hg') (by simp))
  · by_cases hg : u.ownBlock = some g
    · rcases h with ⟨rfl, _⟩ | ⟨hl, g', cap', c0, rfl, k1, k2, k3, k4, k5⟩
      · cases hg
      · simp [Value.ownBlock] at hg
        subst hg
        rw [k1] at h1
        cases h1
        have hln : l.length ≤ n ∨ cur' = cur := by
          rcases hs rfl with h | h
          · exact .inl h
          · simp only [capOf] at h
            exact .inr (h5 (by omega))
        refine .inr ⟨hl, g', cap', cur', rfl, h2, k2, by omega, k4, ?_⟩
        rcases hln with hln | rfl
        · rw [← k5, ← Nat.min_eq_left hln, ← List.take_take, h4, List.take_take]
        · exact k5
    · exact h.keep (fun g' hg' => h6.block g' (h.lt g' hg') (fun e => hg (by rw [hg', e])))
  · exact h.keep (fun g' hg' => h6.block g' (h.lt g' hg') (by simp))
theorem Went.size {w w' : World} {v v' : Value} {n m : Nat} (h : Went w w' v v' n m) : w.heap.size ≤ w'.heap.size := by
  rcases h with ⟨h6, _⟩ | ⟨g, cap, cur, cur', _, _, _, _, _, _, _, _, h6, _⟩ | ⟨_, h6⟩
  · exact h6.size
  · exact h6.size
  · exact h6.size
/-- what no slice of the file lies in abides -/
theorem Went.block {w w' : World} {v v' : Value} {n m : Nat} (h : Went w w' v v' n m) {k : Nat} (hk : k < w.heap.size) (hv : v.ownBlock ≠ some k) : w'.heap[k]? = w.heap[k]? := by
  rcases h with ⟨h6, _⟩ | ⟨g, cap, cur, cur', rfl, _, _, _, _, _, _, _, h6, _⟩ | ⟨_, h6⟩
  · exact h6.block k hk (by simp)
  · exact h6.block k hk (fun e => hv (by rw [e]; rfl))
  · exact h6.block k hk (by simp)
theorem Went.own {w w' : World} {v v' : Value} {n m : Nat} (h : Went w w' v v' n m) : v'.ownBlock = v.ownBlock ∨ v'.ownBlock = some w.heap.size := by
  rcases h with ⟨_, rfl, _⟩ | ⟨g, cap, cur, cur', rfl, rfl, _⟩ | ⟨h6, _⟩
  · exact .inl rfl
  · exact .inl rfl
  · exact .inr h6
theorem Went.os {w w' : World} {v v' : Value} {n m : Nat} (h : Went w w' v v' n m) : w'.os = w.os ∧ w'.tape = w.tape ∧ w'.output = w.output := by
  rcases h with ⟨h6, _⟩ | ⟨g, cap, cur, cur', _, _, _, _, _, _, _, _, h6, _⟩ | ⟨_, h6⟩
  · exact ⟨h6.os, h6.tape, h6.output⟩
  · exact ⟨h6.os, h6.tape, h6.output⟩
  · exact ⟨h6.os, h6.tape, h6.output⟩
/-- a map behind an append and a store of what came of it -/
theorem Fs.put {w w1 w' : World} {r f : Nat} {V : Nat → Value} {F : Nat → List UInt8} {v' : Value} {l' : List UInt8} {n m : Nat} (h : Fs w r V F) (h1 : SlAt w1 v' l') (hw : Went w w1 (V f) v' n m) (hm : FMap w' r (updV V f v')) (hg : w1.grownBy w' (some r)) (hn : n = (F f).length) : Fs w' r (updV V f v') (updF F f l') := by
  have hm1 : FMap w1 r V := h.map.keep (hw.block h.map.lt ((h.row f).noMap h.map))
  have keep1 : ∀ g, g ≠ f → SlAt w1 (V g) (F g) := fun g hgf => (h.row g).went hw (fun e => by
    rcases h.row g with ⟨e0, e1⟩ | ⟨_, gg, cap, cur, e0, _⟩
    · exact .inl (by rw [e1]; simp)
    · exact absurd (by rw [← e, e0]; rfl) (h.apart g f gg hgf (by rw [e0]; rfl)))
  have keep2 : ∀ v l, SlAt w1 v l → SlAt w' v l := fun v l hs => hs.keep (fun g hgo => hg.block g (hs.lt g hgo) (fun e => (hs.noMap hm1) (by rw [hgo, e])))
  refine ⟨hm, fun g => ?_, fun a b g hab ha hb => ?_⟩
  · by_cases hgf : g = f
    · subst hgf
      rw [updV_same, updF_same]
      exact keep2 _ _ h1
    · rw [updV_other hgf, updF_other hgf]
      exact keep2 _ _ (keep1 g hgf)
  · have own := hw.own
    by_cases haf : a = f
    · subst haf
      rw [updV_same] at ha
      rw [updV_other (fun e => hab e.symm)] at hb
      rcases own with e | e
      · rw [e] at ha
        exact h.apart a b g hab ha hb
      · rw [e] at ha
        have := (h.row b).lt g hb
        cases ha
        omega
    · rw [updV_other haf] at ha
      by_cases hbf : b = f
      · subst hbf
        rw [updV_same] at hb
        rcases own with e | e
        · rw [e] at hb
          exact h.apart a b g hab ha hb
        · rw [e] at hb
          have := (h.row a).lt g ha
          cases hb
          omega
      · rw [updV_other hbf] at hb
        exact h.apart a b g hab ha hb
theorem stV_of {w : World} {v : Value} {l : List UInt8} (h : SlAt w v l) : ∃ oa cap, v = .slice oa l.length cap ∧ stV oa l.length cap = v := by
  rcases h with ⟨rfl, rfl⟩ | ⟨hl, g, cap, cur, rfl, _⟩
  · exact ⟨none, 0, rfl, rfl⟩
  · exact ⟨_, _, rfl, if_neg (fun e => hl (List.eq_nil_of_length_eq_zero e))⟩
/-- what put does to a map of files -/
def PutE (w w' : World) (r f : Nat) (V : Nat → Value) (n m : Nat) (v' : Value) : Prop := ∃ w1, Went w w1 (V f) v' n m ∧ w1.grownBy w' (some r)
set_option maxHeartbeats 1000000 in
theorem put_any (r f : Nat) (V : Nat → Value) (F : Nat → List UInt8) (s : ByteArray) (w : World) (h : Fs w r V F) (hf : f < 64) (hl : (F f).length ≤ 100000000) (hs : s.size ≤ 100000000) :
    Calls Tryz.prog 70 #[.map (some r), .int .i64 f, .string s] w fun e w' => e = .returned (.tuple #[]) ∧ ∃ v', Fs w' r (updV V f v') (updF F f (F f ++ s.data.toList)) ∧ PutE w w' r f V (F f).length s.size v' := by
  obtain ⟨i0, hi0, hz0, hz1, hz2⟩ := info_parts infoB
  have hlk := h.map.lookup (P := Tryz.prog) Tryz.underlying69 Tryz.underlying3 (zeroB w) f
  obtain ⟨v', w1, hr, h1, hw⟩ := run_append_str (P := Tryz.prog) w 43 9 43 5 rfl i0 Tryz.underlying43 Tryz.underlying9 hi0 hz0 hz1 hz2 (V f) (F f) (h.row f) s hl hs
  have hm1 : FMap w1 r V := h.map.keep (hw.block h.map.lt ((h.row f).noMap h.map))
  obtain ⟨oa, cap, e0, e1⟩ := stV_of h1
  have HS := Lib.hid (set_any r f V oa (F f ++ s.data.toList).length cap w1 hm1 hf)
  rw [← e0, e1] at HS
  have HP := Lib.hid (fun w' (hm : FMap w' r (updV V f v')) (hg : w1.grownBy w' (some r)) => And.intro (h.put h1 hw hm hg rfl) (show PutE w w' r f V (F f).length s.size v' from ⟨w1, hw, hg⟩))
  clear h h1 hw hm1 e0 e1 hl hs hi0 hz0 hz1 hz2
  generalize V f = vf at *
  go_enter Tryz.func70, Tryz.ntmps70
  go_wp2_with (first | (at_builtin; refine wpList_app rfl _ _ _ _ rfl _ _ rfl rfl _ w1 hr ?_) | (go_at_call 93; refine HS.out.mono ?_; rintro e w' ⟨rfl, hm, hg⟩))
  go_end0
  exact ⟨rfl, v', HP.out _ hm hg⟩
theorem Went.drew {w w' : World} {v v' : Value} {n m : Nat} (h : Went w.drew w' v v' n m) : Went w w' v v' n m := by
  rcases h with ⟨h6, h⟩ | ⟨g, cap, cur, cur', e1, e2, h1, h2, h3, h4, h5, h7, h6, h8⟩ | ⟨h1, h6⟩
  · exact .inl ⟨⟨h6.os, h6.tape, h6.output, h6.size, h6.block⟩, h⟩
  · exact .inr (.inl ⟨g, cap, cur, cur', e1, e2, h1, h2, h3, h4, h5, h7, ⟨h6.os, h6.tape, h6.output, h6.size, h6.block⟩, h8⟩)
  · exact .inr (.inr ⟨h1, ⟨h6.os, h6.tape, h6.output, h6.size, h6.block⟩⟩)
theorem Fs.drew {w : World} {r : Nat} {V : Nat → Value} {F : Nat → List UInt8} (h : Fs w r V F) : Fs w.drew r V F := ⟨h.map, h.row, h.apart⟩
theorem PutE.drew {w w' : World} {r f : Nat} {V : Nat → Value} {n m : Nat} {v' : Value} (h : PutE w.drew w' r f V n m v') : PutE w w' r f V n m v' := by
  obtain ⟨w1, h1, h2⟩ := h
  exact ⟨w1, h1.drew, h2⟩
/-- what is no row of bytes, and not the map, abides -/
theorem PutE.keep {w w' : World} {r f : Nat} {V : Nat → Value} {F : Nat → List UInt8} {n m : Nat} {v' : Value} (h : PutE w w' r f V n m v') (hs : SlAt w (V f) (F f)) {k : Nat} {o : Obj} (hk : w.heap[k]? = some o) (hne : k ≠ r) (ho : ∀ cur, o ≠ .cells cur 5 (0, 0)) : w'.heap[k]? = some o := by
  obtain ⟨w1, h1, h2⟩ := h
  have hlt := (Array.getElem?_eq_some_iff.1 hk).1
  have e1 := h1.block hlt (fun e => by
    obtain ⟨cur, hc⟩ := hs.elem k e
    rw [hk] at hc
    cases hc
    exact ho cur rfl)
  rw [h2.block k (Nat.lt_of_lt_of_le hlt h1.size) (fun e => hne (by cases e; rfl)), e1, hk]
theorem PutE.size {w w' : World} {r f : Nat} {V : Nat → Value} {n m : Nat} {v' : Value} (h : PutE w w' r f V n m v') : w.heap.size ≤ w'.heap.size := by
  obtain ⟨w1, h1, h2⟩ := h
  exact Nat.le_trans h1.size h2.size
theorem PutE.os {w w' : World} {r f : Nat} {V : Nat → Value} {n m : Nat} {v' : Value} (h : PutE w w' r f V n m v') : w'.os = w.os ∧ w'.tape = w.tape ∧ w'.output = w.output := by
  obtain ⟨w1, h1, h2⟩ := h
  exact ⟨h2.os.trans h1.os.1, h2.tape.trans h1.os.2.1, h2.output.trans h1.os.2.2⟩
/-- what is neither the map nor the file's slice abides -/
theorem PutE.block {w w' : World} {r f : Nat} {V : Nat → Value} {n m : Nat} {v' : Value} (h : PutE w w' r f V n m v') {k : Nat} (hk : k < w.heap.size) (hr : k ≠ r) (hv : (V f).ownBlock ≠ some k) : w'.heap[k]? = w.heap[k]? := by
  obtain ⟨w1, h1, h2⟩ := h
  exact (h2.block k (Nat.lt_of_lt_of_le hk h1.size) (fun e => hr (by cases e; rfl))).trans (h1.block hk hv)
theorem PutE.own {w w' : World} {r f : Nat} {V : Nat → Value} {n m : Nat} {v' : Value} (h : PutE w w' r f V n m v') : v'.ownBlock = (V f).ownBlock ∨ v'.ownBlock = some w.heap.size := by
  obtain ⟨w1, h1, _⟩ := h
  exact h1.own
end Go.Proofs.YtbhgcioeibhjeaaGreatDoor
