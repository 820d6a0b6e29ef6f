/-
  disk: the slices of bytes that files are: what they hold, append of a text to one, in place or elsewhere.
-/
import Derived.Test.YtlnemefegkjjiaaDoorDMap
import Derived.Lib.AppendStr
import Derived.Handy
namespace Go.Proofs.YtlnemefegkjjiaaDoor
open Go.RowKit

theorem infoB : (Tryd.prog.info? 5).map (fun i => (i.zero, i.size, i.bytes)) = some (some (.int .u8 0), 1, 1) := by kernel_rfl
def cB (l : List UInt8) : List Value := l.map fun b => Value.int .u8 b.toNat
theorem cB_length (l : List UInt8) : (cB l).length = l.length := by simp [cB]
theorem cB_append (l m : List UInt8) : cB (l ++ m) = cB l ++ cB m := by simp [cB]
theorem cB_take (l : List UInt8) (n : Nat) : (cB l).take n = cB (l.take n) := by simp [cB, List.map_take]
/-- a file's bytes: none at all are nil -/
def SlAt (w : World) (v : Value) (l : List UInt8) : Prop := (v = nilS ∧ l = []) ∨ (l ≠ [] ∧ ∃ g cap cur, v = .slice (some ⟨g, 0, none⟩) l.length cap ∧ w.heap[g]? = some (.cells cur 5 (0, 0)) ∧ l.length ≤ cap ∧ cap ≤ cur.size ∧ cap ≤ maxLen ∧ cur.toList.take l.length = cB l)
theorem SlAt.nil (w : World) : SlAt w nilS [] := .inl ⟨rfl, rfl⟩
theorem SlAt.keep {w w' : World} {v : Value} {l : List UInt8} (h : SlAt w v l) (hb : ∀ g, v.ownBlock = some g → w'.heap[g]? = w.heap[g]?) : SlAt w' v l := by
  rcases h with h | ⟨hl, g, cap, cur, rfl, h1, h2⟩
  · exact .inl h
  · exact .inr ⟨hl, g, cap, cur, rfl, (hb g rfl).trans h1, h2⟩
theorem SlAt.lt {w : World} {v : Value} {l : List UInt8} (h : SlAt w v l) : ∀ g, v.ownBlock = some g → g < w.heap.size := by
  intro g hg
  rcases h with ⟨rfl, _⟩ | ⟨hl, g', cap, cur, rfl, h1, h2⟩
  · cases hg
  · simp [Value.ownBlock] at hg
    subst hg
    exact (Array.getElem?_eq_some_iff.1 h1).1
theorem SlAt.elem {w : World} {v : Value} {l : List UInt8} (h : SlAt w v l) : ∀ g, v.ownBlock = some g → ∃ cur, w.heap[g]? = some (.cells cur 5 (0, 0)) := by
  intro g hg
  rcases h with ⟨rfl, _⟩ | ⟨hl, g', cap, cur, rfl, h1, h2⟩
  · cases hg
  · simp [Value.ownBlock] at hg
    subst hg
    exact ⟨cur, h1⟩
theorem SlAt.nil_iff {w : World} {v : Value} {l : List UInt8} (h : SlAt w v l) : v = nilS ↔ l = [] := by
  rcases h with ⟨rfl, rfl⟩ | ⟨hl, g', cap, cur, rfl, h1, h2⟩
  · simp
  · simp [hl]
theorem SlAt.len {w : World} {v : Value} {l : List UInt8} (h : SlAt w v l) : ∃ oa cap, v = .slice oa l.length cap := by
  rcases h with ⟨rfl, rfl⟩ | ⟨hl, g', cap, cur, rfl, h1, h2⟩
  · exact ⟨none, 0, rfl⟩
  · exact ⟨_, _, rfl⟩
def capOf : Value → Nat
  | .slice _ _ c => c
  | _ => 0
/-- how an append went -/
def Went (w w' : World) (v v' : Value) (n m : Nat) : Prop :=
  (w.grownBy w' none ∧ v' = v ∧ m = 0) ∨
  (∃ g cap cur cur', v = .slice (some ⟨g, 0, none⟩) n cap ∧ v' = .slice (some ⟨g, 0, none⟩) (n + m) cap ∧ n + m ≤ cap ∧ w.heap[g]? = some (.cells cur 5 (0, 0)) ∧ w'.heap[g]? = some (.cells cur' 5 (0, 0)) ∧ cur'.size = cur.size ∧ cur'.toList.take n = cur.toList.take n ∧ (m = 0 → cur' = cur) ∧ w.grownBy w' (some g) ∧ w'.heap.size = w.heap.size) ∨
  (v'.ownBlock = some w.heap.size ∧ w.grownBy w' none)
theorem strCells_cB (s : ByteArray) : Lib.strCells s = cB s.data.toList := rfl
section
variable {P : Program} (w : World)
theorem run_append_str (t u ty e : TypeId) (he : e = 5) (i : TypeInfo) (ht : P.underlying t = some (.slice e)) (hu : P.underlying u = some .string) (hi : P.info? e = some i) (hz : i.zero = some (.int .u8 0))
    (hsize : i.size = 1) (hby : i.bytes = 1) (v : Value) (l : List UInt8) (h : SlAt w v l) (s : ByteArray) (hl : l.length ≤ 100000000) (hs : s.size ≤ 100000000) :
    ∃ v' w', (Builtin.append_ #[t, u] ty #[v, .string s]).run P w = .ok v' w' ∧ SlAt w' v' (l ++ s.data.toList) ∧ Went w w' v v' l.length s.size := by
  have h63 : l.length + s.size ≤ maxLen := by unfold maxLen; omega
  have hsl : s.data.toList.length = s.size := by simp
  have hcl : (cB l ++ Lib.strCells s).length = l.length + s.size := by rw [List.length_append, cB_length, Lib.strCells_length]
  have hall : cB (l ++ s.data.toList) = cB l ++ Lib.strCells s := by rw [cB_append, strCells_cB]
  have hlen2 : (l ++ s.data.toList).length = l.length + s.size := by rw [List.length_append, hsl]
  have grown : ∀ (old : Nat), old < l.length + s.size →
      SlAt (w.drew.alloc (.cells ((cB l).toArray ++ (Lib.strCells s).toArray ++ Builtin.zeroCells (Value.int .u8 0).cells (grownCap w (l.length + s.size) old e - (l.length + s.size))) e))
        (.slice (some ⟨w.heap.size, 0, none⟩) (l.length + s.size) (grownCap w (l.length + s.size) old e)) (l ++ s.data.toList) ∧
      w.grownBy (w.drew.alloc (.cells ((cB l).toArray ++ (Lib.strCells s).toArray ++ Builtin.zeroCells (Value.int .u8 0).cells (grownCap w (l.length + s.size) old e - (l.length + s.size))) e)) none := by
    intro old ho
    have hge := grownCap_ge w (l.length + s.size) old e
    have hcm : grownCap w (l.length + s.size) old e ≤ maxLen := grownCap_le_maxLen w (l.length + s.size) old e h63
    refine ⟨.inr ⟨fun e0 => by have := congrArg List.length e0; rw [hlen2, List.length_nil] at this; omega, w.heap.size, _, _, by rw [hlen2], by rw [← he]; exact heap_alloc_new w.drew _, by rw [hlen2]; exact hge, ?_, hcm, ?_⟩, ⟨rfl, rfl, rfl, by simp, fun k hk _ => heap_alloc_old w.drew _ hk⟩⟩
    · have hz1 : (Value.int IntKind.u8 0).cells.size = 1 := rfl
      simp only [Array.size_append, List.size_toArray, size_zeroCells, hz1, cB_length, Lib.strCells_length]
      omega
    · simp only [Array.toList_append, List.append_assoc]
      rw [← List.append_assoc, hall, hlen2, ← hcl]
      exact List.take_left
  rcases h with ⟨rfl, rfl⟩ | ⟨hne, g, cap, cur, rfl, hg, hnc, hcs, hcm, htake⟩
  · by_cases hm : s.size = 0
    · have hs0 : s.data.toList = [] := List.eq_nil_of_length_eq_zero (by omega)
      refine ⟨.slice none 0 0, w, ?_, .inl ⟨rfl, by rw [hs0]; rfl⟩, (.inl ⟨⟨rfl, rfl, rfl, Nat.le_refl _, fun _ _ _ => rfl⟩, rfl, hm⟩)⟩
      have hf := Lib.run_firstCells_string (P := P) w 1 s
      rw [hm] at hf
      simp [Builtin.append_, run_underlying ht, run_underlying hu, sizeOf, typeInfo, hi, hsize, Builtin.lenOf, hm, hf]
    · have hr := run_append_nil_string (P := P) w t u ty e i (.int .u8 0) ht hu hi hz s (by omega) (by omega) (by rw [hby]; omega)
      have hgr := grown 0 (by omega)
      have e0 : cB [] = [] := rfl
      simp only [List.length_nil, Nat.zero_add, e0, List.nil_append, Array.empty_append] at hgr ⊢
      have e1 : (s.data.map fun b => Value.int .u8 b.toNat) = (Lib.strCells s).toArray := by
        apply Array.ext'
        simp [Lib.strCells]
      rw [e1] at hr
      exact ⟨_, _, hr, hgr.1, .inr (.inr ⟨rfl, hgr.2⟩)⟩
  · by_cases hroom : l.length + s.size ≤ cap
    · subst he
      have hr := Lib.run_append_room_string (P := P) w t u ty _ i ht hu hi hsize g l.length cap cur hg s hroom (by omega)
      have hsz : (cur.toList.take l.length ++ Lib.strCells s ++ cur.toList.drop (l.length + s.size)).toArray.size = cur.size := by
        simp only [List.size_toArray, List.length_append, List.length_take, List.length_drop, Array.length_toList, Lib.strCells_length]
        omega
      refine ⟨_, _, hr, .inr ⟨fun e0 => hne (List.append_eq_nil_iff.1 e0).1, g, cap, _, by rw [hlen2], setRow_heap w g cur _ _ _ hg, by rw [hlen2]; exact hroom, by rw [hsz]; exact hcs, hcm, ?_⟩, .inr (.inl ⟨g, cap, cur, _, rfl, rfl, hroom, hg, setRow_heap w g cur _ _ _ hg, hsz, ?_, ?_, ⟨rfl, rfl, rfl, by simp, fun k _ hk => setRow_other w g k _ (fun e => hk (by rw [e]))⟩, by simp⟩)⟩
      · rw [htake, hall, hlen2, ← hcl]
        exact List.take_left
      · rw [List.append_assoc, htake, List.take_left' (cB_length l)]
      · intro hm
        have hs0 : Lib.strCells s = [] := List.eq_nil_of_length_eq_zero (by rw [Lib.strCells_length]; exact hm)
        rw [hs0, hm]
        simp
    · have holds : ∀ j u, (cB l)[j]? = some u → w.cell? ((⟨g, 0, none⟩ : Addr).add j) = some u := by
        intro j u hj
        have hjl : j < l.length := by rw [← cB_length]; exact (List.getElem?_eq_some_iff.1 hj).1
        rw [← htake, List.getElem?_take_of_lt hjl, Array.getElem?_toList] at hj
        have e : ((⟨g, 0, none⟩ : Addr).add j) = ⟨g, j, none⟩ := by
          unfold Addr.add
          split
          · simp_all
          · simp
        rw [e]
        simp [World.cell?, hg, hj]
      have hr := Lib.run_append_grow_string (P := P) w t u ty e i (.int .u8 0) ht hu hi hz ⟨g, 0, none⟩ l.length cap (cB l) (by rw [hsize, cB_length]; simp) holds s (by omega) (by omega) (by rw [hby]; exact growslice_fits (by omega) (by omega))
      have hgr := grown cap (by omega)
      exact ⟨_, _, hr, hgr.1, .inr (.inr ⟨rfl, hgr.2⟩)⟩
end
end Go.Proofs.YtlnemefegkjjiaaDoor
