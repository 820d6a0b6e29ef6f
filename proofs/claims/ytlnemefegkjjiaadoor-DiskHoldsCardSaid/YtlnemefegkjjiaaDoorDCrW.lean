/-
  disk: what a crash goes through.
-/
import Derived.Test.YtlnemefegkjjiaaDoorDApp
namespace Go.Proofs.YtlnemefegkjjiaaDoor
open Go.RowKit

/-- a disk in a crash: its files are what was synced, and what has been done again -/
structure CrW (N : Nat) (w : World) (Φ : Nat → Prop) (p ms : Nat) (V : Nat → Value) (lv : Value) (B : List (Th × Nat × Nat)) (room : Int) (F : Nat → List UInt8) : Prop where
  p0 : w.heap[p]? = some (.cells #[.map (some ms), .map (some ms), lv, .int .i64 room] 51 (0, 0))
  ff : Fs w ms V F
  row : w.ownsRow N 68 6 lv B.length (B.flatMap fun x => thC x.1 x.2.1 x.2.2)
  bx : ∀ x ∈ B, BoxIn w x.1 x.2.1 x.2.2
  fp : Φ p
  fms : Φ ms
  fv : ∀ f g, (V f).ownBlock = some g → Φ g
  fl : ∀ g, lv.ownBlock = some g → Φ g
  fb : ∀ x ∈ B, Φ x.2.1 ∧ Φ x.2.2
  lt : ∀ k, Φ k → N ≤ k ∧ k < w.heap.size
theorem CrW.keep {N : Nat} {w w' : World} {Φ : Nat → Prop} {p ms : Nat} {V : Nat → Value} {lv : Value} {B : List (Th × Nat × Nat)} {room : Int} {F : Nat → List UInt8} (h : CrW N w Φ p ms V lv B room F) (hs : w.heap.size ≤ w'.heap.size) (hb : ∀ k, Φ k → w'.heap[k]? = w.heap[k]?) : CrW N w' Φ p ms V lv B room F :=
  ⟨(hb p h.fp).trans h.p0, h.ff.keep (hb _ h.fms) (fun f g hg => hb g (h.fv f g hg)), ownsRow_same h.row (fun g hg => hb g (h.fl g hg)), fun x hx => (h.bx x hx).same (hb _ (h.fb x hx).1) (hb _ (h.fb x hx).2), h.fp, h.fms, h.fv, h.fl, h.fb, fun k hk => ⟨(h.lt k hk).1, Nat.lt_of_lt_of_le (h.lt k hk).2 hs⟩⟩
/-- the beginning of a crash -/
theorem DkW.crash {N : Nat} {w : World} {Φ : Nat → Prop} {p mf ms : Nat} {V U : Nat → Value} {lv : Value} {B : List (Th × Nat × Nat)} {D : Dk} (h : DkW N w Φ p mf ms V U lv B D) : CrW N (w.setCell ⟨p, 0, none⟩ (.map (some ms))) Φ p ms U lv B D.room D.G ∧ TurnD w (w.setCell ⟨p, 0, none⟩ (.map (some ms))) Φ Φ := by
  have hfar : ∀ k, k ≠ p → (w.setCell ⟨p, 0, none⟩ (.map (some ms))).heap[k]? = w.heap[k]? := fun k hk => Below.heap_setCell _ _ _ _ hk
  have nep : ∀ (k : Nat) (o : Obj), w.heap[k]? = some o → (∀ cur, o ≠ Obj.cells cur 51 (0, 0)) → k ≠ p := fun k o hk ho e => by
    rw [e, h.p0] at hk
    cases hk
    exact ho _ rfl
  obtain ⟨_, ⟨es, c, hm⟩⟩ := h.mapObj
  have hsz : (w.setCell ⟨p, 0, none⟩ (.map (some ms))).heap.size = w.heap.size := by simp [World.setCell]
  refine ⟨⟨?_, h.gg.keep (hfar _ (nep _ _ hm (fun _ e => by cases e))) (fun f g hg => ?_), ownsRow_same h.row (fun g hg => ?_), fun x hx => ?_, h.fp, h.fms, h.fu, h.fl, h.fb, fun k hk => by rw [hsz]; exact h.lt k hk⟩, ⟨rfl, rfl, rfl, by rw [hsz]; exact Nat.le_refl _, fun k _ hn => hfar k (fun e => hn (by rw [e]; exact h.fp)), fun k hk => .inl hk⟩⟩
  · unfold World.setCell
    rw [Array.getElem?_modify, if_pos rfl, h.p0]
    rfl
  · obtain ⟨cur, hc⟩ := (h.gg.row f).elem g hg
    exact hfar g (nep g _ hc (fun _ e => by cases e))
  · rcases h.row.2 with ⟨e0, _⟩ | ⟨b, cap, cur, e0, _, h2, _⟩
    · rw [e0] at hg; cases hg
    · rw [e0] at hg; cases hg
      exact hfar _ (nep _ _ h2 (fun _ e => by cases e))
  · have hb := h.bx x hx
    refine hb.same ?_ ?_
    · cases ht : x.1 <;> (rw [ht] at hb; exact hfar _ (nep _ _ hb.1 (fun _ e => by cases e)))
    · cases ht : x.1 <;> (rw [ht] at hb; exact hfar _ (nep _ _ hb.2 (fun _ e => by cases e)))
theorem CrW.done {N : Nat} {w w' : World} {Φ : Nat → Prop} {p ms : Nat} {V V' : Nat → Value} {lv : Value} {B : List (Th × Nat × Nat)} {room : Int} {F F' : Nat → List UInt8} {t : Th} (h : CrW N w Φ p ms V lv B room F) (hs : N ≤ w.heap.size) (hd : DoneE w w' ms V F V' t) (hfs : Fs w' ms V' F') :
    CrW N w' (grewΦ w w' Φ) p ms V' lv B room F' ∧ TurnD w w' Φ (grewΦ w w' Φ) := by
  obtain ⟨es, c, hm, _⟩ := id h.ff.map
  have ne : ∀ (b : Nat) (cs : Array Value) (ty : TypeId) (fz : Nat × Nat), w.heap[b]? = some (.cells cs ty fz) → b ≠ ms := fun b cs ty fz hb e => by rw [e, hm] at hb; cases hb
  refine ⟨⟨hd.keep h.ff h.p0 (ne _ _ _ _ h.p0) (fun _ e => by cases e), hfs, ?_, fun x hx => (h.bx x hx).keep (fun k o hko ho hno => hd.keep h.ff hko (fun e => hno es c (by rw [e, hm] at hko; cases hko; rfl)) ho), .inl h.fp, .inl h.fms, ?_, fun g hg => .inl (h.fl g hg), fun x hx => ⟨.inl (h.fb x hx).1, .inl (h.fb x hx).2⟩, ?_⟩, ⟨hd.os.1, hd.os.2.1, hd.os.2.2, hd.size, fun k hk hn => hd.block hk (fun e => hn (by rw [e]; exact h.fms)) (fun f e => hn (h.fv f k e)), ?_⟩⟩
  · refine ownsRow_same h.row (fun g hg => ?_)
    rcases h.row.2 with ⟨e0, _⟩ | ⟨b, cap, cur, e0, _, h2, _⟩
    · rw [e0] at hg; cases hg
    · rw [e0] at hg
      cases hg
      rw [h2]
      exact hd.keep h.ff h2 (ne _ _ _ _ h2) (fun _ e => by cases e)
  · intro f g hg
    rcases hd.own f g hg with e | e
    · exact .inl (h.fv f g e)
    · exact .inr ⟨by omega, (hfs.row f).lt g hg⟩
  · intro k hk
    rcases hk with hk | hk
    · exact ⟨(h.lt k hk).1, Nat.lt_of_lt_of_le (h.lt k hk).2 hd.size⟩
    · exact ⟨by omega, hk.2⟩
  · intro k hk
    rcases hk with hk | hk
    · exact .inl hk
    · exact .inr hk.1
theorem flat_get (B : List (Th × Nat × Nat)) : ∀ (k : Nat) (hk : k < B.length) (i : Nat), i < 6 → (B.flatMap fun x => thC x.1 x.2.1 x.2.2)[k * 6 + i]? = (thC B[k].1 B[k].2.1 B[k].2.2)[i]? := by
  induction B with
  | nil => intro k hk; exact absurd hk (Nat.not_lt_zero _)
  | cons x B ih =>
    intro k hk i hi
    rw [List.flatMap_cons]
    have hx := thC_length x.1 x.2.1 x.2.2
    cases k with
    | zero =>
      rw [List.getElem?_append_left (by omega)]
      simp
    | succ k =>
      rw [List.getElem?_append_right (by omega), hx, show (k + 1) * 6 + i - 6 = k * 6 + i by omega, ih k (by simpa using hk) i hi]
      rfl
theorem things_row {W : World} {N : Nat} {lv : Value} {B : List (Th × Nat × Nat)} (h : W.ownsRow N 68 6 lv B.length (B.flatMap fun x => thC x.1 x.2.1 x.2.2)) :
    ∃ oa cap, lv = .slice oa B.length cap ∧ B.length ≤ cap ∧ ∀ (k : Nat) (hk : k < B.length), ∃ g, oa = some ⟨g, 0, none⟩ ∧ ∀ i v, i < 6 → (thC B[k].1 B[k].2.1 B[k].2.2)[i]? = some v → W.cell? ⟨g, k * 6 + i, none⟩ = some v := by
  have h0 := h
  rcases h.2 with ⟨e0, h1⟩ | ⟨g, cap, cur, e0, _, hg, hc, _, hsz, htk⟩
  · exact ⟨none, 0, by rw [e0, h1], by omega, fun k hk => by omega⟩
  · refine ⟨_, cap, e0, hc, fun k hk => ⟨g, rfl, fun i v hi hv => ?_⟩⟩
    rw [← flat_get B k hk i hi, ← htk, List.getElem?_take_of_lt (by omega), Array.getElem?_toList] at hv
    simp [World.cell?, hg, hv]
/-- what a crash leaves of the thing that comes next -/
def tornF (F : Nat → List UInt8) (n : Nat) : Th → Nat → List UInt8
  | .put f s => doneF F (tornT n (.put f s))
  | .cut _ _ => F
def Dk.crashF (D : Dk) (keep torn : Nat) : Nat → List UInt8 :=
  match D.L[keep]? with
  | none => doAll D.G (D.L.take keep)
  | some t => tornF (doAll D.G (D.L.take keep)) torn t
def Dk.crashed (D : Dk) (keep torn : Nat) : Dk := { D with F := D.crashF keep torn, G := D.crashF keep torn, L := [] }
theorem Dk.Inv.crashed {D : Dk} (h : D.Inv) (keep torn : Nat) : (D.crashed keep torn).Inv := by
  have hs : sumF (D.crashF keep torn) ≤ D.room := by
    unfold Dk.crashF
    cases ht : D.L[keep]? with
    | none => exact h.sums keep
    | some t =>
      have hok := h.oks keep t ht
      cases t with
      | cut f m => exact h.sums keep
      | put f s =>
        have h1 := h.sums (keep + 1)
        have hkl := (List.getElem?_eq_some_iff.1 ht).1
        have hke : D.L[keep] = .put f s := (List.getElem?_eq_some_iff.1 ht).2
        rw [List.take_succ_eq_append_getElem hkl, doAll_snoc, hke] at h1
        generalize doAll D.G (D.L.take keep) = F at *
        have e1 := sumF_upd F f (F f ++ s.data.toList) hok.1
        have e2 := sumF_upd F f (F f ++ (s.extract 0 (min torn s.size)).data.toList) hok.1
        have h1' : sumF (updF F f (F f ++ s.data.toList)) ≤ D.room := h1
        show sumF (updF F f (F f ++ (s.extract 0 (min torn s.size)).data.toList)) ≤ D.room
        have el : (s.extract 0 (min torn s.size)).data.toList.length ≤ s.data.toList.length := by
          simp
          omega
        simp only [List.length_append] at e1 e2
        omega
  exact ⟨h.room, rfl, fun k => by show sumF (doAll (D.crashF keep torn) ([].take k)) ≤ D.room; rw [List.take_nil]; exact hs, fun k t ht => (by have ht' : ([] : List Th)[k]? = some t := ht; simp at ht'), Nat.zero_le _⟩
end Go.Proofs.YtlnemefegkjjiaaDoor
