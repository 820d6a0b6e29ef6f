/-
  disk, pure: what a file had since the last sync, and what a crash leaves of it.
-/
import Derived.Test.YtbhgcioeibhjeaaGreatDoorDWks
namespace Go.Proofs.YtbhgcioeibhjeaaGreatDoor
open Go.RowKit

/-- what a file had, thing by thing, perhaps told several times -/
inductive HadI (f : Nat) (G : Nat → List UInt8) : List Th → List (List UInt8) → Prop where
  | one : HadI f G [] [G f]
  | same {L : List Th} {h : List (List UInt8)} : HadI f G L h → HadI f G L (h ++ [doAll G L f])
  | did {L : List Th} {h : List (List UInt8)} (t : Th) : HadI f G L h → HadI f G (L ++ [t]) (h ++ [doAll G (L ++ [t]) f])
theorem HadI.last {f : Nat} {G : Nat → List UInt8} {L : List Th} {h : List (List UInt8)} (x : HadI f G L h) : 0 < h.length ∧ h[h.length - 1]? = some (doAll G L f) := by
  cases x with
  | one => exact ⟨by simp, rfl⟩
  | same x => simp
  | did t x => simp
theorem HadI.pair {f : Nat} {G : Nat → List UInt8} {L : List Th} {h : List (List UInt8)} (x : HadI f G L h) : ∀ k, k < L.length → ∃ i, h[i]? = some (doAll G (L.take k) f) ∧ h[i + 1]? = some (doAll G (L.take (k + 1)) f) := by
  have keep : ∀ {h : List (List UInt8)} {v z : List UInt8} {i : Nat}, h[i]? = some v → (h ++ [z])[i]? = some v := fun {h v z i} e => by
    rw [List.getElem?_append_left (List.getElem?_eq_some_iff.1 e).1]
    exact e
  induction x with
  | one => intro k hk; exact absurd hk (Nat.not_lt_zero _)
  | same x ih =>
    intro k hk
    obtain ⟨i, h1, h2⟩ := ih k hk
    exact ⟨i, keep h1, keep h2⟩
  | did t x ih =>
    rename_i L h
    intro k hk
    by_cases hkl : k < L.length
    · obtain ⟨i, h1, h2⟩ := ih k hkl
      refine ⟨i, ?_, ?_⟩
      · rw [List.take_append_of_le_length (by omega)]
        exact keep h1
      · rw [List.take_append_of_le_length (by omega)]
        exact keep h2
    · have hk2 : k = L.length := by
        rw [List.length_append] at hk
        simp at hk
        omega
      subst hk2
      obtain ⟨h0, hl⟩ := x.last
      refine ⟨h.length - 1, ?_, ?_⟩
      · rw [List.take_left]
        exact keep hl
      · rw [List.take_of_length_le (by rw [List.length_append]; simp), show h.length - 1 + 1 = h.length by omega]
        simp
theorem HadI.length_le {f : Nat} {G : Nat → List UInt8} {L : List Th} {h : List (List UInt8)} (x : HadI f G L h) : L.length < h.length := by
  induction x with
  | one => simp
  | same x ih => rw [List.length_append]; omega
  | did t x ih => simp only [List.length_append, List.length_cons, List.length_nil]; omega
/-- is it one of the two, or between them? -/
def betw (now a b : List UInt8) : Prop := now = a ∨ (now.length ≤ b.length ∧ a.length ≤ now.length ∧ b.take now.length = now ∧ now.take a.length = a)
def nextI (h : List (List UInt8)) (i : Nat) : Nat := min (i + 1) (h.length - 1)
theorem crash_had {D : Dk} {f : Nat} {h : List (List UInt8)} (x : HadI f D.G D.L h) (keep torn : Nat) : ∃ i a b, h[i]? = some a ∧ h[nextI h i]? = some b ∧ betw ((D.crashed (min keep D.L.length) torn).F f) a b := by
  show ∃ i a b, h[i]? = some a ∧ h[nextI h i]? = some b ∧ betw (D.crashF (min keep D.L.length) torn f) a b
  unfold Dk.crashF
  by_cases hk : keep < D.L.length
  · rw [Nat.min_eq_left (Nat.le_of_lt hk), List.getElem?_eq_getElem hk]
    obtain ⟨i, h1, h2⟩ := x.pair keep hk
    have hi := (List.getElem?_eq_some_iff.1 h2).1
    refine ⟨i, _, _, h1, by unfold nextI; rw [Nat.min_eq_left (by omega)]; exact h2, ?_⟩
    rw [List.take_succ_eq_append_getElem hk, doAll_snoc]
    generalize doAll D.G (D.L.take keep) = F
    show betw (tornF F torn D.L[keep] f) (F f) (doneF F D.L[keep] f)
    cases ht : D.L[keep] with
    | cut g m => exact .inl rfl
    | put g s =>
      show betw (updF F g (F g ++ (s.extract 0 (min torn s.size)).data.toList) f) (F f) (updF F g (F g ++ s.data.toList) f)
      by_cases hg : f = g
      · subst hg
        rw [updF_same, updF_same]
        have e : (s.extract 0 (min torn s.size)).data.toList = s.data.toList.take (min torn s.size) := by
          simp [ByteArray.data_extract]
        rw [e]
        have hl : s.data.toList.length = s.size := by simp
        refine .inr ⟨?_, ?_, ?_, List.take_left⟩
        · simp only [List.length_append, List.length_take]; omega
        · simp only [List.length_append]; omega
        · rw [List.length_append, List.length_take, List.take_length_add_append, ← List.length_take, List.take_eq_take_min, hl]
          congr 2
          simp only [List.length_take]
          omega
      · rw [updF_other hg]
        exact .inl rfl
  · rw [Nat.min_eq_right (by omega), List.getElem?_eq_none (Nat.le_refl _)]
    obtain ⟨h0, hl⟩ := x.last
    refine ⟨h.length - 1, _, _, hl, by unfold nextI; rw [Nat.min_eq_right (by omega)]; exact hl, .inl ?_⟩
    show doAll D.G (D.L.take D.L.length) f = _
    rw [List.take_length]
/-- what a call does to what a file had -/
def HadOf (f : Nat) (D : Dk) (h : List (List UInt8)) : Prop := HadI f D.G D.L h
theorem HadOf.new (room f : Nat) : HadOf f (newD room) [[]] := HadI.one
theorem HadOf.stay {f : Nat} {D : Dk} {h : List (List UInt8)} (x : HadOf f D h) (hi : D.Inv) : HadOf f D (h ++ [D.F f]) := by
  rw [hi.eq]
  exact HadI.same x
theorem HadOf.did {f : Nat} {D : Dk} {h : List (List UInt8)} (x : HadOf f D h) (hi : D.Inv) (t : Th) : HadOf f (D.did t) (h ++ [(D.did t).F f]) := by
  have e : (D.did t).F = doAll D.G (D.L ++ [t]) := by
    show doneF D.F t = _
    rw [doAll_snoc, ← hi.eq]
  rw [e]
  exact HadI.did t x
theorem HadOf.app {f : Nat} {D : Dk} {h : List (List UInt8)} (x : HadOf f D h) (hi : D.Inv) (g : Int) (l : List UInt8) : HadOf f (D.app g l) (h ++ [(D.app g l).F f]) := by
  unfold Dk.app
  split
  · exact x.did hi _
  · exact x.stay hi
theorem HadOf.cutd {f : Nat} {D : Dk} {h : List (List UInt8)} (x : HadOf f D h) (hi : D.Inv) (g m : Int) : HadOf f (D.cutd g m) (h ++ [(D.cutd g m).F f]) := by
  unfold Dk.cutd
  split
  · exact x.did hi _
  · exact x.stay hi
theorem HadOf.sync {f : Nat} {D : Dk} : HadOf f D.synced [D.F f] := HadI.one
theorem few_app (D : Dk) (g : Int) (l : List UInt8) : (D.app g l).L.length ≤ D.L.length + 1 := by
  unfold Dk.app
  split
  · show (D.L ++ [_]).length ≤ _
    simp
  · omega
theorem few_cutd (D : Dk) (g m : Int) : (D.cutd g m).L.length ≤ D.L.length + 1 := by
  unfold Dk.cutd
  split
  · show (D.L ++ [_]).length ≤ _
    simp
  · omega
end Go.Proofs.YtbhgcioeibhjeaaGreatDoor
