/-
  A region that draws its order, of which there remain operations that may come in any order, and a last one behind them: what abides serves.
-/
import Derived.Test.YtmgeefhacnadcaaGreatDoorBase
namespace Go.Proofs.YtmgeefhacnadcaaGreatDoor
open Go.RowKit

def mark (base : Array Bool) : List Nat → Array Bool
  | [] => base
  | i :: d => (mark base d).setIfInBounds i true
theorem mark_true {base : Array Bool} {k : Nat} (h : base.getD k false = true) : ∀ d, (mark base d).getD k false = true
  | [] => h
  | _ :: d => getD_set_true (mark_true h d)
theorem mark_size (base : Array Bool) : ∀ d, (mark base d).size = base.size
  | [] => rfl
  | _ :: d => by simp [mark, mark_size base d]
theorem mark_mem {base : Array Bool} {k : Nat} (hk : k < base.size) : ∀ d, k ∈ d → (mark base d).getD k false = true
  | i :: d, h => by
    by_cases e : i = k
    · subst e
      have : i < (mark base d).size := by rw [mark_size]; exact hk
      simp [mark, this]
    · exact getD_set_true (mark_mem hk d (by simpa [Ne.symm e] using h))
theorem mark_not {base : Array Bool} {k : Nat} (b : Bool) : ∀ d, k ∉ d → (mark base d).getD k b = base.getD k b
  | [], _ => rfl
  | i :: d, h => by
    have h1 : i ≠ k := fun e => h (by rw [e]; exact List.mem_cons_self ..)
    rw [show mark base (i :: d) = (mark base d).setIfInBounds i true from rfl, getD_set_ne b h1]
    exact mark_not b d (fun e => h (List.mem_cons_of_mem _ e))
theorem getD_both {l : Array Bool} {k : Nat} (h : l.getD k false = true) : l.getD k true = true := by
  rcases Nat.lt_or_ge k l.size with h' | h'
  · simp [h'] at h ⊢; exact h
  · simp [Array.getElem?_eq_none h'] at h

theorem len_le : ∀ (d all : List Nat), d.Nodup → (∀ x ∈ d, x ∈ all) → d.length ≤ all.length
  | [], _, _, _ => Nat.zero_le _
  | x :: d, all, hn, hs => by
    have hx := hs x (List.mem_cons_self ..)
    have ih := len_le d (all.erase x) (List.nodup_cons.1 hn).2 (fun y hy => (List.mem_erase_of_ne (fun e => (List.nodup_cons.1 hn).1 (by rw [← e]; exact hy))).2 (hs y (List.mem_cons_of_mem _ hy)))
    rw [List.length_erase_of_mem hx] at ih
    have : 0 < all.length := List.length_pos_of_mem hx
    simp only [List.length_cons]
    omega
theorem all_in {d all : List Nat} (hn : d.Nodup) (hs : ∀ x ∈ d, x ∈ all) (hl : all.length ≤ d.length) : ∀ x ∈ all, x ∈ d := fun x hx => Classical.byContradiction fun h => by
  have := len_le (x :: d) all (List.nodup_cons.2 ⟨h, hn⟩) (fun y hy => by
    rcases List.mem_cons.1 hy with e | hy
    · rw [e]; exact hx
    · exact hs y hy)
  simp only [List.length_cons] at this
  omega

/-- all but 'all' and 'late' is listed; each of 'all' may come; each of 'late' waits for these -/
def restB (md : Region.Mode) (ops : Array Oper) (base : Array Bool) (all late : List Nat) : Bool :=
  ((base.size == ops.size) && ((List.range ops.size).all fun i => base.getD i true || (all.contains i || late.contains i))) &&
  ((all.all fun i => !base.getD i true && (decide (i < ops.size) && ((ops[i]?).map (·.after.all fun e => !Region.binds md e || base.getD e.on false)).getD false)) &&
  (late.all fun k => all.all fun x => ((ops[k]?).map (·.after.any fun e => Region.binds md e && e.on == x)).getD false))
theorem mark_at (base : Array Bool) (k : Nat) : ∀ d, (mark base d)[k]? = if k ∈ d ∧ k < base.size then some true else base[k]?
  | [] => by simp [mark]
  | i :: d => by
    rw [show mark base (i :: d) = (mark base d).setIfInBounds i true from rfl, Array.getElem?_setIfInBounds, mark_at base k d, mark_size]
    by_cases e : i = k
    · subst e
      by_cases h : i < base.size
      · simp [h]
      · simp [h]
    · simp [e, Ne.symm e]
theorem mark_eq {base : Array Bool} {d all : List Nat} (h1 : ∀ x ∈ all, x ∈ d) (h2 : ∀ x ∈ d, x ∈ all) : mark base d = mark base all := by
  apply Array.ext_getElem?
  intro k
  rw [mark_at, mark_at]
  have : k ∈ d ↔ k ∈ all := ⟨h2 k, h1 k⟩
  simp [this]

theorem wpAny_rest {P : Program} {md : Region.Mode} {ops : Array Oper} {Q : Exit → Act → World → Prop} (all late : List Nat) (base : Array Bool) (a : Act) (J : List Nat → World → Prop) (n : Nat)
    (hB : restB md ops base all late = true) (hna : all.Nodup)
    (hins : ∀ (done : List Nat) (i : Nat) (w : World), i ∈ all → i ∉ done → (∀ x ∈ done, x ∈ all) → J done w → ∀ K : Act → World → Prop, (∀ w', J (i :: done) w' → K a w') → wpOp P ops Q i K a w)
    (hfin : ∀ (done : List Nat) (w : World), (∀ x ∈ all, x ∈ done) → (∀ x ∈ done, x ∈ all) → J done w → wpAny P md ops Q n (mark base all) a w) :
    ∀ (m : Nat) (done : List Nat) (w : World), done.length + m = all.length → done.Nodup → (∀ x ∈ done, x ∈ all) → J done w → wpAny P md ops Q (m + n) (mark base done) a w := by
  unfold restB at hB
  simp only [Bool.and_eq_true, beq_iff_eq, List.all_eq_true, List.mem_range, Bool.or_eq_true, Bool.not_eq_true', List.contains_iff_mem, decide_eq_true_eq] at hB
  obtain ⟨⟨hsz, hcov⟩, hall, hlate⟩ := hB
  intro m
  induction m with
  | zero =>
    intro done w hlen hnd hsub hJ
    have hsup : ∀ x ∈ all, x ∈ done := all_in hnd hsub (by omega)
    rw [mark_eq hsup hsub, Nat.zero_add]
    exact hfin done w hsup hsub hJ
  | succ m ih =>
    intro done w hlen hnd hsub hJ
    rw [show m + 1 + n = (m + n) + 1 by omega]
    obtain ⟨x, hx, hxd⟩ : ∃ x ∈ all, x ∉ done := by
      apply Classical.byContradiction
      intro h
      have h' : ∀ x ∈ all, x ∈ done := fun x hx => Classical.byContradiction fun hd => h ⟨x, hx, hd⟩
      have := len_le all done hna h'
      omega
    have hrx : x ∈ Region.ready md ops (mark base done) := by
      rw [mem_ready]
      obtain ⟨h0, h1, h2⟩ := hall x hx
      refine ⟨by rw [mark_not true done hxd]; exact h0, ?_⟩
      cases ho : ops[x]? with
      | none => rw [ho] at h2; simp at h2
      | some o =>
        rw [ho] at h2
        refine ⟨o, rfl, fun e he hb => ?_⟩
        simp only [Option.map_some, Option.getD_some] at h2
        have h3 := Array.all_eq_true'.1 h2 e he
        simp only [hb, Bool.not_true, Bool.false_or] at h3
        exact mark_true h3 done
    refine ⟨fun h => (by rw [h] at hrx; cases hrx), fun i hi => ?_⟩
    obtain ⟨hi', o, ho, hdeps⟩ := mem_ready.1 hi
    have hlt : i < ops.size := (Array.getElem?_eq_some_iff.1 ho).1
    have hid : i ∉ done := fun h => absurd (getD_both (mark_mem (by rw [hsz]; exact hlt) done h)) (by rw [hi']; simp)
    rcases hcov i hlt with h | h | h
    · rw [mark_not true done hid] at hi'; rw [hi'] at h; cases h
    · refine hins done i w h hid hsub hJ _ (fun w' hJ' => ?_)
      exact ih (i :: done) w' (by simp; omega) (List.nodup_cons.2 ⟨hid, hnd⟩) (fun y hy => by
        rcases List.mem_cons.1 hy with e | hy
        · rw [e]; exact h
        · exact hsub _ hy) hJ'
    · have h4 := hlate i h x hx
      rw [ho] at h4
      simp only [Option.map_some, Option.getD_some] at h4
      obtain ⟨e, he, h5⟩ := Array.any_eq_true'.1 h4
      simp only [Bool.and_eq_true, beq_iff_eq] at h5
      have h6 := hdeps e he h5.1
      rw [h5.2, mark_not false done hxd] at h6
      have h7 := (hall x hx).1
      rw [getD_both h6] at h7
      cases h7
end Go.Proofs.YtmgeefhacnadcaaGreatDoor
