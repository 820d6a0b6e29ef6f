/-
  A region that draws its order, whose last operation waits for all others, and all others are quiet: one walk of the others in the order of the text, then the last one.
-/
import Derived.Test.YtgalokddbokkeaaGreatDoorBelowQ
namespace Go.Proofs.YtgalokddbokkeaaGreatDoor
open Go.RowKit
section
variable {P : Program} {ops : Array Oper} {md : Region.Mode} {C : World → Prop} {o : Oper}

theorem yielded_push {t : Array Value} {j : Nat} (hj : j < ops.size) : yielded (ops.push o) t j = yielded ops t j := by
  unfold yielded
  rw [Array.getElem?_push_lt hj, Array.getElem?_eq_getElem hj]

/-- the last one waits for each of the others; each leans on what stands ahead of it -/
def lastB (md : Region.Mode) (ops : Array Oper) (o : Oper) : Bool :=
  ((List.range ops.size).all fun i => o.after.any fun e => Region.binds md e && e.on == i) && (o.after.all fun e => decide (e.on < ops.size)) &&
    ((List.range ops.size).all fun j => match ops[j]? with
      | some x => (x.after.all fun e => decide (e.on < j)) && (match x.guard with
        | some g => decide (g.1 < ops.size)
        | none => true)
      | none => true)

theorem lastB_waits (hl : lastB md ops o = true) {i : Nat} (hi : i < ops.size) : ∃ e ∈ o.after, Region.binds md e = true ∧ e.on = i := by
  simp only [lastB, Bool.and_eq_true] at hl
  have h1 := List.all_eq_true.1 hl.1.1 i (List.mem_range.2 hi)
  obtain ⟨e, he, hb⟩ := Array.any_eq_true'.1 h1
  simp only [Bool.and_eq_true, beq_iff_eq] at hb
  exact ⟨e, he, hb.1, hb.2⟩
theorem lastB_on (hl : lastB md ops o = true) {e : Edge} (he : e ∈ o.after) : e.on < ops.size := by
  simp only [lastB, Bool.and_eq_true] at hl
  exact of_decide_eq_true ((Array.all_eq_true_iff_forall_mem.1 hl.1.2) e he)
theorem lastB_each (hl : lastB md ops o = true) {j : Nat} {x : Oper} (hx : ops[j]? = some x) : (∀ e ∈ x.after, e.on < j) ∧ (∀ g, x.guard = some g → g.1 < ops.size) := by
  have hj : j < ops.size := (Array.getElem?_eq_some_iff.1 hx).1
  simp only [lastB, Bool.and_eq_true] at hl
  have h1 := List.all_eq_true.1 hl.2 j (List.mem_range.2 hj)
  simp only [hx, Bool.and_eq_true] at h1
  refine ⟨fun e he => of_decide_eq_true ((Array.all_eq_true_iff_forall_mem.1 h1.1) e he), fun g hg => ?_⟩
  have h2 := h1.2
  rw [hg] at h2
  exact of_decide_eq_true h2
theorem push_getD {listed : Array Bool} {k : Nat} (d : Bool) (hk : k < listed.size) : (listed.push false).getD k d = listed.getD k d := by
  simp [hk, Nat.lt_succ_of_lt hk, Array.getElem_push_lt hk]
theorem push_getD_size {listed : Array Bool} (d : Bool) : (listed.push false).getD listed.size d = false := by
  simp
theorem push_get {k : Nat} (hk : k < ops.size) : (ops.push o)[k]? = ops[k]? := by
  rw [Array.getElem?_push_lt hk, Array.getElem?_eq_getElem hk]
theorem getD_some {listed : Array Bool} {k : Nat} (hk : k < listed.size) (h : listed.getD k true = true) : listed.getD k false = true := by
  simp [hk] at h ⊢
  exact h
theorem ready_push {listed : Array Bool} (hs : listed.size = ops.size) (hl : lastB md ops o = true) {j : Nat} (hj : j ∈ Region.ready md (ops.push o) (listed.push false)) :
    (j < ops.size ∧ j ∈ Region.ready md ops listed) ∨ (j = ops.size ∧ ∀ i, i < ops.size → listed.getD i false = true) := by
  obtain ⟨h0, x, hx, hall⟩ := mem_ready.1 hj
  have hlt : j < ops.size + 1 := by
    have := (Array.getElem?_eq_some_iff.1 hx).1
    simpa using this
  rcases Nat.lt_or_ge j ops.size with h | h
  · rw [push_get h] at hx
    refine .inl ⟨h, mem_ready.2 ⟨by rw [← push_getD true (hs ▸ h)]; exact h0, x, hx, fun e he hb => ?_⟩⟩
    have h2 := (lastB_each hl hx).1 e he
    rw [← push_getD false (by omega)]
    exact hall e he hb
  · have hjn : j = ops.size := by omega
    subst hjn
    refine .inr ⟨rfl, fun i hi => ?_⟩
    have hxo : x = o := by
      rw [Array.getElem?_push_size] at hx
      exact (Option.some.inj hx).symm
    subst hxo
    obtain ⟨e, he, hb, rfl⟩ := lastB_waits hl hi
    rw [← push_getD false (by omega)]
    exact hall e he hb
theorem ready_push_ne {listed : Array Bool} (hs : listed.size = ops.size) (hl : lastB md ops o = true) : Region.ready md (ops.push o) (listed.push false) ≠ [] := by
  intro h0
  have hall : ∀ j, j ≤ ops.size → (listed.push false).getD j true = true := by
    intro j
    induction j using Nat.strongRecOn with
    | _ j ih =>
      intro hj
      cases h1 : (listed.push false).getD j true with
      | true => rfl
      | false =>
        exfalso
        have hr : j ∈ Region.ready md (ops.push o) (listed.push false) := by
          rcases Nat.lt_or_ge j ops.size with h | h
          · refine mem_ready.2 ⟨h1, ops[j], by rw [push_get h, Array.getElem?_eq_getElem h], fun e he _ => ?_⟩
            have h2 := (lastB_each hl (Array.getElem?_eq_getElem h)).1 e he
            exact getD_some (by simp; omega) (ih _ h2 (by omega))
          · have hjn : j = ops.size := by omega
            subst hjn
            refine mem_ready.2 ⟨h1, o, by simp, fun e he _ => ?_⟩
            have h2 := lastB_on hl he
            exact getD_some (by simp; omega) (ih _ h2 (by omega))
        rw [h0] at hr
        cases hr
  have h1 := hall ops.size (Nat.le_refl _)
  rw [← hs, push_getD_size] at h1
  cases h1
theorem ready_full {listed : Array Bool} (hs : listed.size = ops.size) (hf : ∀ i, i < ops.size → listed.getD i false = true) : Region.ready md ops listed = [] := by
  refine List.eq_nil_iff_forall_not_mem.2 fun i hi => ?_
  obtain ⟨h0, x, hx, _⟩ := mem_ready.1 hi
  have hi2 := (Array.getElem?_eq_some_iff.1 hx).1
  have h1 := hf i hi2
  simp [show i < listed.size by omega] at h0 h1
  rw [h0] at h1
  cases h1
theorem wanted_push {i : Nat} {x : Oper} {t : Array Value} (hl : lastB md ops o = true) (hx : ops[i]? = some x) : Region.wanted x (yielded (ops.push o) t) = Region.wanted x (yielded ops t) := by
  unfold Region.wanted
  cases hg : x.guard with
  | none => rfl
  | some g =>
    obtain ⟨j, want⟩ := g
    simp only
    rw [yielded_push ((lastB_each hl hx).2 _ hg)]
theorem wpOp_push {Q' : Exit → Act → World → Prop} {i : Nat} {K : Act → World → Prop} {a : Act} {w : World} (hl : lastB md ops o = true) (hi : i < ops.size) (h : wpOp P ops Q' i K a w) : wpOp P (ops.push o) Q' i K a w := by
  unfold wpOp at *
  rw [push_get hi]
  cases hx : ops[i]? with
  | none => simpa [hx] using h
  | some x =>
    simp only [hx] at h ⊢
    rw [wanted_push hl hx]
    exact h
theorem set_push {listed : Array Bool} {i : Nat} (hi : i < listed.size) : (listed.push false).setIfInBounds i true = (listed.setIfInBounds i true).push false := by
  apply Array.ext
  · simp
  · intro k h1 h2
    simp only [Array.getElem_push, Array.size_setIfInBounds]
    grind
theorem wpOp_last {Q : Act → Prop} {Q' : Exit → Act → World → Prop} (ho : o.guard = none) (hQ : ∀ a w, C w → Q a → o.wp P a w (fun a' w' => Q' .normal a' w') Q')
    {listed : Array Bool} {a : Act} {w : World} (hs : listed.size = ops.size) (hf : ∀ i, i < ops.size → listed.getD i false = true) (hC : C w) (hq : Q a) (fuel : Nat) :
    wpOp P (ops.push o) Q' ops.size (wpAny P md (ops.push o) Q' fuel ((listed.push false).setIfInBounds ops.size true)) a w := by
  have hr : Region.ready md (ops.push o) ((listed.push false).setIfInBounds ops.size true) = [] := by
    refine ready_full (by simp [hs]) fun i hi => ?_
    rw [Array.size_push] at hi
    rcases Nat.lt_or_ge i ops.size with h | h
    · exact getD_set_true (by rw [push_getD false (by omega)]; exact hf i h)
    · have : i = ops.size := by omega
      subst this
      simp [hs]
  unfold wpOp
  simp only [Array.getElem?_push_size]
  rw [if_pos (by unfold Region.wanted; rw [ho])]
  refine .inl (Oper.wp_mono (fun a' w' h => ?_) (hQ a w hC hq))
  cases fuel with
  | zero => exact ⟨hr, h⟩
  | succ f => exact ⟨fun _ => h, by rw [hr]; simp⟩
theorem wpAny_push {Q : Act → Prop} {Q' : Exit → Act → World → Prop} (hl : lastB md ops o = true) (ho : o.guard = none) (hQ : ∀ a w, C w → Q a → o.wp P a w (fun a' w' => Q' .normal a' w') Q') :
    ∀ (fuel : Nat) (listed : Array Bool) (a : Act) (w : World), listed.size = ops.size → C w → wpAnyQ P md ops C Q fuel listed a → wpAny P md (ops.push o) Q' (fuel + 1) (listed.push false) a w
  | 0, listed, a, w, hs, hC, h => by
    refine ⟨fun h0 => absurd h0 (ready_push_ne hs hl), fun i hi => ?_⟩
    rcases ready_push hs hl hi with ⟨_, h1⟩ | ⟨rfl, hf⟩
    · rw [h.1] at h1; cases h1
    · exact wpOp_last ho hQ hs hf hC h.2 _
  | fuel + 1, listed, a, w, hs, hC, h => by
    refine ⟨fun h0 => absurd h0 (ready_push_ne hs hl), fun i hi => ?_⟩
    rcases ready_push hs hl hi with ⟨hlt, h1⟩ | ⟨rfl, hf⟩
    · refine wpOp_push hl hlt (wpOp_of_qOp hC (fun a' w' hC' hK => ?_) (h.2 i h1))
      rw [set_push (by omega)]
      exact wpAny_push hl ho hQ fuel _ a' w' (by simp [hs]) hC' hK
    · exact wpOp_last ho hQ hs hf hC (h.1 (ready_full hs hf)) _
theorem wp_region_last {id : Nat} {Q : Exit → Act → World → Prop} {a : Act} {w : World} {l : List Oper} (hm : P.follows .mixedOrders = true) (hl : lastB .any l.toArray o = true) (hB : Region.lexB .any l.toArray = true) (ho : o.guard = none)
    (h : wpQuiet P l.toArray (fun w' => ∃ p : Later w, w' = p.W) (fun a' => ∀ w', (∃ p : Later w, w' = p.W) → o.wp P a' w' (fun a'' w'' => Q .normal a'' w'') Q) l a) : (Code.region id (l ++ [o]).toArray true).wp P Q a w := by
  simp only [Region.lexB, Bool.and_eq_true] at hB
  refine wp_region_any hm ?_
  rw [← List.push_toArray, Array.size_push, Array.replicate_succ]
  refine wpAny_push (C := fun w' => ∃ p : Later w, w' = p.W) (Q := fun a' => ∀ w', (∃ p : Later w, w' = p.W) → o.wp P a' w' (fun a'' w'' => Q .normal a'' w'') Q) hl ho (fun a' w' hw' h' => h' w' hw') _ _ _ _ (by simp) ⟨⟨w.drew, (Below.refl _ _).drew⟩, rfl⟩ ?_
  have := wpAnyQ_lex (C := fun w' => ∃ p : Later w, w' = p.W) (md := .any) hB.1 l 0 (Array.replicate l.toArray.size false) a (by simp) (by simpa using hB.2) h
  simpa using this
def lastBL (md : Region.Mode) (ops : Array Oper) : List Oper → Bool
  | [o] => lastB md ops o && o.guard.isNone
  | _ => false
def lastWp (P : Program) (Q : Exit → Act → World → Prop) : List Oper → Act → World → Prop
  | [o], a, w => o.wp P a w (fun a' w' => Q .normal a' w') Q
  | _, _, _ => False
theorem wp_region_lastN (n : Nat) {id : Nat} {Q : Exit → Act → World → Prop} {a : Act} {w : World} {L : List Oper} (hm : P.follows .mixedOrders = true) (hl : lastBL .any (L.take n).toArray (L.drop n) = true) (hB : Region.lexB .any (L.take n).toArray = true)
    (h : wpQuiet P (L.take n).toArray (fun w' => ∃ p : Later w, w' = p.W) (fun a' => ∀ w', (∃ p : Later w, w' = p.W) → lastWp P Q (L.drop n) a' w') (L.take n) a) : (Code.region id L.toArray true).wp P Q a w := by
  have hL := List.take_append_drop n L
  generalize L.drop n = d at hl h hL
  generalize L.take n = l at hl hB h hL
  subst hL
  match d with
  | [] => exact absurd hl (by simp [lastBL])
  | [o] =>
    simp only [lastBL, Bool.and_eq_true, Option.isNone_iff_eq_none] at hl
    exact wp_region_last hm hl.1 hB hl.2 h
  | _ :: _ :: _ => exact absurd hl (by simp [lastBL])
end
end Go.Proofs.YtgalokddbokkeaaGreatDoor
