/-
  disk: a slice's bytes copied; all files copied, each byte of them.
-/
import Derived.Test.YtbhgcioeibhjeaaGreatDoorDRead
import Derived.Maps.RangeRun
namespace Go.Proofs.YtbhgcioeibhjeaaGreatDoor
open Go.RowKit

theorem sl_of_row {w : World} {base : Nat} {v : Value} {l : List UInt8} (hne : l ≠ []) (h : w.ownsRow base 5 1 v l.length (cB l)) : SlAt w v l ∧ ∀ g, v.ownBlock = some g → base ≤ g := by
  rcases h.2 with ⟨_, h1⟩ | ⟨g, cap, cur, e0, hb, hg, h1, h2, h3, h4⟩
  · exact absurd (List.length_eq_zero_iff.1 h1) hne
  · refine ⟨.inr ⟨hne, g, cap, cur, e0, hg, h1, by omega, h2, by rw [← h4, Nat.mul_one]⟩, fun g' hg' => ?_⟩
    rw [e0] at hg'
    simp only [Value.ownBlock, Option.some.injEq] at hg'
    omega
set_option maxRecDepth 100000 in
set_option maxHeartbeats 2000000 in
theorem clonS_any (v : Value) (l : List UInt8) (w : World) (h : SlAt w v l) (hl : l.length ≤ 100000000) :
    Calls Tryz.prog 61 #[v] w fun e w' => ∃ v', e = .returned v' ∧ SlAt w' v' l ∧ (∀ g, v'.ownBlock = some g → w.heap.size ≤ g) ∧ Below w.heap.size w w' := by
  rcases h with ⟨rfl, rfl⟩ | ⟨hne, g, cap, cur, rfl, hg, hc1, hc2, hc3, htk⟩
  · have hq := eq_slN
    go_enter Tryz.func61, Tryz.ntmps61
    go_wp2_with fail
    go_ret
    exact ⟨_, rfl, SlAt.nil _, (fun g hg => by cases hg), Below.refl _ _⟩
  · have hq := eq_sl
    obtain ⟨i0, hi0, hz0, hz1, hz2⟩ := info_parts infoB
    obtain ⟨w1, hw1⟩ : ∃ w1, w.alloc (.cells #[] 5) = w1 := ⟨_, rfl⟩
    have hb1 : Below w.heap.size w w1 := by rw [← hw1]; exact (Below.refl _ w).alloc (Nat.le_refl _) _
    have hn1 : w1.heap[w.heap.size]? = some (.cells #[] 5 (0, 0)) := by rw [← hw1]; exact heap_alloc_at w _
    have hg1 : w1.heap[g]? = some (.cells cur 5 (0, 0)) := (hb1.block g (Array.getElem?_eq_some_iff.1 hg).1).trans hg
    have hown : w1.ownsRow w.heap.size 5 1 (.slice (some ⟨w.heap.size, 0, none⟩) 0 0) 0 [] := ⟨rfl, .inr ⟨w.heap.size, 0, #[], rfl, Nat.le_refl _, hn1, Nat.le_refl _, Nat.zero_le _, rfl, rfl⟩⟩
    have hcells : ∀ j u, (cB l)[j]? = some u → w1.cell? ((⟨g, 0, none⟩ : Addr).add j) = some u := by
      intro j u hj
      have hjl : j < l.length := by rw [← cB_length]; exact (List.getElem?_eq_some_iff.1 hj).1
      rw [← htk, List.getElem?_take_of_lt hjl, Array.getElem?_toList] at hj
      have e : ((⟨g, 0, none⟩ : Addr).add j) = ⟨g, j, none⟩ := by
        unfold Addr.add
        split
        · simp_all
        · simp
      rw [e]
      simp [World.cell?, hg1, hj]
    have hone : ∀ u ∈ cB l, u.oneCell' = true := by
      intro u hu
      simp only [cB, List.mem_map] at hu
      obtain ⟨b, _, rfl⟩ := hu
      rfl
    obtain ⟨v', w2, hr, hrow, hgr, _⟩ := run_append_own_at (P := Tryz.prog) w1 w.heap.size 43 43 5 i0 (.int .u8 0) 1 1 Tryz.underlying43 hi0 hz0 hz1 hz2 rfl (by decide) (.slice (some ⟨w.heap.size, 0, none⟩) 0 0) 0 [] hown ⟨g, 0, none⟩ l.length cap (cB l) (by rw [cB_length]; simp) hcells hone (by unfold maxLen; omega) (by omega) hb1.size
    have H : Hid (SlAt w2 v' l ∧ (∀ g, v'.ownBlock = some g → w.heap.size ≤ g) ∧ Below w.heap.size w w2) := Lib.hid ⟨by
      rw [Nat.zero_add, List.nil_append] at hrow
      exact (sl_of_row hne hrow).1, (by rw [Nat.zero_add, List.nil_append] at hrow; exact (sl_of_row hne hrow).2), hb1.grown hgr hb1.size (fun k hk => by
        simp [Value.ownBlock] at hk
        omega)⟩
    clear hg hg1 hc1 hc2 hc3 htk hown hcells hone hrow hgr hb1 hn1 hne hl
    generalize l.length = n at *
    go_enter Tryz.func61, Tryz.ntmps61
    go_wp2_with (first | (at_builtin; refine wpList_app rfl _ _ _ _ rfl _ _ rfl rfl _ w2 hr ?_))
    go_ret
    exact ⟨_, rfl, H.out⟩
/-- what was copied so far -/
noncomputable def seenF (es : Array MapEntry) (seen : Array Nat) (F : Nat → List UInt8) : Nat → List UInt8 := fun f =>
  open Classical in if ∃ e ∈ es.toList, e.key = .int .i64 (f : Int) ∧ seen.contains e.born = true then F f else []
theorem seenF_none (es : Array MapEntry) (F : Nat → List UInt8) : seenF es #[] F = fun _ => [] := by
  funext f
  unfold seenF
  rw [if_neg]
  rintro ⟨e, _, _, h⟩
  simp at h
theorem born_inj {es : Array MapEntry} (hn : (es.toList.map (·.born)).Nodup) {x e : MapEntry} (hx : x ∈ es.toList) (he : e ∈ es.toList) (h : x.born = e.born) : x = e := by
  have h1 := find_born x es.toList hn hx
  have h2 := find_born e es.toList hn he
  rw [h] at h1
  exact Option.some.inj (h1.symm.trans h2)
theorem seenF_push {es : Array MapEntry} {seen : Array Nat} {F : Nat → List UInt8} {e : MapEntry} {f : Nat} (hn : (es.toList.map (·.born)).Nodup) (he : e ∈ es.toList) (hk : e.key = .int .i64 (f : Int)) : seenF es (seen.push e.born) F = updF (seenF es seen F) f (F f) := by
  funext g
  by_cases hg : g = f
  · subst hg
    rw [updF_same]
    unfold seenF
    rw [if_pos ⟨e, he, hk, by rw [contains_push]; simp⟩]
  · rw [updF_other hg]
    unfold seenF
    have hiff : (∃ x ∈ es.toList, x.key = .int .i64 (g : Int) ∧ (seen.push e.born).contains x.born = true) ↔ (∃ x ∈ es.toList, x.key = .int .i64 (g : Int) ∧ seen.contains x.born = true) := by
      constructor
      · rintro ⟨x, hx, hxk, hs⟩
        refine ⟨x, hx, hxk, ?_⟩
        rw [contains_push] at hs
        simp only [Bool.or_eq_true, beq_iff_eq] at hs
        have hne : x.born ≠ e.born := fun q => by
          have := born_inj hn hx he q
          subst this
          rw [hk] at hxk
          simp only [Value.int.injEq, true_and] at hxk
          omega
        rcases hs with hs | hs
        · exact hs
        · first | exact absurd hs hne | exact absurd hs.symm hne
      · rintro ⟨x, hx, hxk, hs⟩
        exact ⟨x, hx, hxk, by rw [contains_push, hs]; simp⟩
    by_cases hc : ∃ x ∈ es.toList, x.key = .int .i64 (g : Int) ∧ seen.contains x.born = true
    · rw [if_pos (hiff.2 hc), if_pos hc]
    · rw [if_neg (fun h => hc (hiff.1 h)), if_neg hc]
theorem seenF_all {es : Array MapEntry} {seen : Array Nat} {w : World} {r c : Nat} {V : Nat → Value} {F : Nat → List UInt8} (h : Fs w r V F) (he : FMapE es c V) (h0 : (leftOf es seen).size = 0) : seenF es seen F = F := by
  funext f
  unfold seenF
  split
  · rfl
  · rename_i hno
    have hv : V f = nilS := Classical.byContradiction fun hne => by
      obtain ⟨x, hx, hk⟩ := he.full f hne
      exact hno ⟨x, hx, hk, all_seen es seen h0 x hx⟩
    exact ((h.row f).nil_iff.1 hv).symm
/-- what abides while all files are copied: the new map at w.heap.size, the range's iterator behind it -/
structure ApI (w : World) (r : Nat) (es : Array MapEntry) (clock : Nat) (F : Nat → List UInt8) (W : World) (seen : Array Nat) (V1 : Nat → Value) : Prop where
  below : Below w.heap.size w W
  iter : W.heap[w.heap.size + 1]? = some (.mapIter (some r) clock seen clock)
  fs : Fs W w.heap.size V1 (seenF es seen F)
  own : ∀ f g, (V1 f).ownBlock = some g → w.heap.size + 1 < g
theorem ApI.step {w W W1 W2 W3 W4 : World} {r clock f : Nat} {es : Array MapEntry} {seen : Array Nat} {F : Nat → List UInt8} {V1 : Nat → Value} {e : MapEntry} {v' : Value} (h : ApI w r es clock F W seen V1) (hn : (es.toList.map (·.born)).Nodup) (he : e ∈ es.toList) (hk : e.key = .int .i64 (f : Int))
    (hal : W1 = W ∨ W1 = W.drew) (hW2 : W2 = Go.ChangeMaps.setBlock W1 (w.heap.size + 1) (.mapIter (some r) clock (seen.push e.born) clock)) (hb3 : Below W2.heap.size W2 W3) (hs : SlAt W3 v' (F f)) (hown : ∀ g, v'.ownBlock = some g → W2.heap.size ≤ g)
    (hm : FMap W4 w.heap.size (updV V1 f v')) (hg : W3.grownBy W4 (some w.heap.size)) : ApI w r es clock F W4 (seen.push e.born) (updV V1 f v') := by
  have hit := (Array.getElem?_eq_some_iff.1 h.iter).1
  have hh1 : W1.heap = W.heap := by rcases hal with rfl | rfl <;> rfl
  have hz2 : W2.heap.size = W.heap.size := by rw [hW2]; simp [Go.ChangeMaps.setBlock, hh1]
  have h2 : ∀ k, k ≠ w.heap.size + 1 → W2.heap[k]? = W.heap[k]? := fun k hk => by
    rw [hW2]
    simp only [Go.ChangeMaps.setBlock, hh1]
    rw [Array.getElem?_setIfInBounds_ne (Ne.symm hk)]
  have h2i : W2.heap[w.heap.size + 1]? = some (.mapIter (some r) clock (seen.push e.born) clock) := by
    rw [hW2]
    simp only [Go.ChangeMaps.setBlock, hh1]
    rw [Array.getElem?_setIfInBounds_self_of_lt hit]
  have h4 : ∀ k, k < W2.heap.size → k ≠ w.heap.size → W4.heap[k]? = W2.heap[k]? := fun k hk hne => (hg.block k (Nat.lt_of_lt_of_le hk hb3.size) (fun q => hne (Option.some.inj q))).trans (hb3.block k hk)
  have hb2 : Below w.heap.size W W2 := by
    refine ⟨?_, ?_, ?_, by omega, fun k hk => h2 k (by omega)⟩ <;> (rw [hW2]; rcases hal with rfl | rfl <;> rfl)
  refine ⟨?_, ?_, ⟨hm, fun g => ?_, fun f1 f2 g hne h1 => ?_⟩, fun f1 g h1 => ?_⟩
  · refine Below.grown (h.below.trans (hb2.trans (hb3.mono (by omega)))) hg (by have := hb3.size; omega) (fun k hk => by cases hk; exact Nat.le_refl _)
  · rw [h4 _ (by omega) (by omega)]
    exact h2i
  · by_cases hgf : g = f
    · subst hgf
      rw [updV_same, seenF_push hn he hk, updF_same]
      refine hs.keep (fun b hb => hg.block b (hs.lt b hb) (fun q => ?_))
      have := hown b hb
      have := Option.some.inj q
      omega
    · rw [updV_other hgf, seenF_push hn he hk, updF_other hgf]
      refine (h.fs.row g).keep (fun b hb => ?_)
      have hlo := h.own g b hb
      have hhi := (h.fs.row g).lt b hb
      rw [h4 b (by omega) (by omega), h2 b (by omega)]
  · by_cases h1f : f1 = f
    · subst h1f
      rw [updV_same] at h1
      rw [updV_other (Ne.symm hne)]
      intro h2f
      have := hown g h1
      have := (h.fs.row f2).lt g h2f
      omega
    · rw [updV_other h1f] at h1
      by_cases h2f : f2 = f
      · subst h2f
        rw [updV_same]
        intro h3
        have := hown g h3
        have := (h.fs.row f1).lt g h1
        omega
      · rw [updV_other h2f]
        exact h.fs.apart f1 f2 g hne h1
  · by_cases h1f : f1 = f
    · subst h1f
      rw [updV_same] at h1
      have := hown g h1
      omega
    · rw [updV_other h1f] at h1
      exact h.own f1 g h1
end Go.Proofs.YtbhgcioeibhjeaaGreatDoor
