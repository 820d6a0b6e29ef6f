/-
  what fits: pure facts for swingbridgelaw03.SchemaHolds.
-/
import Derived.Test.YtjlhbpacecbfmaaGreatDoorSFew
import Derived.Test.YtjlhbpacecbfmaaGreatDoorSWorks
import Derived.Test.YtjlhbpacecbfmaaGreatDoorRRow
namespace Go.Proofs.YtjlhbpacecbfmaaGreatDoor
open Go.RowKit

theorem wp_region_laterN {P : Program} {id : Nat} {Q : Exit → Act → World → Prop} {a : Act} {w : World} {l : List Oper} (hm : P.follows .mixedOrders = true) (hB : Region.lexB .any l.toArray = true)
    (h : ∀ W, w = W → wpQuiet P l.toArray (fun w' => ∃ p : Later W, w' = p.W) (fun a' => ∀ w', (∃ p : Later W, w' = p.W) → Q .normal a' w') l a) : (Code.region id l.toArray true).wp P Q a w :=
  wp_region_later hm hB (h w rfl)

/-- do the first k fit? -/
def fitTo (cs : List Col) (vs : List Vl) (k : Nat) : Bool := (List.range k).all fun i => fitN (cs.getD i col0) (vs.getD i val0) == 0
theorem fitTo_succ {cs : List Col} {vs : List Vl} {k : Nat} {c : Col} {v : Vl} (hc : k < cs.length) (hv : k < vs.length) (ec : cs[k] = c) (ev : vs[k] = v) : fitTo cs vs (k + 1) = (fitTo cs vs k && fitN c v == 0) := by
  unfold fitTo
  rw [List.range_succ, List.all_append]
  have e : cs.getD k col0 = c := by rw [List.getD_eq_getElem?_getD, List.getElem?_eq_getElem hc, ec]; rfl
  have e' : vs.getD k val0 = v := by rw [List.getD_eq_getElem?_getD, List.getElem?_eq_getElem hv, ev]; rfl
  simp only [List.all_cons, List.all_nil, Bool.and_true]
  rw [e, e']
theorem fitTo_all : ∀ (cs : List Col) (vs : List Vl), vs.length = cs.length → fitTo cs vs vs.length = (firstFit cs vs == 0)
  | [], [], _ => rfl
  | [], _ :: _, h => by simp at h
  | _ :: _, [], h => by simp at h
  | c :: cs, v :: vs, h => by
    have ih := fitTo_all cs vs (by simpa using h)
    have e : fitTo (c :: cs) (v :: vs) (vs.length + 1) = ((fitN c v == 0) && fitTo cs vs vs.length) := by
      unfold fitTo
      rw [List.range_succ_eq_map, List.all_cons, List.all_map]
      rfl
    rw [List.length_cons, e, ih, show firstFit (c :: cs) (v :: vs) = if fitN c v = 0 then firstFit cs vs else fitN c v from rfl]
    by_cases h0 : fitN c v = 0
    · rw [if_pos h0]; simp [h0]
    · rw [if_neg h0, show (fitN c v == 0) = false by simpa using h0]; rfl
theorem rowN_all {S : Sch} {row : List Vl} (hs : schOk S = true) {k : Nat} (hk : (row.length = S.cols.length ∧ k = row.length) ∨ row.length ≠ S.cols.length) :
    (rowN S row == 0) = (((row.length : Int) == (S.cols.length : Int)) && fitTo S.cols row k) := by
  unfold rowN
  rw [if_pos hs]
  rcases hk with ⟨h, rfl⟩ | h
  · rw [if_pos h, fitTo_all _ _ h, h]; simp
  · rw [if_neg h, show ((row.length : Int) == (S.cols.length : Int)) = false by rw [beq_eq_false_iff_ne]; omega]; rfl
def upZ (t z : Int) : Int := if t = 3 then z else if t = 4 then 200 else if z = 1 then 2 else if z = 2 then 4 else 8
theorem colOk_up {n : ByteArray} {t z : Int} {u u' : Bool} (h : colOk ⟨n, t, z, u⟩ = true) : colOk ⟨n, t, upZ t z, u'⟩ = true := by
  unfold colOk at *
  simp only [Bool.and_eq_true] at *
  refine ⟨?_, h.2⟩
  have hs := h.1
  rcases type_cases t with ht | rfl | rfl | rfl | rfl
  · rw [szOk_none ht] at hs; cases hs
  · rcases numSz_cases (show numSz z = true from hs) with rfl | rfl | rfl | rfl <;> decide
  · rcases numSz_cases (show numSz z = true from hs) with rfl | rfl | rfl | rfl <;> decide
  · exact hs
  · simp [szOk, upZ, byteSz]
theorem fits_up {n : ByteArray} {t z : Int} {u : Bool} {v : Vl} (h : colOk ⟨n, t, z, u⟩ = true) (h0 : fitN ⟨n, t, z, u⟩ v = 0) : fitsN ⟨n, t, upZ t z, true⟩ v = 0 := by
  unfold fitsN
  rw [if_pos (colOk_up h)]
  unfold fitN at *
  simp only at *
  by_cases h1 : v.chk ≠ 0
  · rw [if_pos h1] at h0; exact absurd h0 h1
  rw [if_neg h1] at h0 ⊢
  by_cases h2 : v.k = 0
  · simp [h2]
  rw [if_neg h2] at h0 ⊢
  by_cases h3 : v.k ≠ t
  · rw [if_pos h3] at h0; cases h0
  rw [if_neg h3] at h0 ⊢
  by_cases h4 : bnd t z v = true
  · rw [if_pos]
    have hs : szOk t z = true := by unfold colOk at h; rw [Bool.and_eq_true] at h; exact h.1
    rcases type_cases t with ht | rfl | rfl | rfl | rfl
    · rw [szOk_none ht] at hs; cases hs
    · rcases numSz_cases (show numSz z = true from hs) with rfl | rfl | rfl | rfl <;>
        ( unfold bnd leastI mostI at h4; unfold bnd leastI mostI upZ
          simp at h4 ⊢
          try omega )
    · rcases numSz_cases (show numSz z = true from hs) with rfl | rfl | rfl | rfl <;>
        ( unfold bnd mostU at h4; unfold bnd mostU upZ
          simp at h4 ⊢
          try omega )
    · rfl
    · have hb : byteSz z = true := hs
      unfold byteSz at hb
      unfold bnd at h4; unfold bnd upZ
      simp at hb h4 ⊢
      omega
  · rw [if_neg h4] at h0; cases h0
theorem fit_key {S : Sch} {row : List Vl} (hs : schOk S = true) (hr : rowN S row = 0) (_hl : row.length ≤ 1000) : inAll row.length S.key = true ∧ ∀ v ∈ pickL val0 row S.key, v.k ≠ 0 := by
  have hs0 := hs
  rw [schOk_eq] at hs
  simp only [Bool.and_eq_true] at hs
  obtain ⟨_, _, ⟨hk, hn⟩, _⟩ := hs
  have hlen : row.length = S.cols.length := by
    unfold rowN at hr
    rw [if_pos hs0] at hr
    by_cases h : row.length = S.cols.length
    · exact h
    · rw [if_neg h] at hr; cases hr
  have hin : inAll row.length S.key = true := by
    unfold inAll
    rw [List.all_eq_true]
    intro x hx
    obtain ⟨j, hj, rfl⟩ := List.getElem_of_mem hx
    have := setOk_range hk hj
    simp
    omega
  refine ⟨hin, fun v hv => ?_⟩
  unfold pickL at hv
  rw [List.mem_map] at hv
  obtain ⟨x, hx, rfl⟩ := hv
  obtain ⟨j, hj, rfl⟩ := List.getElem_of_mem hx
  obtain ⟨b0, b1⟩ := setOk_range hk hj
  obtain ⟨m, hm⟩ := Int.eq_ofNat_of_zero_le b0
  have hmc : m < S.cols.length := by omega
  have hmr : m < row.length := by omega
  have hft : fitTo S.cols row row.length = true := by
    rw [fitTo_all _ _ hlen]
    unfold rowN at hr
    rw [if_pos hs0, if_pos hlen] at hr
    simpa using hr
  have hfm : fitN S.cols[m] row[m] = 0 := by
    unfold fitTo at hft
    rw [List.all_eq_true] at hft
    have := hft m (by rw [List.mem_range]; exact hmr)
    rw [List.getD_eq_getElem?_getD, List.getElem?_eq_getElem hmc, List.getD_eq_getElem?_getD, List.getElem?_eq_getElem hmr] at this
    simpa using this
  have hu : S.cols[m].u = false := by
    unfold nullTo at hn
    rw [List.all_eq_true] at hn
    have := hn j (by rw [List.mem_range]; exact hj)
    unfold nullAt at this
    rw [show S.key.getD j 0 = S.key[j] by rw [List.getD_eq_getElem?_getD, List.getElem?_eq_getElem hj]; rfl, hm, show ((m : Int)).toNat = m from rfl, List.getD_eq_getElem?_getD, List.getElem?_eq_getElem hmc] at this
    simpa using this
  rw [hm, show ((m : Int)).toNat = m from rfl, List.getD_eq_getElem?_getD, List.getElem?_eq_getElem hmr]
  simp only [Option.getD_some]
  intro h0
  unfold fitN at hfm
  rw [hu] at hfm
  by_cases h1 : row[m].chk ≠ 0
  · rw [if_pos h1] at hfm; exact h1 hfm
  · rw [if_neg h1, if_pos h0, if_neg (by simp)] at hfm; cases hfm
theorem upZ4 (z : Int) : upZ 4 z = 200 := rfl
theorem cell_twice {w : World} {b : Nat} {x y z u : Value} {o : Obj} (hb : b < w.heap.size) (h : w.cell? ⟨b, 2, none⟩ = some u) : ((((w.setCell ⟨b, 3, none⟩ x).setCell ⟨b, 2, none⟩ y).setCell ⟨b, 2, none⟩ z).alloc o).cell? ⟨b, 2, none⟩ = some z := by
  rw [World.cell?_alloc_lt _ _ _ (by simpa using hb)]
  refine World.cell?_setCell_same _ _ _ (u := y) (World.cell?_setCell_same _ _ _ (u := u) ?_)
  rw [World.cell?_setCell_other _ _ _ _ (by intro e; cases e)]
  exact h
end Go.Proofs.YtjlhbpacecbfmaaGreatDoor
