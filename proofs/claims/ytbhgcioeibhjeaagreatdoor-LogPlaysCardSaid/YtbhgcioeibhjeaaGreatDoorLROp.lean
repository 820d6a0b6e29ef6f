/-
  parts that belong together.
-/
import Derived.Test.YtbhgcioeibhjeaaGreatDoorLRGa
namespace Go.Proofs.YtbhgcioeibhjeaaGreatDoor
open Go.RowKit

/-- a row of cells, written over from a place on -/
def setAllr : Array Value → Nat → List Value → Array Value
  | c, _, [] => c
  | c, o, v :: r => setAllr (c.setIfInBounds o v) (o + 1) r
theorem setAllr_size : ∀ (vs : List Value) (c : Array Value) (o : Nat), (setAllr c o vs).size = c.size
  | [], _, _ => rfl
  | v :: r, c, o => by
    show (setAllr (c.setIfInBounds o v) (o + 1) r).size = _
    rw [setAllr_size r, Array.size_setIfInBounds]
theorem setAllr_get : ∀ (vs : List Value) (c : Array Value) (o j : Nat), o + vs.length ≤ c.size → (setAllr c o vs)[j]? = if o ≤ j ∧ j < o + vs.length then vs[j - o]? else c[j]?
  | [], c, o, j, _ => by
    rw [if_neg (by simp)]
    rfl
  | v :: r, c, o, j, h => by
    simp only [List.length_cons] at h ⊢
    show (setAllr (c.setIfInBounds o v) (o + 1) r)[j]? = _
    rw [setAllr_get r _ _ j (by rw [Array.size_setIfInBounds]; omega)]
    by_cases h1 : j = o
    · subst h1
      rw [if_neg (by omega), if_pos (by omega), Array.getElem?_setIfInBounds_self_of_lt (by omega), Nat.sub_self]
      rfl
    · by_cases h2 : o + 1 ≤ j ∧ j < o + 1 + r.length
      · rw [if_pos h2, if_pos (by omega), show j - o = (j - (o + 1)) + 1 by omega]
        rfl
      · rw [if_neg h2, if_neg (by omega), Array.getElem?_setIfInBounds_ne (by omega)]
theorem setCells_heap (b : Nat) (t : TypeId) (fz : Nat × Nat) : ∀ (vs : List Value) (o : Nat) (W : World) (c : Array Value), W.heap[b]? = some (.cells c t fz) → (W.setCells b o vs).heap[b]? = some (.cells (setAllr c o vs) t fz)
  | [], _, _, _, h => h
  | v :: r, o, W, c, h => by
    show ((W.setCell ⟨b, o, none⟩ v).setCells b (o + 1) r).heap[b]? = some (.cells (setAllr (c.setIfInBounds o v) (o + 1) r) t fz)
    refine setCells_heap b t fz r (o + 1) _ _ ?_
    unfold World.setCell
    rw [Array.getElem?_modify, if_pos rfl, h]
    rfl
theorem setAllr_full (c d : Array Value) (h : d.size = c.size) : setAllr c 0 d.toList = d := by
  refine Array.ext_getElem? (fun j => ?_)
  rw [setAllr_get _ _ _ _ (by rw [Array.length_toList]; omega), Array.length_toList]
  by_cases hj : j < d.size
  · rw [if_pos (by omega), Nat.sub_zero, Array.getElem?_toList]
  · rw [if_neg (by omega), Array.getElem?_eq_none (by omega), Array.getElem?_eq_none (by omega)]
theorem LBox.store {W : World} {b : Nat} {c d : Array Value} (h : LBox W b c) (hd : d.size = c.size) : LBox (W.setCells b 0 d.toList) b d := by
  have := setCells_heap b 38 (0, 0) d.toList 0 W c h
  rwa [setAllr_full _ _ hd] at this
theorem LBox.lt {W : World} {b : Nat} {c : Array Value} (h : LBox W b c) : b < W.heap.size := (Array.getElem?_eq_some_iff.1 h).1
theorem foldl_setr (z x : Array Value) : (Array.foldl (fun (cs : Array Value) (y : Value × Nat) => cs.setIfInBounds y.snd y.fst) z x.zipIdx 0 x.size) = setAllr z 0 x.toList := by
  have key : ∀ (l : List Value) (n : Nat) (z : Array Value), ((l.zipIdx n).foldl (fun (cs : Array Value) (y : Value × Nat) => cs.setIfInBounds y.snd y.fst) z) = setAllr z n l := by
    intro l
    induction l with
    | nil => intro n z; rfl
    | cons v r ih => intro n z; exact ih (n + 1) (z.setIfInBounds n v)
  have h2 := key x.toList 0 z
  rw [← h2]
  have e : x.zipIdx.toList = x.toList.zipIdx 0 := by simp
  rw [← e, Array.foldl_toList]
  simp
theorem zeroL_size : Tryz.zeroCells38.size = 68 := by kernel_rfl
theorem zeroL_one : Tryz.zeroCells38.all (·.oneCell') = true := by kernel_rfl
theorem built_size {c : Array Value} (h : c.size = 66) : (Array.foldl (fun (cs : Array Value) (y : Value × Nat) => cs.setIfInBounds y.snd y.fst) Tryz.zeroCells38 c.zipIdx 0 66).size = 68 := by
  have hz := foldl_setr Tryz.zeroCells38 c
  rw [h] at hz
  rw [hz, setAllr_size, zeroL_size]
/-- a log that is put together -/
theorem built {W : World} {c : Array Value} {D : Dk} {v : Value} (h : RDk W c D v) (f : Nat) (t : Int) : ∃ cz, ((Array.foldl (fun (cs : Array Value) (y : Value × Nat) => cs.setIfInBounds y.snd y.fst) Tryz.zeroCells38 c.zipIdx 0 66).setIfInBounds 66 (.int .i64 f)).setIfInBounds 67 (.int .i64 t) = cz ∧ cz.size = 68 ∧ cz.all (·.oneCell') = true ∧ cz.extract 0 66 = c ∧ cz[66]? = some (.int .i64 f) ∧ cz[67]? = some (.int .i64 t) := by
  have hz := foldl_setr Tryz.zeroCells38 c
  rw [h.size] at hz
  rw [hz]
  have hs := setAllr_size c.toList Tryz.zeroCells38 0
  rw [zeroL_size] at hs
  have hg : ∀ j, j < 66 → (setAllr Tryz.zeroCells38 0 c.toList)[j]? = c[j]? := fun j hj => by
    rw [setAllr_get _ _ _ _ (by rw [Array.length_toList, h.size, zeroL_size]; decide), Array.length_toList, h.size, if_pos (by omega), Nat.sub_zero, Array.getElem?_toList]
  have ho : ∀ (j : Nat) (u : Value), (setAllr Tryz.zeroCells38 0 c.toList)[j]? = some u → u.oneCell' = true := fun j u hu => by
    rw [setAllr_get _ _ _ _ (by rw [Array.length_toList, h.size, zeroL_size]; decide), Array.length_toList] at hu
    split at hu
    · rw [Nat.sub_zero, Array.getElem?_toList] at hu
      exact (Array.all_eq_true_iff_forall_mem.1 h.one) u (Array.mem_of_getElem? hu)
    · exact (Array.all_eq_true_iff_forall_mem.1 zeroL_one) u (Array.mem_of_getElem? hu)
  generalize setAllr Tryz.zeroCells38 0 c.toList = y at *
  refine ⟨_, rfl, by simp [hs], ?_, ?_, ?_, ?_⟩
  · refine Array.all_eq_true_iff_forall_mem.2 (fun u hu => ?_)
    rcases Array.mem_or_eq_of_mem_setIfInBounds hu with h1 | h1
    · rcases Array.mem_or_eq_of_mem_setIfInBounds h1 with h2 | h2
      · obtain ⟨j, hj⟩ := Array.getElem?_of_mem h2
        exact ho j u hj
      · rw [h2]; rfl
    · rw [h1]; rfl
  · refine Array.ext_getElem? (fun j => ?_)
    rw [Array.getElem?_extract]
    by_cases hj : j < 66
    · rw [if_pos (by simp [hs]; omega), Nat.zero_add, Array.getElem?_setIfInBounds_ne (by omega), Array.getElem?_setIfInBounds_ne (by omega), hg j hj]
    · rw [if_neg (by simp [hs]; omega), Array.getElem?_eq_none (by rw [h.size]; omega)]
  · rw [Array.getElem?_setIfInBounds_ne (by decide), Array.getElem?_setIfInBounds_self_of_lt (by rw [hs]; decide)]
  · rw [Array.getElem?_setIfInBounds_self_of_lt (by simp [hs])]
end Go.Proofs.YtbhgcioeibhjeaaGreatDoor
namespace Go.Proofs.YtbhgcioeibhjeaaGreatDoor
open Go.RowKit

theorem load68 {W : World} {b : Nat} {l : List Value} (h : W.rangeAt b 0 l) (hl : l.length = 68) : (loadVar 38 ⟨b, 0, none⟩).run Tryz.prog W = .ok (.agg l.toArray) W :=
  run_loadVar_mid W b 0 38 l _ h Tryz.underlying38 rfl (by rw [hl]; exact info68)
/-- the result's box -/
theorem LBox.told {W : World} {b : Nat} {c d : Array Value} (h : LBox W b c) (hc : c.size = 68) (hd : d.size = 68) : W.there b 0 d.size ∧ (loadVar 38 ⟨b, 0, none⟩).run Tryz.prog (W.setCells b 0 d.toList) = .ok (.agg d) (W.setCells b 0 d.toList) := by
  refine ⟨there_ofr h _ (by omega), ?_⟩
  have h2 := load68 (h.store (hd.trans hc.symm)).range (by rw [Array.length_toList]; exact hd)
  rwa [Array.toArray_toList] at h2
theorem LBox.far {W : World} {b k o : Nat} {c : Array Value} {vs : List Value} (h : LBox W b c) (hk : b ≠ k) : LBox (W.setCells k o vs) b c := (heap_setCellsr k vs o W b hk).trans h
set_option maxRecDepth 1000000 in
set_option maxHeartbeats 4000000 in
theorem rOpen_whole {w : World} {c : Array Value} {D : Dk} {v : Value} (hR : RDk w c D v) (hi : D.Inv) (f : Nat) (hf : f < 64) (hno : wholeN (D.F f) = (D.F f).length) : Calls Tryz.prog 10 #[.agg c, .int .i64 f] w fun e w' => ∃ cl, e = .returned (.agg cl) ∧ RLg w' cl D f 0 ∧ Below w.heap.size w w' := by
  obtain ⟨w0, hw0⟩ : ∃ w0, (w.alloc (.cells c 36)).alloc (.cells Tryz.zeroCells38 38) = w0 := ⟨_, rfl⟩
  have hb0 : Below w.heap.size w w0 := by rw [← hw0]; exact ((Below.refl _ w).alloc (Nat.le_refl _) _).alloc (by simp) _
  have hu := Tryz.underlying36
  have huL := Tryz.underlying38
  have hinf : (Tryz.prog.info? 36).map (·.size) = some c.toList.length := by rw [Array.length_toList, hR.size]; exact info66r
  have hcc : c.toList.toArray = c := Array.toArray_toList
  have hcb : w0.heap[w.heap.size]? = some (.cells c 36 (0, 0)) := by rw [← hw0, Below.heap_alloc _ _ _ (by simp)]; exact heap_alloc_at w _
  have hlb : LBox w0 (w.heap.size + 1) Tryz.zeroCells38 := by
    have h := heap_alloc_at (w.alloc (.cells c 36)) (.cells Tryz.zeroCells38 38)
    rw [World.size_alloc, hw0] at h
    exact h
  have HRg : Hid (∀ W, Below w0.heap.size w0 W → W.rangeAt w.heap.size 0 c.toList) := Lib.hid fun W hb j v hv => by
    rw [Nat.zero_add]
    simp only [World.cell?]
    rw [hb.block _ (Array.getElem?_eq_some_iff.1 hcb).1, hcb]
    simpa using hv
  have hr := HRg.out w0 (Below.refl _ _)
  have HF := Lib.hid (rrFile_any (hR.keep hb0) hi f hf)
  have HW := Lib.hid (fun W => rWhole_any (D.F f) W (hi.len f hf))
  rw [hno] at HW
  have hsz66 : c.size = 66 := hR.size
  have hzz := zeroL_size
  have hbz := built_size hR.size
  obtain ⟨cz, hcz, hz1, hz2, hz3, hz4, hz5⟩ := built hR f 0
  have hczl : cz.toList.toArray = cz := Array.toArray_toList
  have hinfz : (Tryz.prog.info? 38).map (·.size) = some cz.size := by rw [hz1]; exact info68
  have hinfl : (Tryz.prog.info? 38).map (·.size) = some cz.toList.length := by rw [Array.length_toList, hz1]; exact info68
  have HZ : Hid (∀ w2, Below w0.heap.size w0 w2 → (w2.alloc (.cells Tryz.zeroCells38 38)).there w2.heap.size 0 cz.size ∧ ∃ w3, ((w2.alloc (.cells Tryz.zeroCells38 38)).setCells w2.heap.size 0 cz.toList) = w3 ∧ w3.cell? ⟨w2.heap.size, 67, none⟩ = some (.int .i64 0) ∧ w3.rangeAt w2.heap.size 0 cz.toList ∧ w3.there (w.heap.size + 1) 0 cz.size ∧ Hid ((loadVar 38 ⟨w.heap.size + 1, 0, none⟩).run Tryz.prog (w3.setCells (w.heap.size + 1) 0 cz.toList) = .ok (.agg cz) (w3.setCells (w.heap.size + 1) 0 cz.toList) ∧ RLg (w3.setCells (w.heap.size + 1) 0 cz.toList) cz D f 0 ∧ Below w.heap.size w (w3.setCells (w.heap.size + 1) 0 cz.toList))) := Lib.hid fun w2 hb2 => by
    have hL : LBox (w2.alloc (.cells Tryz.zeroCells38 38)) w2.heap.size Tryz.zeroCells38 := heap_alloc_at w2 _
    have hS := hL.store (hz1.trans zeroL_size.symm)
    have hba : Below w2.heap.size w2 (w2.alloc (.cells Tryz.zeroCells38 38)) := (Below.refl _ w2).alloc (Nat.le_refl _) _
    have hlt := hlb.lt
    have hs2 := hb2.size
    have hR2 : LBox ((w2.alloc (.cells Tryz.zeroCells38 38)).setCells w2.heap.size 0 cz.toList) (w.heap.size + 1) Tryz.zeroCells38 := ((hlb.keep hb2).keep hba).far (by omega)
    have hB3 : Below w.heap.size w (((w2.alloc (.cells Tryz.zeroCells38 38)).setCells w2.heap.size 0 cz.toList).setCells (w.heap.size + 1) 0 cz.toList) := below_setCellsr (by omega) _ _ (below_setCellsr (by have := hb0.size; omega) _ _ ((hb0.trans (hb2.mono hb0.size)).alloc (by have := hb0.size; omega) _))
    refine ⟨there_ofr hL _ (by rw [hz1, zeroL_size]; exact Nat.le_refl _), _, rfl, hS.cell hz5, hS.range, (hR2.told zeroL_size hz1).1, Lib.hid ⟨(hR2.told zeroL_size hz1).2, ⟨hz1, hz2, ?_, hz4, hz5⟩, hB3⟩⟩
    rw [hz3]
    refine ⟨v, ?_⟩
    have h2 := hR.keep (W' := w2) (hb0.trans (hb2.mono hb0.size))
    refine ⟨h2.size, h2.one, h2.room, h2.file, h2.things, ownsRow_same h2.row (fun g hg => ?_)⟩
    have hg2 : g < w.heap.size := (hR.row.lt g hg).2
    rw [heap_setCellsr _ _ _ _ _ (by omega), heap_setCellsr _ _ _ _ _ (by have := hb0.size; omega)]
    exact hba.block g (by have := hb0.size; omega)
  have hbs : ((⟨(D.F f).toArray⟩ : ByteArray).size : Int) = (D.F f).length := rfl
  clear hR hi hno hz1 hz3 hz4 hz5 hlb hcb
  generalize (⟨(D.F f).toArray⟩ : ByteArray) = fs at *
  generalize (D.F f).length = n at *
  go_enter Tryz.func10, Tryz.ntmps10
  go_wp2_with (first | (refine wpList_load_mid rfl 36 _ rfl _ _ rfl _ _ hr hu rfl hinf ?_; simp only [Act.put, List.setIfInBounds_toArray, List.set_cons_zero, List.set_cons_succ]) | (go_at_call 31; refine HF.out.mono ?_; rintro e w1 ⟨rfl, hb1⟩; have hr1 := HRg.out w1 hb1) | (go_at_call 17; refine (HW.out _).mono ?_; rintro e w2 ⟨rfl, hb2⟩; have hr2 := HRg.out w2 (hb1.trans (hb2.mono hb1.size)); obtain ⟨ht2, w3, hw3, c67, hr3, ht3, H3⟩ := HZ.out w2 (hb1.trans (hb2.mono hb1.size))) | (refine wpList_load_mid rfl 36 _ rfl _ _ rfl _ _ hr2 hu rfl hinf ?_; simp only [Act.put, List.setIfInBounds_toArray, List.set_cons_zero, List.set_cons_succ]) | (refine wpList_store_mid rfl 38 _ _ rfl _ _ cz rfl rfl ht2 hinfz hz2 ?_; simp only [Act.put]) | (refine wpList_load_mid rfl 38 _ rfl _ _ rfl _ _ hr3 huL rfl hinfl ?_; simp only [Act.put, List.setIfInBounds_toArray, List.set_cons_zero, List.set_cons_succ]) | (refine wpList_store_mid rfl 38 _ _ rfl _ _ cz rfl rfl ht3 hinfz hz2 ?_; simp only [Act.put]))
  have hl3 := H3.out.1
  refine bodyPost_ret (v := .agg cz) (by simp [results, Tryz.results10, asAddr, hl3]) rfl ⟨cz, rfl, H3.out.2.1, H3.out.2.2⟩
end Go.Proofs.YtbhgcioeibhjeaaGreatDoor
namespace Go.Proofs.YtbhgcioeibhjeaaGreatDoor
open Go.RowKit

/-- another disk in a log's cells -/
theorem setDisk {cz c' : Array Value} (hz : cz.size = 68) (ho : cz.all (·.oneCell') = true) (hc : c'.size = 66) (ho' : c'.all (·.oneCell') = true) : (setAllr cz 0 c'.toList).size = 68 ∧ (setAllr cz 0 c'.toList).all (·.oneCell') = true ∧ (setAllr cz 0 c'.toList).extract 0 66 = c' ∧ (setAllr cz 0 c'.toList)[66]? = cz[66]? ∧ (setAllr cz 0 c'.toList)[67]? = cz[67]? := by
  have hg := fun j => setAllr_get c'.toList cz 0 j (by rw [Array.length_toList, hc, hz]; decide)
  simp only [Array.length_toList, hc, Nat.zero_add, Nat.sub_zero, Nat.zero_le, true_and] at hg
  have hs := setAllr_size c'.toList cz 0
  rw [hz] at hs
  refine ⟨hs, ?_, ?_, by rw [hg, if_neg (by decide)], by rw [hg, if_neg (by decide)]⟩
  · refine Array.all_eq_true_iff_forall_mem.2 (fun u hu => ?_)
    obtain ⟨j, hj⟩ := Array.getElem?_of_mem hu
    rw [hg] at hj
    split at hj
    · rw [Array.getElem?_toList] at hj
      exact (Array.all_eq_true_iff_forall_mem.1 ho') u (Array.mem_of_getElem? hj)
    · exact (Array.all_eq_true_iff_forall_mem.1 ho) u (Array.mem_of_getElem? hj)
  · refine Array.ext_getElem? (fun j => ?_)
    rw [Array.getElem?_extract]
    by_cases hj : j < 66
    · rw [if_pos (by rw [hs]; omega), Nat.zero_add, hg, if_pos hj, Array.getElem?_toList]
    · rw [if_neg (by rw [hs]; omega), Array.getElem?_eq_none (by omega)]
set_option maxRecDepth 1000000 in
set_option maxHeartbeats 4000000 in
theorem rOpen_torn {w : World} {c : Array Value} {D : Dk} {v : Value} (hR : RDk w c D v) (hi : D.Inv) (f : Nat) (hf : f < 64) (hfew : D.L.length < 900) (hlt : wholeN (D.F f) < (D.F f).length) : Calls Tryz.prog 10 #[.agg c, .int .i64 f] w fun e w' => ∃ cl, e = .returned (.agg cl) ∧ RLg w' cl (D.cutd f (wholeN (D.F f) : Nat)) f ((D.F f).length - wholeN (D.F f) : Nat) ∧ Below w.heap.size w w' := by
  obtain ⟨w0, hw0⟩ : ∃ w0, (w.alloc (.cells c 36)).alloc (.cells Tryz.zeroCells38 38) = w0 := ⟨_, rfl⟩
  have hb0 : Below w.heap.size w w0 := by rw [← hw0]; exact ((Below.refl _ w).alloc (Nat.le_refl _) _).alloc (by simp) _
  have hu := Tryz.underlying36
  have huL := Tryz.underlying38
  have hinf : (Tryz.prog.info? 36).map (·.size) = some c.toList.length := by rw [Array.length_toList, hR.size]; exact info66r
  have hcc : c.toList.toArray = c := Array.toArray_toList
  have hcb : w0.heap[w.heap.size]? = some (.cells c 36 (0, 0)) := by rw [← hw0, Below.heap_alloc _ _ _ (by simp)]; exact heap_alloc_at w _
  have hlb : LBox w0 (w.heap.size + 1) Tryz.zeroCells38 := by
    have h := heap_alloc_at (w.alloc (.cells c 36)) (.cells Tryz.zeroCells38 38)
    rw [World.size_alloc, hw0] at h
    exact h
  have HRg : Hid (∀ W, Below w0.heap.size w0 W → W.rangeAt w.heap.size 0 c.toList) := Lib.hid fun W hb j v hv => by
    rw [Nat.zero_add]
    simp only [World.cell?]
    rw [hb.block _ (Array.getElem?_eq_some_iff.1 hcb).1, hcb]
    simpa using hv
  have hr := HRg.out w0 (Below.refl _ _)
  have HF := Lib.hid (rrFile_any (hR.keep hb0) hi f hf)
  have HW := Lib.hid (fun W => rWhole_any (D.F f) W (hi.len f hf))
  have hsz66 : c.size = 66 := hR.size
  have hzz := zeroL_size
  have hbz := built_size hR.size
  obtain ⟨cz, hcz, hz1, hz2, hz3, hz4, hz5⟩ := built hR f (((D.F f).length : Int) - (wholeN (D.F f) : Int))
  have hczl : cz.toList.toArray = cz := Array.toArray_toList
  have hinfz : (Tryz.prog.info? 38).map (·.size) = some cz.size := by rw [hz1]; exact info68
  have hinfl : (Tryz.prog.info? 38).map (·.size) = some cz.toList.length := by rw [Array.length_toList, hz1]; exact info68
  have hwle := wholeN_le (D.F f)
  have HC := Lib.hid (fun W (hb : Below w.heap.size w W) => rrCut_ok (hR.keep hb) hi f hf (wholeN (D.F f)) hwle)
  have hDc : D.did (.cut f (wholeN (D.F f))) = D.cutd f (wholeN (D.F f) : Nat) := by
    have hok : cutE D f (wholeN (D.F f) : Nat) = 0 := by
      unfold cutE
      rw [if_neg (by omega), if_neg (by omega), if_neg]
      show ¬ (((D.F f).length : Nat) : Int) < _
      omega
    unfold Dk.cutd
    rw [if_pos hok]
    rfl
  rw [hDc] at HC
  have HZ : Hid (∀ w2, Below w0.heap.size w0 w2 → (w2.alloc (.cells Tryz.zeroCells38 38)).there w2.heap.size 0 cz.size ∧ ∃ w3, ((w2.alloc (.cells Tryz.zeroCells38 38)).setCells w2.heap.size 0 cz.toList) = w3 ∧ w3.cell? ⟨w2.heap.size, 67, none⟩ = some (.int .i64 (((D.F f).length : Int) - (wholeN (D.F f) : Int))) ∧ w3.rangeAt w.heap.size 0 c.toList ∧ Hid (LBox w3 w2.heap.size cz ∧ LBox w3 (w.heap.size + 1) Tryz.zeroCells38 ∧ Below w.heap.size w w3 ∧ w.heap.size + 2 ≤ w2.heap.size)) := Lib.hid fun w2 hb2 => by
    have hL : LBox (w2.alloc (.cells Tryz.zeroCells38 38)) w2.heap.size Tryz.zeroCells38 := heap_alloc_at w2 _
    have hS := hL.store (hz1.trans zeroL_size.symm)
    have hba : Below w2.heap.size w2 (w2.alloc (.cells Tryz.zeroCells38 38)) := (Below.refl _ w2).alloc (Nat.le_refl _) _
    have hlt := hlb.lt
    have hs2 := hb2.size
    have hR2 : LBox ((w2.alloc (.cells Tryz.zeroCells38 38)).setCells w2.heap.size 0 cz.toList) (w.heap.size + 1) Tryz.zeroCells38 := ((hlb.keep hb2).keep hba).far (by omega)
    have hB3 : Below w0.heap.size w0 ((w2.alloc (.cells Tryz.zeroCells38 38)).setCells w2.heap.size 0 cz.toList) := below_setCellsr (by omega) _ _ (hb2.alloc (by omega) _)
    exact ⟨there_ofr hL _ (by rw [hz1, zeroL_size]; exact Nat.le_refl _), _, rfl, hS.cell hz5, HRg.out _ hB3, Lib.hid ⟨hS, hR2, hb0.trans (hB3.mono hb0.size), by omega⟩⟩
  have HY : Hid (∀ w2 w3 w4 c', LBox w3 w2 cz → LBox w3 (w.heap.size + 1) Tryz.zeroCells38 → Below w.heap.size w w3 → w.heap.size + 2 ≤ w2 → Below w3.heap.size w3 w4 → RDs w4 c' (D.cutd f (wholeN (D.F f) : Nat)) → w4.there w2 0 c'.size ∧ (Tryz.prog.info? 36).map (·.size) = some c'.size ∧ c'.all (·.oneCell') = true ∧ ∃ d w5, w4.setCells w2 0 c'.toList = w5 ∧ d.toList.toArray = d ∧ (Tryz.prog.info? 38).map (·.size) = some d.toList.length ∧ (Tryz.prog.info? 38).map (·.size) = some d.size ∧ d.all (·.oneCell') = true ∧ w5.rangeAt w2 0 d.toList ∧ w5.there (w.heap.size + 1) 0 d.size ∧ Hid ((loadVar 38 ⟨w.heap.size + 1, 0, none⟩).run Tryz.prog (w5.setCells (w.heap.size + 1) 0 d.toList) = .ok (.agg d) (w5.setCells (w.heap.size + 1) 0 d.toList) ∧ RLg (w5.setCells (w.heap.size + 1) 0 d.toList) d (D.cutd f (wholeN (D.F f) : Nat)) f ((D.F f).length - wholeN (D.F f) : Nat) ∧ Below w.heap.size w (w5.setCells (w.heap.size + 1) 0 d.toList))) := Lib.hid fun w2 w3 w4 c' h1 h2 h3 h4 h5 h6 => by
    have k1 := h1.keep h5
    have k2 := h2.keep h5
    obtain ⟨v', hd⟩ := h6
    obtain ⟨d1, d2, d3, d4, d5⟩ := setDisk hz1 hz2 hd.size hd.one
    have k3 : LBox (w4.setCells w2 0 c'.toList) w2 (setAllr cz 0 c'.toList) := setCells_heap w2 38 (0, 0) c'.toList 0 w4 cz k1
    have k4 : LBox (w4.setCells w2 0 c'.toList) (w.heap.size + 1) Tryz.zeroCells38 := k2.far (by omega)
    have hlt1 := h1.lt
    have hlt2 := h2.lt
    refine ⟨there_ofr k1 _ (by rw [hd.size, hz1]; decide), by rw [hd.size]; exact info66r, hd.one, _, _, rfl, Array.toArray_toList, by rw [Array.length_toList, d1]; exact info68, by rw [d1]; exact info68, d2, k3.range, (k4.told zeroL_size d1).1, Lib.hid ⟨(k4.told zeroL_size d1).2, ⟨d1, d2, ?_, by rw [d4]; exact hz4, by rw [d5, hz5]; congr 2; omega⟩, ?_⟩⟩
    · rw [d3]
      refine ⟨v', hd.size, hd.one, hd.room, hd.file, hd.things, ownsRow_same hd.row (fun g hg => ?_)⟩
      obtain ⟨g', cap, cur, e0, _, g2, _⟩ := hd.row.2.resolve_left (fun h => by rw [h.1] at hg; cases hg)
      rw [e0] at hg
      simp [Value.ownBlock] at hg
      subst hg
      have n1 : g' ≠ w2 := fun e => by
        rw [e, show w4.heap[w2]? = _ from k1] at g2
        cases g2
      have n2 : g' ≠ w.heap.size + 1 := fun e => by
        rw [e, show w4.heap[w.heap.size + 1]? = _ from k2] at g2
        cases g2
      rw [heap_setCellsr _ _ _ _ _ n2, heap_setCellsr _ _ _ _ _ n1]
    · exact below_setCellsr (by omega) _ _ (below_setCellsr (by omega) _ _ (h3.trans (h5.mono h3.size)))
  have hbs : ((⟨(D.F f).toArray⟩ : ByteArray).size : Int) = (D.F f).length := rfl
  have hpos : (0 : Int) < ((D.F f).length : Int) - (wholeN (D.F f) : Int) := by omega
  have hbound := hi.len f hf
  clear hR hi hz1 hz3 hz4 hz5 hlb hcb hDc
  generalize wholeN (D.F f) = wn at *
  generalize (⟨(D.F f).toArray⟩ : ByteArray) = fs at *
  generalize (D.F f).length = n at *
  go_enter Tryz.func10, Tryz.ntmps10
  go_upto_region 6 with (first | (refine wpList_load_mid rfl 36 _ rfl _ _ rfl _ _ hr hu rfl hinf ?_; simp only [Act.put, List.setIfInBounds_toArray, List.set_cons_zero, List.set_cons_succ]) | (go_at_call 31; refine HF.out.mono ?_; rintro e w1 ⟨rfl, hb1⟩; have hr1 := HRg.out w1 hb1; have HB1 := Lib.hid hb1; clear hb1) | (go_at_call 17; refine (HW.out _).mono ?_; rintro e w2 ⟨rfl, hb2⟩; have hr2 := HRg.out w2 (HB1.out.trans (hb2.mono HB1.out.size)); obtain ⟨ht2, w3, hw3, c67, hr3, H3⟩ := HZ.out w2 (HB1.out.trans (hb2.mono HB1.out.size)); clear hr1) | (refine wpList_load_mid rfl 36 _ rfl _ _ rfl _ _ hr2 hu rfl hinf ?_; simp only [Act.put, List.setIfInBounds_toArray, List.set_cons_zero, List.set_cons_succ]) | (refine wpList_store_mid rfl 38 _ _ rfl _ _ cz rfl rfl ht2 hinfz hz2 ?_; simp only [Act.put]) | (refine wpList_load_mid rfl 36 _ rfl _ _ rfl _ _ hr3 hu rfl hinf ?_; simp only [Act.put, List.setIfInBounds_toArray, List.set_cons_zero, List.set_cons_succ]) | (go_at_call 32; refine (HC.out w3 H3.out.2.2.1).mono ?_; rintro e w4 ⟨c', rfl, hd4, hb4⟩; obtain ⟨ht4, hinf4, hone4, d, w5, hw5, hdd, hinfd, hinfd2, honed, hr5, ht5, H5⟩ := HY.out _ w3 w4 c' H3.out.1 H3.out.2.1 H3.out.2.2.1 H3.out.2.2.2 hb4 hd4; clear hd4 hb4) | (refine wpList_store_mid rfl 36 _ _ rfl _ _ c' rfl rfl ht4 hinf4 hone4 ?_; simp only [Act.put]))
  rw [hw5]
  clear hw5
  go_wp2_with (first | (refine wpList_load_mid rfl 38 _ rfl _ _ rfl _ _ hr5 huL rfl hinfd ?_; simp only [Act.put, List.setIfInBounds_toArray, List.set_cons_zero, List.set_cons_succ]) | (refine wpList_store_mid rfl 38 _ _ rfl _ _ d rfl rfl ht5 hinfd2 honed ?_; simp only [Act.put]))
  have hl5 := H5.out.1
  refine bodyPost_ret (v := .agg d) (by simp [results, Tryz.results10, asAddr, hl5]) rfl ⟨d, rfl, H5.out.2.1, H5.out.2.2⟩
end Go.Proofs.YtbhgcioeibhjeaaGreatDoor
