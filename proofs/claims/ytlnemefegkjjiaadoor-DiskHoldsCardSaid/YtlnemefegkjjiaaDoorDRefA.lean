/-
  swingbridgeref09: Append, Cut of a new disk: they tell something.
-/
import Derived.Test.YtlnemefegkjjiaaDoorDRefs
namespace Go.Proofs.YtlnemefegkjjiaaDoor
open Go.RowKit

/-- told: a disk of the document's, and a number -/
def Tld (w : World) : Ending → World → Prop := fun e w' => ∃ (l : List Value) (n : Int), e = .returned (.tuple #[.agg l.toArray, .int .i64 n]) ∧ l.length = 66 ∧ (∀ v ∈ l, v.oneCell' = true) ∧ Below w.heap.size w w'
/-- the receiver's box, and the result's -/
structure BB (w W : World) (c d : Array Value) : Prop where
  c0 : W.heap[w.heap.size]? = some (.cells c 37 (0, 0))
  d0 : W.heap[w.heap.size + 1]? = some (.cells d 37 (0, 0))
  below : Below w.heap.size w W
theorem BB.start (w : World) (c d : Array Value) : BB w ((w.alloc (.cells c 37)).alloc (.cells d 37)) c d :=
  ⟨by rw [Below.heap_alloc _ _ _ (by simp)]; exact heap_alloc_at w _, by have h := heap_alloc_at (w.alloc (.cells c 37)) (.cells d 37); rwa [World.size_alloc] at h, ((Below.refl _ w).alloc (Nat.le_refl _) _).alloc (by simp) _⟩
theorem BB.two {w W : World} {c d : Array Value} (h : BB w W c d) : w.heap.size + 2 ≤ W.heap.size := by
  have := (Array.getElem?_eq_some_iff.1 h.d0).1
  omega
theorem BB.keep {w W W' : World} {c d : Array Value} (h : BB w W c d) (hb : Below W.heap.size W W') : BB w W' c d :=
  ⟨(hb.block _ (by have := h.two; omega)).trans h.c0, (hb.block _ (by have := h.two; omega)).trans h.d0, h.below.trans (hb.mono h.below.size)⟩
theorem BB.range {w W : World} {c d : Array Value} (h : BB w W c d) : W.rangeAt w.heap.size 0 c.toList := fun j v hv => by
  rw [Nat.zero_add]
  simp only [World.cell?]
  rw [h.c0]
  simpa using hv
theorem BB.cell {w W : World} {c d : Array Value} (h : BB w W c d) {j : Nat} {v : Value} (hv : c[j]? = some v) : W.cell? ⟨w.heap.size, j, none⟩ = some v := by
  simp only [World.cell?]
  rw [h.c0]
  simpa using hv
theorem BB.there {w W : World} {c d : Array Value} (h : BB w W c d) (hd : d.size = 66) : W.there (w.heap.size + 1) 0 66 := there_of h.d0 _ (by omega)
/-- the result's box is written, and told -/
theorem BB.told {w W : World} {c d : Array Value} {l : List Value} (h : BB w W c d) (hd : d.size = 66) (hl : l.length = 66) : (loadVar 37 ⟨w.heap.size + 1, 0, none⟩).run Tryd.prog (W.setCells (w.heap.size + 1) 0 l) = .ok (.agg l.toArray) (W.setCells (w.heap.size + 1) 0 l) ∧ Below w.heap.size w (W.setCells (w.heap.size + 1) 0 l) :=
  ⟨load66 (World.rangeAt_setCells_same W (w.heap.size + 1) 0 l (by rw [hl]; exact h.there hd)) hl, below_setCellsD (by omega) l 0 h.below⟩
theorem one_list {c : Array Value} (h : c.all (·.oneCell') = true) : ∀ v ∈ c.toList, v.oneCell' = true := fun v hv => (Array.all_eq_true_iff_forall_mem.1 h) v (by simpa using hv)
theorem BB.set {w W : World} {c d : Array Value} (h : BB w W c d) (j : Nat) (v : Value) : BB w (W.setCell ⟨w.heap.size, j, none⟩ v) (c.setIfInBounds j v) d := by
  refine ⟨?_, (Below.heap_setCell _ _ _ _ (by show w.heap.size + 1 ≠ w.heap.size; omega)).trans h.d0, h.below.setCell (p := ⟨w.heap.size, j, none⟩) (Nat.le_refl _) v⟩
  unfold World.setCell
  rw [Array.getElem?_modify, if_pos rfl, h.c0]
  rfl
theorem BB.frozen {w W : World} {c d : Array Value} (h : BB w W c d) (j : Nat) : W.frozen? ⟨w.heap.size, j, none⟩ = false := by
  simp [World.frozen?, h.c0]
theorem infoTh : (Tryd.prog.info? 75).map (fun i => (i.zero, i.size, i.bytes)) = some (some (.agg #[.int .i64 0, .int .i64 0, .bool false, .string ⟨#[]⟩]), 4, 40) := by kernel_rfl
theorem app_nothing (b : Nat) (W : World) : (Builtin.append_ #[35, 35] 35 #[.slice (some ⟨b, 0, none⟩) 0 0, .slice none 0 0]).run Tryd.prog W = .ok (.slice (some ⟨b, 0, none⟩) 0 0) W := by kernel_rfl
/-- a thing behind none, in a new row -/
theorem app_one (w1 : World) (x0 x1 x2 x3 : Value) (ho : ∀ v ∈ [x0, x1, x2, x3], v.oneCell' = true) :
    ∃ q z w4, (Builtin.append_ #[35, 35] 35 #[.slice (some ⟨w1.heap.size, 0, none⟩) 0 0, .slice (some ⟨w1.heap.size + 1, 0, none⟩) 1 1]).run Tryd.prog ((w1.alloc (.cells #[] 75)).alloc (.cells #[x0, x1, x2, x3] 75)) = .ok (.slice (some ⟨q, 0, none⟩) 1 z) w4 ∧ Below w1.heap.size w1 w4 := by
  obtain ⟨i0, hi0, hz0, hz1, hz2⟩ := info_parts infoTh
  obtain ⟨w2, hw2⟩ : ∃ w2, w1.alloc (.cells #[] 75) = w2 := ⟨_, rfl⟩
  have hz2' : w2.heap.size = w1.heap.size + 1 := by rw [← hw2]; simp
  obtain ⟨w3, hw3⟩ : ∃ w3, w2.alloc (.cells #[x0, x1, x2, x3] 75) = w3 := ⟨_, rfl⟩
  have hn2 : w2.heap[w1.heap.size]? = some (.cells #[] 75 (0, 0)) := by rw [← hw2]; exact heap_alloc_at w1 _
  have hb2 : Below w1.heap.size w1 w2 := by rw [← hw2]; exact (Below.refl _ w1).alloc (Nat.le_refl _) _
  have hb3 : Below w2.heap.size w2 w3 := by rw [← hw3]; exact (Below.refl _ w2).alloc (Nat.le_refl _) _
  have hn3 : w3.heap[w1.heap.size]? = some (.cells #[] 75 (0, 0)) := (hb3.block _ (by omega)).trans hn2
  have hown : w3.ownsRow w1.heap.size 75 4 (.slice (some ⟨w1.heap.size, 0, none⟩) 0 0) 0 [] := ⟨rfl, .inr ⟨w1.heap.size, 0, #[], rfl, Nat.le_refl _, hn3, Nat.le_refl _, Nat.zero_le _, rfl, rfl⟩⟩
  have hcells := lit_cells w2 [x0, x1, x2, x3] 75
  rw [show [x0, x1, x2, x3].toArray = #[x0, x1, x2, x3] from rfl, hw3, hz2'] at hcells
  obtain ⟨v', w4, hr, hrow, hgr, _⟩ := run_append_own_at (P := Tryd.prog) w3 w1.heap.size 35 35 75 i0 _ 4 40 Tryd.underlying35 hi0 hz0 hz1 hz2 rfl (by decide) _ 0 [] hown ⟨w1.heap.size + 1, 0, none⟩ 1 1 [x0, x1, x2, x3] rfl hcells ho (by unfold maxLen; omega) (by omega) (Nat.le_trans hb2.size hb3.size)
  obtain ⟨q, z, hv⟩ := row_form (n := 0) (by rw [Nat.zero_add] at hrow; exact hrow)
  rw [hv] at hr
  rw [hw2, hw3]
  refine ⟨q, z, w4, hr, (hb2.trans (hb3.mono hb2.size)).grown hgr (Nat.le_trans hb2.size hb3.size) (fun k hk => ?_)⟩
  simp [Value.ownBlock] at hk
  omega
set_option maxRecDepth 1000000 in
set_option maxHeartbeats 2000000 in
theorem rApp_bad (c : Array Value) (hc : ZD c) (f : Int) (s : ByteArray) (w : World) (hf : f < 0 ∨ 63 < f) : Calls Tryd.prog 17 #[.agg c, .int .i64 f, .string s] w (Tld w) := by
  have h0 := BB.start w c Tryd.zeroCells37
  have hu := Tryd.underlying37
  have hinf : (Tryd.prog.info? 37).map (·.size) = some c.toList.length := by rw [Array.length_toList, hc.size]; exact info66
  have hinf2 : (Tryd.prog.info? 37).map (·.size) = some c.size := by rw [hc.size]; exact info66
  have hone := hc.one
  have HO := Lib.hid (And.intro (one_list hc.one) (show c.toList.length = 66 by rw [Array.length_toList]; exact hc.size))
  have hcc : c.toList.toArray = c := Array.toArray_toList
  have HK : Hid (∀ W, BB w W c Tryd.zeroCells37 → W.rangeAt w.heap.size 0 c.toList ∧ W.there (w.heap.size + 1) 0 c.size ∧ (loadVar 37 ⟨w.heap.size + 1, 0, none⟩).run Tryd.prog (W.setCells (w.heap.size + 1) 0 c.toList) = .ok (.agg c) (W.setCells (w.heap.size + 1) 0 c.toList) ∧ Below w.heap.size w (W.setCells (w.heap.size + 1) 0 c.toList)) := Lib.hid fun W h => by
    have h2 := h.told (l := c.toList) zeroC_size (by rw [Array.length_toList]; exact hc.size)
    rw [Array.toArray_toList] at h2
    exact ⟨h.range, by rw [hc.size]; exact h.there zeroC_size, h2⟩
  obtain ⟨hr, ht, hl, hbl⟩ := HK.out _ h0
  have HB0 := Lib.hid h0
  clear h0
  clear hc HB0
  rcases hf with hf | hf
  · go_enter Tryd.func17, Tryd.ntmps17
    go_wp2_with (first | (refine wpList_load_mid rfl 37 _ rfl _ _ rfl _ _ hr hu rfl hinf ?_; simp only [Act.put, hcc, List.setIfInBounds_toArray, List.set_cons_zero, List.set_cons_succ]) | (refine wpList_store_mid rfl 37 _ _ rfl _ _ c rfl rfl ht hinf2 hone ?_; simp only [Act.put]))
    refine bodyPost_ret (v := .tuple #[.agg c, .int .i64 4]) (by simp [results, Tryd.results17, asAddr, hl]) rfl ⟨c.toList, 4, by rw [Array.toArray_toList], HO.out.2, HO.out.1, hbl⟩
  · have hf2 : ¬ f < 0 := by omega
    go_enter Tryd.func17, Tryd.ntmps17
    go_wp2_with (first | (refine wpList_load_mid rfl 37 _ rfl _ _ rfl _ _ hr hu rfl hinf ?_; simp only [Act.put, hcc, List.setIfInBounds_toArray, List.set_cons_zero, List.set_cons_succ]) | (refine wpList_store_mid rfl 37 _ _ rfl _ _ c rfl rfl ht hinf2 hone ?_; simp only [Act.put]))
    refine bodyPost_ret (v := .tuple #[.agg c, .int .i64 4]) (by simp [results, Tryd.results17, asAddr, hl]) rfl ⟨c.toList, 4, by rw [Array.toArray_toList], HO.out.2, HO.out.1, hbl⟩
set_option maxRecDepth 1000000 in
set_option maxHeartbeats 2000000 in
theorem rApp_full (c : Array Value) (hc : ZD c) (f : Int) (s : ByteArray) (w : World) (hf : ¬ f < 0) (hf2 : ¬ 63 < f) (hs : (1 : Int) < s.size) : Calls Tryd.prog 17 #[.agg c, .int .i64 f, .string s] w (Tld w) := by
  have h0 := BB.start w c Tryd.zeroCells37
  have hu := Tryd.underlying37
  have hinf : (Tryd.prog.info? 37).map (·.size) = some c.toList.length := by rw [Array.length_toList, hc.size]; exact info66
  have hinf2 : (Tryd.prog.info? 37).map (·.size) = some c.size := by rw [hc.size]; exact info66
  have hone := hc.one
  have HO := Lib.hid (And.intro (one_list hc.one) (show c.toList.length = 66 by rw [Array.length_toList]; exact hc.size))
  have hcc : c.toList.toArray = c := Array.toArray_toList
  have HK : Hid (∀ W, BB w W c Tryd.zeroCells37 → W.rangeAt w.heap.size 0 c.toList ∧ W.there (w.heap.size + 1) 0 c.size ∧ (loadVar 37 ⟨w.heap.size + 1, 0, none⟩).run Tryd.prog (W.setCells (w.heap.size + 1) 0 c.toList) = .ok (.agg c) (W.setCells (w.heap.size + 1) 0 c.toList) ∧ Below w.heap.size w (W.setCells (w.heap.size + 1) 0 c.toList)) := Lib.hid fun W h => by
    have h2 := h.told (l := c.toList) zeroC_size (by rw [Array.length_toList]; exact hc.size)
    rw [Array.toArray_toList] at h2
    exact ⟨h.range, by rw [hc.size]; exact h.there zeroC_size, h2⟩
  obtain ⟨hr, ht, hl, hbl⟩ := HK.out _ h0
  have HB0 := Lib.hid h0
  clear h0
  have HL := Lib.hid (fun w => rLeft_any c hc w)
  clear hc hl hbl
  go_enter Tryd.func17, Tryd.ntmps17
  go_wp2_with (first | (refine wpList_load_mid rfl 37 _ rfl _ _ rfl _ _ hr hu rfl hinf ?_; simp only [Act.put, hcc, List.setIfInBounds_toArray, List.set_cons_zero, List.set_cons_succ]) | (go_at_call 33; refine (HL.out _).mono ?_; rintro e w1 ⟨rfl, hb1⟩; obtain ⟨hr1, ht1, hl1, hbl1⟩ := HK.out w1 (HB0.out.keep hb1)) | (refine wpList_load_mid rfl 37 _ rfl _ _ rfl _ _ hr1 hu rfl hinf ?_; simp only [Act.put, hcc, List.setIfInBounds_toArray, List.set_cons_zero, List.set_cons_succ]) | (refine wpList_store_mid rfl 37 _ _ rfl _ _ c rfl rfl ht1 hinf2 hone ?_; simp only [Act.put]))
  refine bodyPost_ret (v := .tuple #[.agg c, .int .i64 190]) (by simp [results, Tryd.results17, asAddr, hl1]) rfl ⟨c.toList, 190, by rw [Array.toArray_toList], HO.out.2, HO.out.1, hbl1⟩
end Go.Proofs.YtlnemefegkjjiaaDoor
