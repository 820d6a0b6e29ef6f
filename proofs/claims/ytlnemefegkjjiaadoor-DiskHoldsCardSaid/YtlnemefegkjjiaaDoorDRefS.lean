/-
  swingbridgeref09: Sync of a new disk.
-/
import Derived.Test.YtlnemefegkjjiaaDoorDRefA
namespace Go.Proofs.YtlnemefegkjjiaaDoor
open Go.RowKit

/-- told: a disk of the document's -/
def TldD (w : World) : Ending → World → Prop := fun e w' => ∃ (l : List Value), e = .returned (.agg l.toArray) ∧ l.length = 66 ∧ (∀ v ∈ l, v.oneCell' = true) ∧ Below w.heap.size w w'
theorem info64 : (Tryd.prog.info? 34).map (·.size) = some 64 := by kernel_rfl
/-- the receiver's box, the result's, the array's -/
structure SB (w W : World) (c d x : Array Value) : Prop where
  bb : BB w W c d
  x0 : W.heap[w.heap.size + 1 + 1]? = some (.cells x 34 (0, 0))
theorem SB.keep {w W W' : World} {c d x : Array Value} (h : SB w W c d x) (hb : Below W.heap.size W W') : SB w W' c d x :=
  ⟨h.bb.keep hb, (hb.block _ (Array.getElem?_eq_some_iff.1 h.x0).1).trans h.x0⟩
theorem SB.start (w : World) (c d x : Array Value) : SB w (((w.alloc (.cells c 37)).alloc (.cells d 37)).alloc (.cells x 34)) c d x :=
  ⟨(BB.start w c d).keep ((Below.refl _ _).alloc (Nat.le_refl _) _), by
    have h := heap_alloc_at ((w.alloc (.cells c 37)).alloc (.cells d 37)) (.cells x 34)
    simpa using h⟩
theorem SB.set {w W : World} {c d x : Array Value} (h : SB w W c d x) (j : Nat) (v : Value) : SB w (W.setCell ⟨w.heap.size + 1 + 1, j, none⟩ v) c d (x.setIfInBounds j v) := by
  have hk : ∀ k, k ≠ w.heap.size + 1 + 1 → (W.setCell ⟨w.heap.size + 1 + 1, j, none⟩ v).heap[k]? = W.heap[k]? := fun k hk => Below.heap_setCell _ _ _ _ hk
  refine ⟨⟨(hk _ (by omega)).trans h.bb.c0, (hk _ (by omega)).trans h.bb.d0, h.bb.below.setCell (p := ⟨w.heap.size + 1 + 1, j, none⟩) (by show w.heap.size ≤ w.heap.size + 1 + 1; omega) v⟩, ?_⟩
  unfold World.setCell
  rw [Array.getElem?_modify, if_pos rfl, h.x0]
  rfl
theorem SB.cell {w W : World} {c d x : Array Value} (h : SB w W c d x) (hx : x.size = 64) {j : Nat} (hj : j < 64) : (∃ v, W.cell? ⟨w.heap.size + 1 + 1, j, none⟩ = some v) ∧ W.frozen? ⟨w.heap.size + 1 + 1, j, none⟩ = false := by
  have hj' : j < x.size := by omega
  refine ⟨⟨x[j], ?_⟩, ?_⟩
  · simp [World.cell?, h.x0, hj']
  · simp [World.frozen?, h.x0]
theorem SB.range {w W : World} {c d x : Array Value} (h : SB w W c d x) : W.rangeAt (w.heap.size + 1 + 1) 0 x.toList := fun j v hv => by
  rw [Nat.zero_add]
  simp only [World.cell?]
  rw [h.x0]
  simpa using hv
/-- a struct of the document's, put together -/
theorem fz_facts (z x : Array Value) (hz : z.size = 66) (hz1 : z.all (·.oneCell') = true) (hx : x.all (·.oneCell') = true) : (Array.foldl (fun (cs : Array Value) (y : Value × Nat) => cs.setIfInBounds (1 + y.snd) y.fst) z x.zipIdx 0 x.size).size = 66 ∧ (Array.foldl (fun (cs : Array Value) (y : Value × Nat) => cs.setIfInBounds (1 + y.snd) y.fst) z x.zipIdx 0 x.size).all (·.oneCell') = true := by
  have h : (fun (_ : Nat) (cs : Array Value) => cs.size = 66 ∧ cs.all (·.oneCell') = true) x.zipIdx.size (x.zipIdx.foldl (fun (cs : Array Value) (y : Value × Nat) => cs.setIfInBounds (1 + y.snd) y.fst) z) := Array.foldl_induction (motive := fun (_ : Nat) (cs : Array Value) => cs.size = 66 ∧ cs.all (·.oneCell') = true) ⟨hz, hz1⟩ (fun i b hb => ⟨by rw [Array.size_setIfInBounds]; exact hb.1, by
    refine Array.all_eq_true_iff_forall_mem.2 (fun v hv => ?_)
    rcases Array.mem_or_eq_of_mem_setIfInBounds hv with h1 | h1
    · exact (Array.all_eq_true_iff_forall_mem.1 hb.2) v h1
    · rw [h1]
      have hi : i.1 < x.size := Nat.lt_of_lt_of_eq i.2 (by simp)
      have e : x.zipIdx[i] = (x[i.1], i.1) := by simp
      rw [e]
      exact (Array.all_eq_true_iff_forall_mem.1 hx) _ (Array.getElem_mem hi)⟩)
  rw [Array.size_zipIdx] at h
  exact h
theorem all_set {x : Array Value} (h : x.all (·.oneCell') = true) (j : Nat) (s : ByteArray) : (x.setIfInBounds j (.string s)).all (·.oneCell') = true := by
  refine Array.all_eq_true_iff_forall_mem.2 (fun v hv => ?_)
  rcases Array.mem_or_eq_of_mem_setIfInBounds hv with h1 | h1
  · exact (Array.all_eq_true_iff_forall_mem.1 h) v h1
  · rw [h1]; rfl
set_option maxRecDepth 1000000 in
set_option maxHeartbeats 2000000 in
theorem rSync_any (c : Array Value) (hc : ZD c) (w : World) : Calls Tryd.prog 19 #[.agg c] w (TldD w) := by
  have h0 := SB.start w c Tryd.zeroCells37
  have HF := Lib.hid (fun (f : Nat) (hf : f < 64) (w : World) => rFile_any c hc f hf w)
  have hu := Tryd.underlying37
  have hinf : (Tryd.prog.info? 37).map (·.size) = some c.toList.length := by rw [Array.length_toList, hc.size]; exact info66
  have hcc : c.toList.toArray = c := Array.toArray_toList
  have HR := Lib.hid hc.room
  have H0 := Lib.hid h0
  clear hc h0
  go_enter Tryd.func19, Tryd.ntmps19
  go_wp2_with fail
  go_loopw [4] (fun i wr => ∃ (k : Nat) (x : Array Value), k ≤ 64 ∧ i = .int .i64 k ∧ Hid (x.size = 64 ∧ x.all (·.oneCell') = true ∧ SB w wr c Tryd.zeroCells37 x)) (fun i _ => 64 - (intOf i).toNat)
  case atStart => exact ⟨0, _, by omega, rfl, Lib.hid ⟨by kernel_rfl, by kernel_rfl, H0.out _⟩⟩
  case round =>
    obtain ⟨k, x, hk, rfl, HX⟩ := hrel
    by_cases hlt : k < 64
    · have hr := HX.out.2.2.bb.range
      have hki0 : (0 : Int) ≤ (k : Int) := by omega
      have hki1 : (k : Int) < 64 := by omega
      go_wp2_with (first | (refine wpList_load_mid rfl 37 _ rfl _ _ rfl _ _ hr hu rfl hinf ?_; simp only [Act.put, hcc, List.setIfInBounds_toArray, List.set_cons_zero, List.set_cons_succ]) | (go_at_call 34; refine (HF.out k hlt _).mono ?_; rintro e w2 ⟨rfl, hb2⟩; have HX2 := Lib.hid (HX.out.2.2.keep hb2); obtain ⟨⟨v2, hv2⟩, hf2⟩ := HX2.out.cell HX.out.1 hlt))
      go_roundw
      case rel => exact ⟨k + 1, x.setIfInBounds k (.string ⟨#[]⟩), by omega, by go_num, Lib.hid ⟨by rw [Array.size_setIfInBounds]; exact HX.out.1, all_set HX.out.2.1 _ _, HX2.out.set _ _⟩⟩
      case measure => simp [intOf]; omega
    · have hrx := HX.out.2.2.range
      have hux := Tryd.underlying34
      have hinfx : (Tryd.prog.info? 34).map (·.size) = some x.toList.length := by rw [Array.length_toList, HX.out.1]; exact info64
      have hxx : x.toList.toArray = x := Array.toArray_toList
      have hroom : wr.cell? ⟨w.heap.size, 0, none⟩ = some (.int .i64 1) := HX.out.2.2.bb.cell HR.out
      obtain ⟨cz, hcz⟩ : ∃ cz, Array.foldl (fun (cs : Array Value) (y : Value × Nat) => cs.setIfInBounds (1 + y.snd) y.fst) (Tryd.zeroCells37.setIfInBounds 0 (.int .i64 1)) x.zipIdx 0 x.size = cz := ⟨_, rfl⟩
      have hz := fz_facts (Tryd.zeroCells37.setIfInBounds 0 (.int .i64 1)) x zD_size zD_one HX.out.2.1
      rw [hcz] at hz
      have hone := hz.2
      have hinf2 : (Tryd.prog.info? 37).map (·.size) = some cz.size := by rw [hz.1]; exact info66
      have ht : wr.there (w.heap.size + 1) 0 cz.size := by rw [hz.1]; exact HX.out.2.2.bb.there zeroC_size
      have HT := Lib.hid (HX.out.2.2.bb.told (l := cz.toList) zeroC_size (by rw [Array.length_toList]; exact hz.1))
      have HZ := Lib.hid hz
      clear hu hinf hcc hz
      go_wp2_with (first | (refine wpList_load_mid rfl 34 _ rfl _ _ rfl _ _ hrx hux rfl hinfx ?_; simp only [Act.put, hxx, List.setIfInBounds_toArray, List.set_cons_zero, List.set_cons_succ]) | (refine wpList_store_mid rfl 37 _ _ rfl _ _ cz rfl rfl ht hinf2 hone ?_; simp only [Act.put]))
      case inl => exact absurd h (by simp [HX.out.1])
      have hl := HT.out.1
      rw [Array.toArray_toList] at hl
      refine bodyPost_ret (v := .agg cz) (by simp [results, Tryd.results19, asAddr, hl]) rfl ⟨cz.toList, by rw [Array.toArray_toList], by rw [Array.length_toList]; exact HZ.out.1, one_list HZ.out.2, HT.out.2⟩
end Go.Proofs.YtlnemefegkjjiaaDoor
