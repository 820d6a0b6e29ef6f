/-
  swingbridgeref09: Cut of a new disk's file that is there.
-/
import Derived.Test.YtlnemefegkjjiaaDoorDRefB
namespace Go.Proofs.YtlnemefegkjjiaaDoor
open Go.RowKit

set_option maxRecDepth 1000000 in
set_option maxHeartbeats 2000000 in
theorem rCut_far (c : Array Value) (hc : ZD c) (f : Nat) (m : Int) (w : World) (hf : f < 64) (hm : 0 < m) : Calls Tryd.prog 18 #[.agg c, .int .i64 f, .int .i64 m] w (Tld w) := by
  have h0 := BB.start w c Tryd.zeroCells37
  have hu := Tryd.underlying37
  have hinf : (Tryd.prog.info? 37).map (·.size) = some c.toList.length := by rw [Array.length_toList, hc.size]; exact info66
  have hinf2 : (Tryd.prog.info? 37).map (·.size) = some c.size := by rw [hc.size]; exact info66
  have hone := hc.one
  have HO := Lib.hid (And.intro (one_list hc.one) (show c.toList.length = 66 by rw [Array.length_toList]; exact hc.size))
  have hcc : c.toList.toArray = c := Array.toArray_toList
  have HK : Hid (∀ W, BB w W c Tryd.zeroCells37 → W.rangeAt w.heap.size 0 c.toList ∧ W.there (w.heap.size + 1) 0 c.size ∧ (loadVar 37 ⟨w.heap.size + 1, 0, none⟩).run Tryd.prog (W.setCells (w.heap.size + 1) 0 c.toList) = .ok (.agg c) (W.setCells (w.heap.size + 1) 0 c.toList) ∧ Below w.heap.size w (W.setCells (w.heap.size + 1) 0 c.toList)) := Lib.hid fun W h => by
    have h2 := h.told (l := c.toList) zeroC_size (by rw [Array.length_toList]; exact hc.size)
    rw [Array.toArray_toList] at h2
    exact ⟨h.range, by rw [hc.size]; exact h.there zeroC_size, h2⟩
  obtain ⟨hr, ht, hl, hbl⟩ := HK.out _ h0
  have HB0 := Lib.hid h0
  clear h0
  have HL := Lib.hid (fun w => rFile_any c hc f hf w)
  have hf1 : ¬ ((f : Int) < 0) := by omega
  have hf2 : ¬ (63 < (f : Int)) := by omega
  have hm1 : ¬ m < 0 := by omega
  clear hc hl hbl
  go_enter Tryd.func18, Tryd.ntmps18
  go_upto_region 4 with (first | (refine wpList_load_mid rfl 37 _ rfl _ _ rfl _ _ hr hu rfl hinf ?_; simp only [Act.put, hcc, List.setIfInBounds_toArray, List.set_cons_zero, List.set_cons_succ]) | (refine wp_load_mid 37 _ rfl _ _ rfl _ _ hr hu rfl hinf ?_; simp only [Act.put, hcc, List.setIfInBounds_toArray, List.set_cons_zero, List.set_cons_succ]) | (go_at_call 34; refine (HL.out _).mono ?_; rintro e w1 ⟨rfl, hb1⟩))
  obtain ⟨hr1, ht1, hl1, hbl1⟩ := HK.out w1 (HB0.out.keep hb1)
  clear hr ht hb1 HK HL HB0 hf hf1 hf2 hm hm1
  go_wp2_with (first | (refine wpList_load_mid rfl 37 _ rfl _ _ rfl _ _ hr1 hu rfl hinf ?_; simp only [Act.put, hcc, List.setIfInBounds_toArray, List.set_cons_zero, List.set_cons_succ]) | (refine wpList_store_mid rfl 37 _ _ rfl _ _ c rfl rfl ht1 hinf2 hone ?_; simp only [Act.put]))
  refine bodyPost_ret (v := .tuple #[.agg c, .int .i64 4]) (by simp [results, Tryd.results18, asAddr, hl1]) rfl ⟨c.toList, 4, by rw [Array.toArray_toList], HO.out.2, HO.out.1, hbl1⟩
end Go.Proofs.YtlnemefegkjjiaaDoor
