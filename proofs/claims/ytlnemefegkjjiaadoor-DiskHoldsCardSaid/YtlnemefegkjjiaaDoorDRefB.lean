/-
  swingbridgeref09: Append to a new disk, where there is room.
-/
import Derived.Test.YtlnemefegkjjiaaDoorDRefA
namespace Go.Proofs.YtlnemefegkjjiaaDoor
open Go.RowKit

theorem one_set {c : Array Value} (h : c.all (·.oneCell') = true) (i q z : Nat) : (c.setIfInBounds i (.slice (some ⟨q, 0, none⟩) 1 z)).all (·.oneCell') = true := by
  refine Array.all_eq_true_iff_forall_mem.2 (fun v hv => ?_)
  rcases Array.mem_or_eq_of_mem_setIfInBounds hv with h1 | h1
  · exact (Array.all_eq_true_iff_forall_mem.1 h) v h1
  · rw [h1]; rfl
set_option maxRecDepth 1000000 in
set_option maxHeartbeats 2000000 in
theorem rApp_ok (c : Array Value) (hc : ZD c) (f : Int) (s : ByteArray) (w : World) (hf : ¬ f < 0) (hf2 : ¬ 63 < f) (hs : ¬ (1 : Int) < s.size) : Calls Tryd.prog 17 #[.agg c, .int .i64 f, .string s] w (Tld w) := by
  have h0 := BB.start w c Tryd.zeroCells37
  have hu := Tryd.underlying37
  have hinf : (Tryd.prog.info? 37).map (·.size) = some c.toList.length := by rw [Array.length_toList, hc.size]; exact info66
  have hinf2 : (Tryd.prog.info? 37).map (·.size) = some c.size := by rw [hc.size]; exact info66
  have hone := hc.one
  have HO := Lib.hid (And.intro (one_list hc.one) (show c.toList.length = 66 by rw [Array.length_toList]; exact hc.size))
  have hcc : c.toList.toArray = c := Array.toArray_toList
  have HK : Hid (∀ W, BB w W c Tryd.zeroCells37 → W.rangeAt w.heap.size 0 c.toList ∧ W.there (w.heap.size + 1) 0 c.size ∧ (loadVar 37 ⟨w.heap.size + 1, 0, none⟩).run Tryd.prog (W.setCells (w.heap.size + 1) 0 c.toList) = .ok (.agg c) (W.setCells (w.heap.size + 1) 0 c.toList) ∧ Below w.heap.size w (W.setCells (w.heap.size + 1) 0 c.toList)) := Lib.hid fun W h => by
    have h2 := h.told (l := c.toList) zeroC_size (by rw [Array.length_toList]; exact hc.size)
    rw [Array.toArray_toList] at h2
    exact ⟨h.range, by rw [hc.size]; exact h.there zeroC_size, h2⟩
  obtain ⟨hr, ht, hl, hbl⟩ := HK.out _ h0
  have HB0 := Lib.hid h0
  clear h0
  have HN := Lib.hid hc.things
  have HS := Lib.hid (And.intro hc.size hc.one)
  have HM : Hid (∀ q z W, BB w W c Tryd.zeroCells37 → ∃ c5 w5, W.setCell ⟨w.heap.size, 65, none⟩ (.slice (some ⟨q, 0, none⟩) 1 z) = w5 ∧ c5.size = 66 ∧ c5.all (·.oneCell') = true ∧ w5.rangeAt w.heap.size 0 c5.toList ∧ w5.there (w.heap.size + 1) 0 c5.size ∧ (loadVar 37 ⟨w.heap.size + 1, 0, none⟩).run Tryd.prog (w5.setCells (w.heap.size + 1) 0 c5.toList) = .ok (.agg c5) (w5.setCells (w.heap.size + 1) 0 c5.toList) ∧ Below w.heap.size w (w5.setCells (w.heap.size + 1) 0 c5.toList)) := Lib.hid fun q z W h0 => by
    have h := h0.set 65 (.slice (some ⟨q, 0, none⟩) 1 z)
    have hs : (c.setIfInBounds 65 (.slice (some ⟨q, 0, none⟩) 1 z)).size = 66 := by rw [Array.size_setIfInBounds]; exact hc.size
    have h2 := h.told (l := (c.setIfInBounds 65 (.slice (some ⟨q, 0, none⟩) 1 z)).toList) zeroC_size (by rw [Array.length_toList]; exact hs)
    rw [Array.toArray_toList] at h2
    exact ⟨_, _, rfl, hs, one_set hc.one _ _ _, h.range, by rw [hs]; exact h.there zeroC_size, h2⟩
  have HL := Lib.hid (fun w => rLeft_any c hc w)
  clear hc hl hbl
  go_enter Tryd.func17, Tryd.ntmps17
  go_upto_region 5 with (first | (refine wpList_load_mid rfl 37 _ rfl _ _ rfl _ _ hr hu rfl hinf ?_; simp only [Act.put, hcc, List.setIfInBounds_toArray, List.set_cons_zero, List.set_cons_succ]) | (go_at_call 33; refine (HL.out _).mono ?_; rintro e w1 ⟨rfl, hb1⟩))
  have HB1 := Lib.hid (HB0.out.keep hb1)
  have hc2 : (w1.alloc (.cells #[] 75)).cell? ⟨w.heap.size, 65, none⟩ = some (.slice none 0 0) := (HB1.out.keep ((Below.refl _ w1).alloc (Nat.le_refl _) (.cells #[] 75))).cell HN.out
  obtain ⟨q, z, w4, hr4, hb4⟩ := app_one w1 (.int .i64 f) (.int .i64 0) (.bool false) (.string s) (by intro v hv; simp only [List.mem_cons, List.not_mem_nil, or_false] at hv; rcases hv with rfl | rfl | rfl | rfl <;> rfl)
  have HB4 := Lib.hid (HB1.out.keep hb4)
  have hc4 : w4.cell? ⟨w.heap.size, 65, none⟩ = some (.slice none 0 0) := HB4.out.cell HN.out
  have hf4 : w4.frozen? ⟨w.heap.size, 65, none⟩ = false := HB4.out.frozen 65
  obtain ⟨c5, w5, hw5, hs5, ho5, hr5, ht5, hl5, hbl5⟩ := HM.out q z w4 HB4.out
  have hcc5 : c5.toList.toArray = c5 := Array.toArray_toList
  have hinf5 : (Tryd.prog.info? 37).map (·.size) = some c5.toList.length := by rw [Array.length_toList, hs5]; exact info66
  have hinf6 : (Tryd.prog.info? 37).map (·.size) = some c5.size := by rw [hs5]; exact info66
  have HO5 := Lib.hid (And.intro (one_list ho5) (show c5.toList.length = 66 from (by rw [Array.length_toList]; exact hs5)))
  have H5 := Lib.hid (And.intro hl5 hbl5)
  clear hr ht hinf hinf2 hone hcc hb1 hb4 HK HM HL HO HB0 hf hf2 hs hl5 hbl5 hs5
  go_wp2_with (first | (at_builtin; refine wpList_app rfl _ _ _ _ rfl (.slice (some ⟨w1.heap.size, 0, none⟩) 0 0) (.slice (some ⟨w1.heap.size + 1, 0, none⟩) 1 1) rfl rfl _ w4 hr4 ?_) | (refine wpList_load_mid rfl 37 _ rfl _ _ rfl _ _ hr5 hu rfl hinf5 ?_; simp only [Act.put, hcc5, List.setIfInBounds_toArray, List.set_cons_zero, List.set_cons_succ]) | (refine wpList_store_mid rfl 37 _ _ rfl _ _ c5 rfl rfl ht5 hinf6 ho5 ?_; simp only [Act.put]))
  have hl5 := H5.out.1
  refine bodyPost_ret (v := .tuple #[.agg c5, .int .i64 0]) (by simp [results, Tryd.results17, asAddr, hl5]) rfl ⟨c5.toList, 0, by rw [Array.toArray_toList], HO5.out.2, HO5.out.1, H5.out.2⟩
end Go.Proofs.YtlnemefegkjjiaaDoor
