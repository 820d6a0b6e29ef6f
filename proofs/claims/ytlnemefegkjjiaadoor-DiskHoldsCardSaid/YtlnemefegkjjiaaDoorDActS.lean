/-
  swingbridgelaw09.act: Sync.
-/
import Derived.Test.YtlnemefegkjjiaaDoorDActA
namespace Go.Proofs.YtlnemefegkjjiaaDoor
open Go.RowKit

set_option maxRecDepth 1000000 in
set_option maxHeartbeats 4000000 in
theorem act_sync {w W0 : World} {p : Nat} {D : Dk} {hv : Value} {H : List (List UInt8)} (h : HRun w W0 p D hv H) (hET : HasET w) (hfew : D.L.length < 900) (c : Array Value) (hc : ZD c) (wh fi nn tn : Int) (bs : Value) (l0 : List UInt8) (hbt : BtAt W0 bs l0) (hw : wh = 4) :
    Calls Tryd.prog 8 #[.pointer (some ⟨p, 0, none⟩), .agg c, .agg #[.int .i64 wh, .int .i64 fi, .int .i64 nn, .int .i64 tn, bs]] W0 (ActP w D.synced hv H) := by
  subst hw
  obtain ⟨oa, cap, hbs, _⟩ := id hbt
  subst hbs
  obtain ⟨w1, hw1⟩ : ∃ w1, W0.alloc (.cells c 37) = w1 := ⟨_, rfl⟩
  have hz1 : w1.heap.size = W0.heap.size + 1 := by rw [← hw1]; simp
  obtain ⟨w2, hw2⟩ : ∃ w2, w1.alloc (.cells #[.int .i64 4, .int .i64 fi, .int .i64 nn, .int .i64 tn, (.slice oa l0.length cap)] 33) = w2 := ⟨_, rfl⟩
  have hz2 : w2.heap.size = W0.heap.size + 2 := by rw [← hw2, World.size_alloc, hz1]
  obtain ⟨w3, hw3⟩ : ∃ w3, w2.alloc (.cells Tryd.zeroCells37 37) = w3 := ⟨_, rfl⟩
  have hT := TB.start W0 c Tryd.zeroCells37 zeroC_size 4 fi nn tn (.slice oa l0.length cap)
  rw [hw1, hw2, hw3] at hT
  obtain ⟨hr, ht, x0, x1, x2, x4⟩ := hT.facts
  have hu := Tryd.underlying37
  have hinf : (Tryd.prog.info? 37).map (·.size) = some c.toList.length := by rw [Array.length_toList, hc.size]; exact info66
  have hcc : c.toList.toArray = c := Array.toArray_toList
  have HK : Hid (∀ (w4 : World), Below w3.heap.size w3 w4 → Calls Tryd.prog 14 #[.pointer (some ⟨p, 0, none⟩)] w4 fun e w5 => e = .returned (.int .i64 0) ∧ w5.there (W0.heap.size + 2) 0 66 ∧ ∀ l : List Value, l.length = 66 → HRun w (w5.setCells (W0.heap.size + 2) 0 l) p D.synced hv H ∧ (loadVar 37 ⟨W0.heap.size + 2, 0, none⟩).run Tryd.prog (w5.setCells (W0.heap.size + 2) 0 l) = .ok (.agg l.toArray) (w5.setCells (W0.heap.size + 2) 0 l)) := Lib.hid fun w4 hb => by
    have hT4 := hT.keep hb
    have h3 := hT4.three
    have hF := h.frame hT4.below
    refine (f_sync hF).mono ?_
    rintro e w5 ⟨e0, hf5, hk5⟩
    have ht5 := there_kept hT4.facts.2.1 hk5 (by omega) (by omega)
    exact ⟨e0, ht5, fun l hl => ⟨(hf5.setCells (b := W0.heap.size + 2) (by omega) (by omega) l).run, told66 ht5 hl⟩⟩
  have HR := Lib.hid (fun w => rSync_any c hc w)
  clear h hET hT hbt
  go_enter Tryd.func8, Tryd.ntmps8
  go_upto_region 12 with (first | (refine wpList_load_mid rfl 37 _ rfl _ _ rfl _ _ hr hu rfl hinf ?_; simp only [Act.put, hcc, List.setIfInBounds_toArray, List.set_cons_zero, List.set_cons_succ]) | (go_at_call 19; refine (HR.out _).mono ?_; rintro e w4 ⟨l, rfl, hl, hone, hb4⟩; have HC := Lib.hid (HK.out w4 hb4); have hinf5 : (Tryd.prog.info? 37).map (·.size) = some l.toArray.size := (by rw [show l.toArray.size = 66 by simp [hl]]; exact info66); have hone5 := all_oneCell_toArray hone) | (go_at_call 14; refine HC.out.mono ?_; rintro e w5 ⟨rfl, ht5, hE⟩; have ht6 : w5.there (W0.heap.size + 2) 0 l.toArray.size := (by rw [show l.toArray.size = 66 by simp [hl]]; exact ht5); have HE := Lib.hid (hE l hl); clear hE) | (go_at_call 7; refine (lnum_any _ _).mono ?_; rintro e w6 ⟨rfl, rfl⟩) | (have := ht6; refine wpList_store_mid rfl 37 _ _ rfl _ _ l.toArray rfl rfl ht6 hinf5 hone5 ?_; simp only [Act.put]))
  obtain ⟨hE1, hE2⟩ := HE.out
  refine bodyPost_ret (v := .tuple #[.pointer (some ⟨p, 0, none⟩), .agg l.toArray, .bool true]) (by simp [results, Tryd.results8, asAddr, hE2]) rfl ⟨p, _, _, rfl, hE1⟩
end Go.Proofs.YtlnemefegkjjiaaDoor
