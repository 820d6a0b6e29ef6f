/-
  parts that belong together.
-/
import Derived.Test.YtbhgcioeibhjeaaGreatDoorLROp
import Derived.Test.YtbhgcioeibhjeaaGreatDoorLRNw
import Derived.Test.YtbhgcioeibhjeaaGreatDoorLRIs
namespace Go.Proofs.YtbhgcioeibhjeaaGreatDoor
open Go.RowKit

set_option maxRecDepth 1000000 in
set_option maxHeartbeats 4000000 in
theorem rOpen_wholeE {w : World} {c : Array Value} {D : Dk} {v : Value} (hR : RDk w c D v) (hi : D.Inv) (f : Nat) (hf : f < 64) (hno : wholeN (D.F f) = (D.F f).length) : Calls Tryz.prog 10 #[.agg c, .int .i64 f] w fun e w' => ∃ cl, e = .returned (.agg cl) ∧ RLg w' cl D f 0 ∧ cl.extract 0 66 = c ∧ Below w.heap.size w w' := by
  obtain ⟨w0, hw0⟩ : ∃ w0, (w.alloc (.cells c 36)).alloc (.cells Tryz.zeroCells38 38) = w0 := ⟨_, rfl⟩
  have hb0 : Below w.heap.size w w0 := by rw [← hw0]; exact ((Below.refl _ w).alloc (Nat.le_refl _) _).alloc (by simp) _
  have hu := Tryz.underlying36
  have huL := Tryz.underlying38
  have hinf : (Tryz.prog.info? 36).map (·.size) = some c.toList.length := by rw [Array.length_toList, hR.size]; exact info66r
  have hcc : c.toList.toArray = c := Array.toArray_toList
  have hcb : w0.heap[w.heap.size]? = some (.cells c 36 (0, 0)) := by rw [← hw0, Below.heap_alloc _ _ _ (by simp)]; exact heap_alloc_at w _
  have hlb : LBox w0 (w.heap.size + 1) Tryz.zeroCells38 := by
    have h := heap_alloc_at (w.alloc (.cells c 36)) (.cells Tryz.zeroCells38 38)
    rw [World.size_alloc, hw0] at h
    exact h
  have HRg : Hid (∀ W, Below w0.heap.size w0 W → W.rangeAt w.heap.size 0 c.toList) := Lib.hid fun W hb j v hv => by
    rw [Nat.zero_add]
    simp only [World.cell?]
    rw [hb.block _ (Array.getElem?_eq_some_iff.1 hcb).1, hcb]
    simpa using hv
  have hr := HRg.out w0 (Below.refl _ _)
  have HF := Lib.hid (rrFile_any (hR.keep hb0) hi f hf)
  have HW := Lib.hid (fun W => rWhole_any (D.F f) W (hi.len f hf))
  rw [hno] at HW
  have hsz66 : c.size = 66 := hR.size
  have hzz := zeroL_size
  have hbz := built_size hR.size
  obtain ⟨cz, hcz, hz1, hz2, hz3, hz4, hz5⟩ := built hR f 0
  have hczl : cz.toList.toArray = cz := Array.toArray_toList
  have hinfz : (Tryz.prog.info? 38).map (·.size) = some cz.size := by rw [hz1]; exact info68
  have hinfl : (Tryz.prog.info? 38).map (·.size) = some cz.toList.length := by rw [Array.length_toList, hz1]; exact info68
  have HZ : Hid (∀ w2, Below w0.heap.size w0 w2 → (w2.alloc (.cells Tryz.zeroCells38 38)).there w2.heap.size 0 cz.size ∧ ∃ w3, ((w2.alloc (.cells Tryz.zeroCells38 38)).setCells w2.heap.size 0 cz.toList) = w3 ∧ w3.cell? ⟨w2.heap.size, 67, none⟩ = some (.int .i64 0) ∧ w3.rangeAt w2.heap.size 0 cz.toList ∧ w3.there (w.heap.size + 1) 0 cz.size ∧ Hid ((loadVar 38 ⟨w.heap.size + 1, 0, none⟩).run Tryz.prog (w3.setCells (w.heap.size + 1) 0 cz.toList) = .ok (.agg cz) (w3.setCells (w.heap.size + 1) 0 cz.toList) ∧ RLg (w3.setCells (w.heap.size + 1) 0 cz.toList) cz D f 0 ∧ Below w.heap.size w (w3.setCells (w.heap.size + 1) 0 cz.toList))) := Lib.hid fun w2 hb2 => by
    have hL : LBox (w2.alloc (.cells Tryz.zeroCells38 38)) w2.heap.size Tryz.zeroCells38 := heap_alloc_at w2 _
    have hS := hL.store (hz1.trans zeroL_size.symm)
    have hba : Below w2.heap.size w2 (w2.alloc (.cells Tryz.zeroCells38 38)) := (Below.refl _ w2).alloc (Nat.le_refl _) _
    have hlt := hlb.lt
    have hs2 := hb2.size
    have hR2 : LBox ((w2.alloc (.cells Tryz.zeroCells38 38)).setCells w2.heap.size 0 cz.toList) (w.heap.size + 1) Tryz.zeroCells38 := ((hlb.keep hb2).keep hba).far (by omega)
    have hB3 : Below w.heap.size w (((w2.alloc (.cells Tryz.zeroCells38 38)).setCells w2.heap.size 0 cz.toList).setCells (w.heap.size + 1) 0 cz.toList) := below_setCellsr (by omega) _ _ (below_setCellsr (by have := hb0.size; omega) _ _ ((hb0.trans (hb2.mono hb0.size)).alloc (by have := hb0.size; omega) _))
    refine ⟨there_ofr hL _ (by rw [hz1, zeroL_size]; exact Nat.le_refl _), _, rfl, hS.cell hz5, hS.range, (hR2.told zeroL_size hz1).1, Lib.hid ⟨(hR2.told zeroL_size hz1).2, ⟨hz1, hz2, ?_, hz4, hz5⟩, hB3⟩⟩
    rw [hz3]
    refine ⟨v, ?_⟩
    have h2 := hR.keep (W' := w2) (hb0.trans (hb2.mono hb0.size))
    refine ⟨h2.size, h2.one, h2.room, h2.file, h2.things, ownsRow_same h2.row (fun g hg => ?_)⟩
    have hg2 : g < w.heap.size := (hR.row.lt g hg).2
    rw [heap_setCellsr _ _ _ _ _ (by omega), heap_setCellsr _ _ _ _ _ (by have := hb0.size; omega)]
    exact hba.block g (by have := hb0.size; omega)
  have hbs : ((⟨(D.F f).toArray⟩ : ByteArray).size : Int) = (D.F f).length := rfl
  have HE := Lib.hid hz3
  clear hR hi hno hz1 hz3 hz4 hz5 hlb hcb
  generalize (⟨(D.F f).toArray⟩ : ByteArray) = fs at *
  generalize (D.F f).length = n at *
  go_enter Tryz.func10, Tryz.ntmps10
  go_wp2_with (first | (refine wpList_load_mid rfl 36 _ rfl _ _ rfl _ _ hr hu rfl hinf ?_; simp only [Act.put, List.setIfInBounds_toArray, List.set_cons_zero, List.set_cons_succ]) | (go_at_call 31; refine HF.out.mono ?_; rintro e w1 ⟨rfl, hb1⟩; have hr1 := HRg.out w1 hb1) | (go_at_call 17; refine (HW.out _).mono ?_; rintro e w2 ⟨rfl, hb2⟩; have hr2 := HRg.out w2 (hb1.trans (hb2.mono hb1.size)); obtain ⟨ht2, w3, hw3, c67, hr3, ht3, H3⟩ := HZ.out w2 (hb1.trans (hb2.mono hb1.size))) | (refine wpList_load_mid rfl 36 _ rfl _ _ rfl _ _ hr2 hu rfl hinf ?_; simp only [Act.put, List.setIfInBounds_toArray, List.set_cons_zero, List.set_cons_succ]) | (refine wpList_store_mid rfl 38 _ _ rfl _ _ cz rfl rfl ht2 hinfz hz2 ?_; simp only [Act.put]) | (refine wpList_load_mid rfl 38 _ rfl _ _ rfl _ _ hr3 huL rfl hinfl ?_; simp only [Act.put, List.setIfInBounds_toArray, List.set_cons_zero, List.set_cons_succ]) | (refine wpList_store_mid rfl 38 _ _ rfl _ _ cz rfl rfl ht3 hinfz hz2 ?_; simp only [Act.put]))
  have hl3 := H3.out.1
  refine bodyPost_ret (v := .agg cz) (by simp [results, Tryz.results10, asAddr, hl3]) rfl ⟨cz, rfl, H3.out.2.1, HE.out, H3.out.2.2⟩
set_option maxRecDepth 1000000 in
set_option maxHeartbeats 4000000 in
theorem rOpen_tornN {w : World} {c : Array Value} {D : Dk} {v : Value} (hR : RDk w c D v) (hi : D.Inv) (f : Nat) (hf : f < 64) (hfew : D.L.length < 900) (hlt : wholeN (D.F f) < (D.F f).length) : Calls Tryz.prog 10 #[.agg c, .int .i64 f] w fun e w' => ∃ cl, e = .returned (.agg cl) ∧ RLg w' cl (D.cutd f (wholeN (D.F f) : Nat)) f ((D.F f).length - wholeN (D.F f) : Nat) ∧ (∀ g, rowAt cl g → w.heap.size ≤ g) ∧ Below w.heap.size w w' := by
  obtain ⟨w0, hw0⟩ : ∃ w0, (w.alloc (.cells c 36)).alloc (.cells Tryz.zeroCells38 38) = w0 := ⟨_, rfl⟩
  have hb0 : Below w.heap.size w w0 := by rw [← hw0]; exact ((Below.refl _ w).alloc (Nat.le_refl _) _).alloc (by simp) _
  have hu := Tryz.underlying36
  have huL := Tryz.underlying38
  have hinf : (Tryz.prog.info? 36).map (·.size) = some c.toList.length := by rw [Array.length_toList, hR.size]; exact info66r
  have hcc : c.toList.toArray = c := Array.toArray_toList
  have hcb : w0.heap[w.heap.size]? = some (.cells c 36 (0, 0)) := by rw [← hw0, Below.heap_alloc _ _ _ (by simp)]; exact heap_alloc_at w _
  have hlb : LBox w0 (w.heap.size + 1) Tryz.zeroCells38 := by
    have h := heap_alloc_at (w.alloc (.cells c 36)) (.cells Tryz.zeroCells38 38)
    rw [World.size_alloc, hw0] at h
    exact h
  have HRg : Hid (∀ W, Below w0.heap.size w0 W → W.rangeAt w.heap.size 0 c.toList) := Lib.hid fun W hb j v hv => by
    rw [Nat.zero_add]
    simp only [World.cell?]
    rw [hb.block _ (Array.getElem?_eq_some_iff.1 hcb).1, hcb]
    simpa using hv
  have hr := HRg.out w0 (Below.refl _ _)
  have HF := Lib.hid (rrFile_any (hR.keep hb0) hi f hf)
  have HW := Lib.hid (fun W => rWhole_any (D.F f) W (hi.len f hf))
  have hsz66 : c.size = 66 := hR.size
  have hzz := zeroL_size
  have hbz := built_size hR.size
  obtain ⟨cz, hcz, hz1, hz2, hz3, hz4, hz5⟩ := built hR f (((D.F f).length : Int) - (wholeN (D.F f) : Int))
  have hczl : cz.toList.toArray = cz := Array.toArray_toList
  have hinfz : (Tryz.prog.info? 38).map (·.size) = some cz.size := by rw [hz1]; exact info68
  have hinfl : (Tryz.prog.info? 38).map (·.size) = some cz.toList.length := by rw [Array.length_toList, hz1]; exact info68
  have hwle := wholeN_le (D.F f)
  have HC := Lib.hid (fun W (hb : Below w.heap.size w W) => rrCut_new (hR.keep hb) hi f hf (wholeN (D.F f)) hwle)
  have hDc : D.did (.cut f (wholeN (D.F f))) = D.cutd f (wholeN (D.F f) : Nat) := by
    have hok : cutE D f (wholeN (D.F f) : Nat) = 0 := by
      unfold cutE
      rw [if_neg (by omega), if_neg (by omega), if_neg]
      show ¬ (((D.F f).length : Nat) : Int) < _
      omega
    unfold Dk.cutd
    rw [if_pos hok]
    rfl
  rw [hDc] at HC
  have HZ : Hid (∀ w2, Below w0.heap.size w0 w2 → (w2.alloc (.cells Tryz.zeroCells38 38)).there w2.heap.size 0 cz.size ∧ ∃ w3, ((w2.alloc (.cells Tryz.zeroCells38 38)).setCells w2.heap.size 0 cz.toList) = w3 ∧ w3.cell? ⟨w2.heap.size, 67, none⟩ = some (.int .i64 (((D.F f).length : Int) - (wholeN (D.F f) : Int))) ∧ w3.rangeAt w.heap.size 0 c.toList ∧ Hid (LBox w3 w2.heap.size cz ∧ LBox w3 (w.heap.size + 1) Tryz.zeroCells38 ∧ Below w.heap.size w w3 ∧ w.heap.size + 2 ≤ w2.heap.size)) := Lib.hid fun w2 hb2 => by
    have hL : LBox (w2.alloc (.cells Tryz.zeroCells38 38)) w2.heap.size Tryz.zeroCells38 := heap_alloc_at w2 _
    have hS := hL.store (hz1.trans zeroL_size.symm)
    have hba : Below w2.heap.size w2 (w2.alloc (.cells Tryz.zeroCells38 38)) := (Below.refl _ w2).alloc (Nat.le_refl _) _
    have hlt := hlb.lt
    have hs2 := hb2.size
    have hR2 : LBox ((w2.alloc (.cells Tryz.zeroCells38 38)).setCells w2.heap.size 0 cz.toList) (w.heap.size + 1) Tryz.zeroCells38 := ((hlb.keep hb2).keep hba).far (by omega)
    have hB3 : Below w0.heap.size w0 ((w2.alloc (.cells Tryz.zeroCells38 38)).setCells w2.heap.size 0 cz.toList) := below_setCellsr (by omega) _ _ (hb2.alloc (by omega) _)
    exact ⟨there_ofr hL _ (by rw [hz1, zeroL_size]; exact Nat.le_refl _), _, rfl, hS.cell hz5, HRg.out _ hB3, Lib.hid ⟨hS, hR2, hb0.trans (hB3.mono hb0.size), by omega⟩⟩
  have HY : Hid (∀ w2 w3 w4 c', LBox w3 w2 cz → LBox w3 (w.heap.size + 1) Tryz.zeroCells38 → Below w.heap.size w w3 → w.heap.size + 2 ≤ w2 → Below w3.heap.size w3 w4 → RDs w4 c' (D.cutd f (wholeN (D.F f) : Nat)) → (∀ g, rowAt c' g → w.heap.size ≤ g) → w4.there w2 0 c'.size ∧ (Tryz.prog.info? 36).map (·.size) = some c'.size ∧ c'.all (·.oneCell') = true ∧ ∃ d w5, w4.setCells w2 0 c'.toList = w5 ∧ d.toList.toArray = d ∧ (Tryz.prog.info? 38).map (·.size) = some d.toList.length ∧ (Tryz.prog.info? 38).map (·.size) = some d.size ∧ d.all (·.oneCell') = true ∧ w5.rangeAt w2 0 d.toList ∧ w5.there (w.heap.size + 1) 0 d.size ∧ Hid ((loadVar 38 ⟨w.heap.size + 1, 0, none⟩).run Tryz.prog (w5.setCells (w.heap.size + 1) 0 d.toList) = .ok (.agg d) (w5.setCells (w.heap.size + 1) 0 d.toList) ∧ RLg (w5.setCells (w.heap.size + 1) 0 d.toList) d (D.cutd f (wholeN (D.F f) : Nat)) f ((D.F f).length - wholeN (D.F f) : Nat) ∧ (∀ g, rowAt d g → w.heap.size ≤ g) ∧ Below w.heap.size w (w5.setCells (w.heap.size + 1) 0 d.toList))) := Lib.hid fun w2 w3 w4 c' h1 h2 h3 h4 h5 h6 hn6 => by
    have k1 := h1.keep h5
    have k2 := h2.keep h5
    obtain ⟨v', hd⟩ := h6
    obtain ⟨d1, d2, d3, d4, d5⟩ := setDisk hz1 hz2 hd.size hd.one
    have k3 : LBox (w4.setCells w2 0 c'.toList) w2 (setAllr cz 0 c'.toList) := setCells_heap w2 38 (0, 0) c'.toList 0 w4 cz k1
    have k4 : LBox (w4.setCells w2 0 c'.toList) (w.heap.size + 1) Tryz.zeroCells38 := k2.far (by omega)
    have hlt1 := h1.lt
    have hlt2 := h2.lt
    refine ⟨there_ofr k1 _ (by rw [hd.size, hz1]; decide), by rw [hd.size]; exact info66r, hd.one, _, _, rfl, Array.toArray_toList, by rw [Array.length_toList, d1]; exact info68, by rw [d1]; exact info68, d2, k3.range, (k4.told zeroL_size d1).1, Lib.hid ⟨(k4.told zeroL_size d1).2, ⟨d1, d2, ?_, by rw [d4]; exact hz4, by rw [d5, hz5]; congr 2; omega⟩, fun g hg => hn6 g (by rw [← d3]; exact (rowAt_ext d1).2 hg), ?_⟩⟩
    · rw [d3]
      refine ⟨v', hd.size, hd.one, hd.room, hd.file, hd.things, ownsRow_same hd.row (fun g hg => ?_)⟩
      obtain ⟨g', cap, cur, e0, _, g2, _⟩ := hd.row.2.resolve_left (fun h => by rw [h.1] at hg; cases hg)
      rw [e0] at hg
      simp [Value.ownBlock] at hg
      subst hg
      have n1 : g' ≠ w2 := fun e => by
        rw [e, show w4.heap[w2]? = _ from k1] at g2
        cases g2
      have n2 : g' ≠ w.heap.size + 1 := fun e => by
        rw [e, show w4.heap[w.heap.size + 1]? = _ from k2] at g2
        cases g2
      rw [heap_setCellsr _ _ _ _ _ n2, heap_setCellsr _ _ _ _ _ n1]
    · exact below_setCellsr (by omega) _ _ (below_setCellsr (by omega) _ _ (h3.trans (h5.mono h3.size)))
  have hbs : ((⟨(D.F f).toArray⟩ : ByteArray).size : Int) = (D.F f).length := rfl
  have hpos : (0 : Int) < ((D.F f).length : Int) - (wholeN (D.F f) : Int) := by omega
  have hbound := hi.len f hf
  clear hR hi hz1 hz3 hz4 hz5 hlb hcb hDc
  generalize wholeN (D.F f) = wn at *
  generalize (⟨(D.F f).toArray⟩ : ByteArray) = fs at *
  generalize (D.F f).length = n at *
  go_enter Tryz.func10, Tryz.ntmps10
  go_upto_region 6 with (first | (refine wpList_load_mid rfl 36 _ rfl _ _ rfl _ _ hr hu rfl hinf ?_; simp only [Act.put, List.setIfInBounds_toArray, List.set_cons_zero, List.set_cons_succ]) | (go_at_call 31; refine HF.out.mono ?_; rintro e w1 ⟨rfl, hb1⟩; have hr1 := HRg.out w1 hb1; have HB1 := Lib.hid hb1; clear hb1) | (go_at_call 17; refine (HW.out _).mono ?_; rintro e w2 ⟨rfl, hb2⟩; have hr2 := HRg.out w2 (HB1.out.trans (hb2.mono HB1.out.size)); obtain ⟨ht2, w3, hw3, c67, hr3, H3⟩ := HZ.out w2 (HB1.out.trans (hb2.mono HB1.out.size)); clear hr1) | (refine wpList_load_mid rfl 36 _ rfl _ _ rfl _ _ hr2 hu rfl hinf ?_; simp only [Act.put, List.setIfInBounds_toArray, List.set_cons_zero, List.set_cons_succ]) | (refine wpList_store_mid rfl 38 _ _ rfl _ _ cz rfl rfl ht2 hinfz hz2 ?_; simp only [Act.put]) | (refine wpList_load_mid rfl 36 _ rfl _ _ rfl _ _ hr3 hu rfl hinf ?_; simp only [Act.put, List.setIfInBounds_toArray, List.set_cons_zero, List.set_cons_succ]) | (go_at_call 32; refine (HC.out w3 H3.out.2.2.1).mono ?_; rintro e w4 ⟨c', rfl, hd4, hn4, hb4⟩; obtain ⟨ht4, hinf4, hone4, d, w5, hw5, hdd, hinfd, hinfd2, honed, hr5, ht5, H5⟩ := HY.out _ w3 w4 c' H3.out.1 H3.out.2.1 H3.out.2.2.1 H3.out.2.2.2 hb4 hd4 (fun g hg => Nat.le_trans H3.out.2.2.1.size (hn4 g hg)); clear hd4 hn4 hb4) | (refine wpList_store_mid rfl 36 _ _ rfl _ _ c' rfl rfl ht4 hinf4 hone4 ?_; simp only [Act.put]))
  rw [hw5]
  clear hw5
  go_wp2_with (first | (refine wpList_load_mid rfl 38 _ rfl _ _ rfl _ _ hr5 huL rfl hinfd ?_; simp only [Act.put, List.setIfInBounds_toArray, List.set_cons_zero, List.set_cons_succ]) | (refine wpList_store_mid rfl 38 _ _ rfl _ _ d rfl rfl ht5 hinfd2 honed ?_; simp only [Act.put]))
  have hl5 := H5.out.1
  refine bodyPost_ret (v := .agg d) (by simp [results, Tryz.results10, asAddr, hl5]) rfl ⟨d, rfl, H5.out.2.1, H5.out.2.2.1, H5.out.2.2.2⟩
end Go.Proofs.YtbhgcioeibhjeaaGreatDoor
namespace Go.Proofs.YtbhgcioeibhjeaaGreatDoor
open Go.RowKit

theorem LK.grow {Ψ Ψ' : Nat → Prop} {V0 w W W' : World} {q p : Nat} {D : Dk} {f e t : Int} (h : LK Ψ V0 w W q p D f e t) (hb : Below W.heap.size W W') (hΨ : ∀ k, Ψ' k → k < W'.heap.size ∧ (Ψ k ∨ W.heap.size ≤ k)) : LK Ψ' W' w W' q p D f e t := by
  obtain ⟨Φ, h1, h2, h3, h4, h5, h6, h7⟩ := h
  refine ⟨Φ, h1.below hb, h2.trans (hb.mono h2.size), h3, (hb.block q (Array.getElem?_eq_some_iff.1 h4).1).trans h4, h5, h6, fun k hk => ⟨fun hp => ?_, fun e => ?_, (hΨ k hk).1, rfl⟩⟩
  · rcases (hΨ k hk).2 with h0 | h0
    · exact (h7 k h0).1 hp
    · obtain ⟨_, _, _, _, _, _, k1⟩ := h1
      have := (k1.lt k hp).2
      omega
  · rcases (hΨ k hk).2 with h0 | h0
    · exact (h7 k h0).2.1 e
    · subst e
      have := (Array.getElem?_eq_some_iff.1 h4).1
      omega
theorem LK.mono {Ψ Ψ' : Nat → Prop} {V0 w W : World} {q p : Nat} {D : Dk} {f e t : Int} (h : LK Ψ V0 w W q p D f e t) (hΨ : ∀ k, Ψ' k → Ψ k) : LK Ψ' W w W q p D f e t := by
  obtain ⟨Φ, h1, h2, h3, h4, h5, h6, h7⟩ := h
  exact ⟨Φ, h1, h2, h3, h4, h5, h6, fun k hk => ⟨(h7 k (hΨ k hk)).1, (h7 k (hΨ k hk)).2.1, (h7 k (hΨ k hk)).2.2.1, rfl⟩⟩
theorem LK.store {Ψ : Nat → Prop} {V0 w W : World} {q p : Nat} {D : Dk} {f e t : Int} (h : LK Ψ V0 w W q p D f e t) {b : Nat} (hb : Ψ b) (hw : w.heap.size ≤ b) (o : Nat) (vs : List Value) : LK Ψ (W.setCells b o vs) w (W.setCells b o vs) q p D f e t := by
  obtain ⟨Φ, ⟨mf, ms, V, U, lv, B, k1⟩, h2, h3, h4, h5, h6, h7⟩ := h
  have hs : W.heap.size ≤ (W.setCells b o vs).heap.size := (below_setCellsr (B := 0) (Nat.zero_le _) vs o (Below.refl _ W)).size
  refine ⟨Φ, ⟨mf, ms, V, U, lv, B, k1.keep hs (fun k hp => heap_setCellsr _ _ _ _ _ (fun e => (h7 b hb).1 (e ▸ hp)))⟩, below_setCellsr hw _ _ h2, h3, (heap_setCellsr _ _ _ _ _ (fun e => (h7 b hb).2.1 e.symm)).trans h4, h5, h6, fun k hk => ⟨(h7 k hk).1, (h7 k hk).2.1, Nat.lt_of_lt_of_le (h7 k hk).2.2.1 hs, rfl⟩⟩
theorem RLg.row {W : World} {cl : Array Value} {D : Dk} {f : Nat} {t : Int} (h : RLg W cl D f t) : ∃ v, RDk W (cl.extract 0 66) D v ∧ cl[65]? = some v := by
  obtain ⟨v, hd⟩ := h.disk
  refine ⟨v, hd, ?_⟩
  have e : (cl.extract 0 66)[65]? = cl[65]? := by rw [Array.getElem?_extract]; simp [h.size]
  rw [← e]
  exact hd.things
theorem RLg.rows {W : World} {cl : Array Value} {D : Dk} {f : Nat} {t : Int} (h : RLg W cl D f t) : ∀ g, rowAt cl g → g < W.heap.size := by
  rintro g ⟨u, hu, hg⟩
  obtain ⟨v, hd, hv⟩ := h.row
  rw [hv] at hu
  cases hu
  exact (hd.row.lt g hg).2
/-- other blocks than its row's do not matter -/
theorem RLg.framed {W W' : World} {cl : Array Value} {D : Dk} {f : Nat} {t : Int} (h : RLg W cl D f t) (hk : ∀ g, rowAt cl g → W'.heap[g]? = W.heap[g]?) : RLg W' cl D f t := by
  obtain ⟨v, hd, hv⟩ := h.row
  exact ⟨h.size, h.one, ⟨v, hd.size, hd.one, hd.room, hd.file, hd.things, ownsRow_same hd.row (fun g hg => hk g ⟨v, hv, hg⟩)⟩, h.file, h.torn⟩
/-- a log, and the document's in a value -/
structure LS (Ξ : Nat → Prop) (w W : World) (q p : Nat) (cl : Array Value) (D : Dk) (f : Nat) (t : Int) : Prop where
  run : LK (fun k => rowAt cl k ∨ Ξ k) W w W q p D f ((D.F f).length : Nat) t
  ref : RLg W cl D f t
  good : ∃ L, D.F f = catR L ∧ ∀ b ∈ L, b.length ≤ 60000
theorem LS.keep {Ξ : Nat → Prop} {w W W' : World} {q p : Nat} {cl : Array Value} {D : Dk} {f : Nat} {t : Int} (h : LS Ξ w W q p cl D f t) (hb : Below W.heap.size W W') : LS Ξ w W' q p cl D f t := ⟨(h.run.below hb).mono (fun _ hk => hk), h.ref.keep hb, h.good⟩
/-- a log beside which new blocks lie, and in the end a store -/
theorem LS.of {Ξ : Nat → Prop} {w W : World} {Ψ : Nat → Prop} {V0 : World} {q p : Nat} {cl : Array Value} {D : Dk} {f : Nat} {t : Int} (h : LK Ψ V0 w W q p D f ((D.F f).length : Nat) t) (hr : RLg W cl D f t) (hg : ∃ L, D.F f = catR L ∧ ∀ b ∈ L, b.length ≤ 60000) (hrow : ∀ g, rowAt cl g ∨ Ξ g → Ψ g) {b : Nat} (hb : Ψ b) (hw : w.heap.size ≤ b) {z : Array Value} (hz : LBox W b z) (d : Array Value) : LS Ξ w (W.setCells b 0 d.toList) q p cl D f t :=
  ⟨(h.store hb hw 0 d.toList).mono hrow, hr.store (.inr hz), hg⟩
theorem LS.lt {Ξ : Nat → Prop} {w W : World} {q p : Nat} {cl : Array Value} {D : Dk} {f : Nat} {t : Int} (h : LS Ξ w W q p cl D f t) {k : Nat} (hk : rowAt cl k ∨ Ξ k) : k < W.heap.size := (h.run.frame k hk).1
/-- what is told by a call of both -/
def ActPost (Ξ : Nat → Prop) (w W0 : World) (p : Nat) (D : Dk) (f : Nat) : Ending → World → Prop := fun e W' => ∃ q' cl' D' t', e = .returned (.tuple #[.pointer (some ⟨q', 0, none⟩), .agg cl', .bool true]) ∧ LS Ξ w W' q' p cl' D' f t' ∧ D'.L.length ≤ D.L.length + 1 ∧ ∀ k, Ξ k → W'.heap[k]? = W0.heap[k]?
end Go.Proofs.YtbhgcioeibhjeaaGreatDoor
