/-
  swingbridgeref09: Crash of any disk.
-/
import Derived.Test.YtbhgcioeibhjeaaGreatDoorLRSy
namespace Go.Proofs.YtbhgcioeibhjeaaGreatDoor
open Go.RowKit

theorem slice_row {W : World} {v : Value} {L : List Th} (hv : W.ownsRow 0 98 4 v L.length (thsR L)) (m : Nat) (hm : m ≤ L.length) (hL : L.length ≤ 1000) : ∃ v0, (∀ W', (Instr.sliceAt 34 v none (some (.int .i64 (m : Int))) none).run Tryz.prog W' = .ok v0 W') ∧ (v0 = .slice none 0 0 ∧ (L.take m).length = 0 ∨ ∃ a c, v = .slice (some a) L.length c ∧ v0 = .slice (some a) (L.take m).length c) := by
  have hlen : (L.take m).length = m := by rw [List.length_take]; omega
  rw [hlen]
  rcases hv.2 with ⟨e0, e1⟩ | ⟨g, cap, cur, e0, _, _, h3, _⟩
  · subst e0
    obtain rfl : m = 0 := by omega
    exact ⟨.slice none 0 0, fun W' => by kernel_rfl, .inl ⟨rfl, rfl⟩⟩
  · subst e0
    refine ⟨.slice (some ⟨g, 0, none⟩) m cap, fun W' => ?_, .inr ⟨_, _, rfl, rfl⟩⟩
    have g1 : (0 : Int) ≤ (m : Int) := by omega
    have g2 : (m : Int) ≤ (cap : Int) := by omega
    generalize L.length = n at *
    go_simp
theorem row_len {W : World} {v : Value} {L : List Th} (hv : W.ownsRow 0 98 4 v L.length (thsR L)) : ∃ oa cap, v = .slice oa L.length cap := by
  rcases hv.2 with ⟨e0, e1⟩ | ⟨g, cap, cur, e0, _⟩
  · exact ⟨none, 0, by rw [e0, e1]⟩
  · exact ⟨_, _, e0⟩
theorem RDk.rowAt {W W' : World} {c : Array Value} {D : Dk} {v : Value} (h : RDk W c D v) (hb : Below W.heap.size W W') : W'.ownsRow 0 98 4 v D.L.length (thsR D.L) := (h.keep hb).row
/-- what stands behind the store of the row: the receiver's box, what Sync tells of it, the result's box -/
theorem BBr.crash {w w1 W : World} {c : Array Value} {D : Dk} {v : Value} (hR : RDk w c D v) (hi : D.Inv) (keep torn : Nat) (h : BBr w W c Tryz.zeroCells36) (h1 : w.heap.size + 2 ≤ w1.heap.size) (oa : Option Addr) (n z : Nat) (hrow : W.ownsRow w1.heap.size 98 4 (.slice oa n z) (crashL D keep torn).length (thsR (crashL D keep torn))) :
    ∃ c5 w5, W.setCell ⟨w.heap.size, 65, none⟩ (.slice oa n z) = w5 ∧ (Tryz.prog.info? 36).map (·.size) = some c5.toList.length ∧ w5.rangeAt w.heap.size 0 c5.toList ∧ Hid (Calls Tryz.prog 34 #[.agg c5] w5 fun e w6 => ∃ c6, e = .returned (.agg c6) ∧ (Tryz.prog.info? 36).map (·.size) = some c6.size ∧ c6.all (·.oneCell') = true ∧ w6.there (w.heap.size + 1) 0 c6.size ∧ Hid ((loadVar 36 ⟨w.heap.size + 1, 0, none⟩).run Tryz.prog (w6.setCells (w.heap.size + 1) 0 c6.toList) = .ok (.agg c6) (w6.setCells (w.heap.size + 1) 0 c6.toList) ∧ RDk (w6.setCells (w.heap.size + 1) 0 c6.toList) c6 (D.crashed keep torn) (.slice none 0 0) ∧ Below w.heap.size w (w6.setCells (w.heap.size + 1) 0 c6.toList))) := by
  have h5 := h.set 65 (.slice oa n z)
  have hrow5 : (W.setCell ⟨w.heap.size, 65, none⟩ (.slice oa n z)).ownsRow 0 98 4 (.slice oa n z) (crashL D keep torn).length (thsR (crashL D keep torn)) := ownsRow_zero (ownsRow_far hrow (fun k hk => Below.heap_setCell _ _ _ _ (by show k ≠ w.heap.size; omega)))
  have hR5 := hR.setL (crashL D keep torn) (doAll D.G (crashL D keep torn)) hrow5
  refine ⟨_, _, rfl, by rw [Array.length_toList, hR5.size]; exact info66r, h5.range, Lib.hid ((rrSync_any hR5 (mid_inv hi keep torn)).mono ?_)⟩
  rintro e w6 ⟨c6, e0, h6, hb6⟩
  have h7 := h5.keep hb6
  have h8 := h7.told (l := c6.toList) zeroCr_size (by rw [Array.length_toList]; exact h6.size)
  rw [Array.toArray_toList] at h8
  refine ⟨c6, e0, by rw [h6.size]; exact info66r, h6.one, by rw [h6.size]; exact h7.there zeroCr_size, Lib.hid ⟨h8.1, ?_, h8.2⟩⟩
  have e1 : Dk.synced { D with L := crashL D keep torn, F := doAll D.G (crashL D keep torn) } = D.crashed keep torn := mid_synced D keep torn
  rw [e1] at h6
  exact ⟨h6.size, h6.one, h6.room, h6.file, h6.things, World.ownsRow_nil _ _ _ _⟩
set_option maxRecDepth 1000000 in
set_option maxHeartbeats 4000000 in
theorem rrCrash_arg {w : World} {c : Array Value} {D : Dk} {v : Value} (hR : RDk w c D v) (keep torn : Int) (hn : keep < 0 ∨ torn < 0) : Calls Tryz.prog 35 #[.agg c, .int .i64 keep, .int .i64 torn] w fun e w' => e = .returned (.tuple #[.agg c, .int .i64 2]) ∧ Below w.heap.size w w' := by
  have h0 := BBr.start w c Tryz.zeroCells36
  have hu := Tryz.underlying36
  have hinf : (Tryz.prog.info? 36).map (·.size) = some c.toList.length := by rw [Array.length_toList, hR.size]; exact info66r
  have hinf2 : (Tryz.prog.info? 36).map (·.size) = some c.size := by rw [hR.size]; exact info66r
  have hone := hR.one
  have hr := h0.range
  have ht : ((w.alloc (.cells c 36)).alloc (.cells Tryz.zeroCells36 36)).there (w.heap.size + 1) 0 c.size := by rw [hR.size]; exact h0.there zeroCr_size
  have H2 := Lib.hid (h0.told (l := c.toList) zeroCr_size (by rw [Array.length_toList]; exact hR.size))
  rw [Array.toArray_toList] at H2
  clear h0 hR
  by_cases h1 : keep < 0
  · clear hn
    go_enter Tryz.func35, Tryz.ntmps35
    go_wp2_with (first | (refine wpList_load_mid rfl 36 _ rfl _ _ rfl _ _ hr hu rfl hinf ?_; simp only [Act.put, List.setIfInBounds_toArray, List.set_cons_zero, List.set_cons_succ]) | (refine wpList_store_mid rfl 36 _ _ rfl _ _ c rfl rfl ht hinf2 hone ?_; simp only [Act.put]))
    have hl := H2.out.1
    refine bodyPost_ret (v := .tuple #[.agg c, .int .i64 2]) (by simp [results, Tryz.results35, asAddr, hl]) rfl ⟨rfl, H2.out.2⟩
  · have h2 : torn < 0 := by omega
    clear hn
    go_enter Tryz.func35, Tryz.ntmps35
    go_wp2_with (first | (refine wpList_load_mid rfl 36 _ rfl _ _ rfl _ _ hr hu rfl hinf ?_; simp only [Act.put, List.setIfInBounds_toArray, List.set_cons_zero, List.set_cons_succ]) | (refine wpList_store_mid rfl 36 _ _ rfl _ _ c rfl rfl ht hinf2 hone ?_; simp only [Act.put]))
    have hl := H2.out.1
    refine bodyPost_ret (v := .tuple #[.agg c, .int .i64 2]) (by simp [results, Tryz.results35, asAddr, hl]) rfl ⟨rfl, H2.out.2⟩
set_option maxRecDepth 1000000 in
set_option maxHeartbeats 8000000 in
theorem rrCrash_far {w : World} {c : Array Value} {D : Dk} {v : Value} (hR : RDk w c D v) (hi : D.Inv) (keep torn : Nat) (hk : keep ≤ 9223372036854775807) (ht : torn ≤ 9223372036854775807) (hfar : D.L.length ≤ keep) : Calls Tryz.prog 35 #[.agg c, .int .i64 keep, .int .i64 torn] w fun e w' => ∃ c', e = .returned (.tuple #[.agg c', .int .i64 0]) ∧ RDk w' c' (D.crashed keep torn) (.slice none 0 0) ∧ Below w.heap.size w w' := by
  have h0 := BBr.start w c Tryz.zeroCells36
  have hu := Tryz.underlying36
  have hinf : (Tryz.prog.info? 36).map (·.size) = some c.toList.length := by rw [Array.length_toList, hR.size]; exact info66r
  have hinf2 : (Tryz.prog.info? 36).map (·.size) = some c.size := by rw [hR.size]; exact info66r
  have hone := hR.one
  obtain ⟨w0, hw0⟩ : ∃ w0, (w.alloc (.cells c 36)).alloc (.cells Tryz.zeroCells36 36) = w0 := ⟨_, rfl⟩
  rw [hw0] at h0
  have hfew := hi.few
  have hrow0 := hR.rowAt h0.below
  obtain ⟨v0, hsl, hf0⟩ := slice_row hrow0 (min keep D.L.length) (Nat.min_le_right _ _) (by omega)
  obtain ⟨v1, w2, hr2, hrow2, hb2⟩ := app_copy w0 v D.L (D.L.take (min keep D.L.length)) hrow0 (by omega) (List.take_prefix _ _) v0 hf0
  have hB2 := h0.keep hb2
  obtain ⟨ov, cv, hvf⟩ := row_len hrow0
  have hc65 : w0.cell? ⟨w.heap.size, 65, none⟩ = some v := h0.cell hR.things
  have hc65a : (w0.alloc (.cells #[] 98)).cell? ⟨w.heap.size, 65, none⟩ = some v := (h0.keep ((Below.refl _ w0).alloc (Nat.le_refl _) (.cells #[] 98))).cell hR.things
  have hc65b : w2.cell? ⟨w.heap.size, 65, none⟩ = some v := hB2.cell hR.things
  have hf65b : w2.frozen? ⟨w.heap.size, 65, none⟩ = false := hB2.frozen 65
  have hmin : min (keep : Int) (D.L.length : Int) = ((min keep D.L.length : Nat) : Int) := by omega
  have hk0 : ¬ ((keep : Int) < 0) := by omega
  have ht0 : ¬ ((torn : Int) < 0) := by omega
  have hcl : crashL D keep torn = D.L.take (min keep D.L.length) := by
    unfold crashL
    rw [List.getElem?_eq_none hfar, List.append_nil, Nat.min_eq_right hfar, List.take_of_length_le hfar, List.take_length]
  have hlt : ¬ ((keep : Int) < (D.L.length : Int)) := by omega
  obtain ⟨o1, c1, hv1⟩ := row_len (ownsRow_zero hrow2)
  obtain ⟨m1, hm1⟩ : ∃ m1, (D.L.take (min keep D.L.length)).length = m1 := ⟨_, rfl⟩
  rw [hm1] at hv1
  subst hv1
  rw [← hcl] at hrow2
  obtain ⟨c5, w5, hw5, hinf5, hr5, HS5⟩ := BBr.crash (w1 := w0) hR hi keep torn hB2 h0.two o1 m1 c1 hrow2
  clear hR hi hrow0 hrow2 hb2 hf0 hB2 h0 hinf hinf2 hone hcl hm1
  subst hvf
  generalize min keep D.L.length = m at *
  generalize D.L.length = n at *
  go_enter Tryz.func35, Tryz.ntmps35
  go_upto_region 9 with (first | (at_builtin; refine wpList_app rfl _ _ _ _ rfl (.slice (some ⟨w0.heap.size, 0, none⟩) 0 0) v0 rfl rfl _ w2 hr2 ?_; clear hr2))
  try rw [hw5]
  clear hw5
  go_wp2_with (first | (refine wpList_load_mid rfl 36 _ rfl _ _ rfl _ _ hr5 hu rfl hinf5 ?_; simp only [Act.put, List.setIfInBounds_toArray, List.set_cons_zero, List.set_cons_succ]) | (go_at_call 34; refine HS5.out.mono ?_; rintro e w6 ⟨c6, rfl, hinf6, hone6, ht6, H6⟩) | (refine wpList_store_mid rfl 36 _ _ rfl _ _ c6 rfl rfl ht6 hinf6 hone6 ?_; simp only [Act.put]))
  have hl6 := H6.out.1
  refine bodyPost_ret (v := .tuple #[.agg c6, .int .i64 0]) (by simp [results, Tryz.results35, asAddr, hl6]) rfl ⟨c6, rfl, H6.out.2.1, H6.out.2.2⟩
set_option maxRecDepth 1000000 in
set_option maxHeartbeats 8000000 in
theorem rrCrash_cut {w : World} {c : Array Value} {D : Dk} {v : Value} (hR : RDk w c D v) (hi : D.Inv) (keep torn : Nat) (hk : keep ≤ 9223372036854775807) (ht : torn ≤ 9223372036854775807) (f m : Nat) (hth : D.L[keep]? = some (.cut f m)) : Calls Tryz.prog 35 #[.agg c, .int .i64 keep, .int .i64 torn] w fun e w' => ∃ c', e = .returned (.tuple #[.agg c', .int .i64 0]) ∧ RDk w' c' (D.crashed keep torn) (.slice none 0 0) ∧ Below w.heap.size w w' := by
  have h0 := BBr.start w c Tryz.zeroCells36
  have hu := Tryz.underlying36
  have hinf : (Tryz.prog.info? 36).map (·.size) = some c.toList.length := by rw [Array.length_toList, hR.size]; exact info66r
  have hinf2 : (Tryz.prog.info? 36).map (·.size) = some c.size := by rw [hR.size]; exact info66r
  have hone := hR.one
  obtain ⟨w0, hw0⟩ : ∃ w0, (w.alloc (.cells c 36)).alloc (.cells Tryz.zeroCells36 36) = w0 := ⟨_, rfl⟩
  rw [hw0] at h0
  have hfew := hi.few
  have hrow0 := hR.rowAt h0.below
  obtain ⟨v0, hsl, hf0⟩ := slice_row hrow0 (min keep D.L.length) (Nat.min_le_right _ _) (by omega)
  obtain ⟨v1, w2, hr2, hrow2, hb2⟩ := app_copy w0 v D.L (D.L.take (min keep D.L.length)) hrow0 (by omega) (List.take_prefix _ _) v0 hf0
  have hB2 := h0.keep hb2
  obtain ⟨ov, cv, hvf⟩ := row_len hrow0
  have hc65 : w0.cell? ⟨w.heap.size, 65, none⟩ = some v := h0.cell hR.things
  have hc65a : (w0.alloc (.cells #[] 98)).cell? ⟨w.heap.size, 65, none⟩ = some v := (h0.keep ((Below.refl _ w0).alloc (Nat.le_refl _) (.cells #[] 98))).cell hR.things
  have hc65b : w2.cell? ⟨w.heap.size, 65, none⟩ = some v := hB2.cell hR.things
  have hf65b : w2.frozen? ⟨w.heap.size, 65, none⟩ = false := hB2.frozen 65
  have hmin : min (keep : Int) (D.L.length : Int) = ((min keep D.L.length : Nat) : Int) := by omega
  have hk0 : ¬ ((keep : Int) < 0) := by omega
  have ht0 : ¬ ((torn : Int) < 0) := by omega
  have hklt : keep < D.L.length := (List.getElem?_eq_some_iff.1 hth).1
  have hth2 : D.L[keep] = .cut f m := (List.getElem?_eq_some_iff.1 hth).2
  obtain ⟨a, ca, hva, hcs⟩ := row_cells (hR.rowAt hB2.below) keep hklt
  rw [hth2] at hcs
  have ha : (a.add (keep * 4)).spot = none := by
    rcases hrow0.2 with ⟨_, e1⟩ | ⟨g, _, _, e0, _⟩
    · omega
    · rw [hva] at e0
      cases e0
      unfold Addr.add
      split <;> rfl
  have hadd : a.add (keep * 4) = ⟨(a.add (keep * 4)).block, (a.add (keep * 4)).off + 0, none⟩ := by
    cases hx : a.add (keep * 4)
    rw [hx] at ha
    simp only at ha
    subst ha
    rfl
  have k0 : w2.cell? (a.add (keep * 4)) = some (.int .i64 f) := by rw [hadd]; exact hcs 0 _ rfl
  have k1 := hcs 1 _ rfl
  have k2 := hcs 2 _ rfl
  have k3 := hcs 3 _ rfl
  have hlt : (keep : Int) < (D.L.length : Int) := by omega
  have hmk : min keep D.L.length = keep := by omega
  have hcl : crashL D keep torn = D.L.take (min keep D.L.length) := by
    unfold crashL
    rw [hth, hmk, List.append_nil]
  obtain ⟨o1, c1, hv1⟩ := row_len (ownsRow_zero hrow2)
  obtain ⟨m1, hm1⟩ : ∃ m1, (D.L.take (min keep D.L.length)).length = m1 := ⟨_, rfl⟩
  rw [hm1] at hv1
  subst hv1
  rw [← hcl] at hrow2
  obtain ⟨c5, w5, hw5, hinf5, hr5, HS5⟩ := BBr.crash (w1 := w0) hR hi keep torn hB2 h0.two o1 m1 c1 hrow2
  clear hvf hR hi hrow0 hrow2 hb2 hf0 hB2 h0 hinf hinf2 hone hcl hm1 hcs hadd ha hth hth2 hmk
  subst hva
  generalize min keep D.L.length = mm at *
  generalize D.L.length = n at *
  go_enter Tryz.func35, Tryz.ntmps35
  go_upto_region 9 with (first | (at_builtin; refine wpList_app rfl _ _ _ _ rfl (.slice (some ⟨w0.heap.size, 0, none⟩) 0 0) v0 rfl rfl _ w2 hr2 ?_; clear hr2))
  try rw [hw5]
  clear hw5
  go_wp2_with (first | (refine wpList_load_mid rfl 36 _ rfl _ _ rfl _ _ hr5 hu rfl hinf5 ?_; simp only [Act.put, List.setIfInBounds_toArray, List.set_cons_zero, List.set_cons_succ]) | (go_at_call 34; refine HS5.out.mono ?_; rintro e w6 ⟨c6, rfl, hinf6, hone6, ht6, H6⟩) | (refine wpList_store_mid rfl 36 _ _ rfl _ _ c6 rfl rfl ht6 hinf6 hone6 ?_; simp only [Act.put]))
  have hl6 := H6.out.1
  refine bodyPost_ret (v := .tuple #[.agg c6, .int .i64 0]) (by simp [results, Tryz.results35, asAddr, hl6]) rfl ⟨c6, rfl, H6.out.2.1, H6.out.2.2⟩
set_option maxRecDepth 1000000 in
set_option maxHeartbeats 8000000 in
theorem rrCrash_put {w : World} {c : Array Value} {D : Dk} {v : Value} (hR : RDk w c D v) (hi : D.Inv) (keep torn : Nat) (hk : keep ≤ 9223372036854775807) (ht : torn ≤ 9223372036854775807) (f : Nat) (s : ByteArray) (hth : D.L[keep]? = some (.put f s)) : Calls Tryz.prog 35 #[.agg c, .int .i64 keep, .int .i64 torn] w fun e w' => ∃ c', e = .returned (.tuple #[.agg c', .int .i64 0]) ∧ RDk w' c' (D.crashed keep torn) (.slice none 0 0) ∧ Below w.heap.size w w' := by
  have h0 := BBr.start w c Tryz.zeroCells36
  have hu := Tryz.underlying36
  have hinf : (Tryz.prog.info? 36).map (·.size) = some c.toList.length := by rw [Array.length_toList, hR.size]; exact info66r
  have hinf2 : (Tryz.prog.info? 36).map (·.size) = some c.size := by rw [hR.size]; exact info66r
  have hone := hR.one
  obtain ⟨w0, hw0⟩ : ∃ w0, (w.alloc (.cells c 36)).alloc (.cells Tryz.zeroCells36 36) = w0 := ⟨_, rfl⟩
  rw [hw0] at h0
  have hfew := hi.few
  have hrow0 := hR.rowAt h0.below
  obtain ⟨v0, hsl, hf0⟩ := slice_row hrow0 (min keep D.L.length) (Nat.min_le_right _ _) (by omega)
  obtain ⟨v1, w2, hr2, hrow2, hb2⟩ := app_copy w0 v D.L (D.L.take (min keep D.L.length)) hrow0 (by omega) (List.take_prefix _ _) v0 hf0
  have hB2 := h0.keep hb2
  obtain ⟨ov, cv, hvf⟩ := row_len hrow0
  have hc65 : w0.cell? ⟨w.heap.size, 65, none⟩ = some v := h0.cell hR.things
  have hc65a : (w0.alloc (.cells #[] 98)).cell? ⟨w.heap.size, 65, none⟩ = some v := (h0.keep ((Below.refl _ w0).alloc (Nat.le_refl _) (.cells #[] 98))).cell hR.things
  have hc65b : w2.cell? ⟨w.heap.size, 65, none⟩ = some v := hB2.cell hR.things
  have hf65b : w2.frozen? ⟨w.heap.size, 65, none⟩ = false := hB2.frozen 65
  have hmin : min (keep : Int) (D.L.length : Int) = ((min keep D.L.length : Nat) : Int) := by omega
  have hk0 : ¬ ((keep : Int) < 0) := by omega
  have ht0 : ¬ ((torn : Int) < 0) := by omega
  have hklt : keep < D.L.length := (List.getElem?_eq_some_iff.1 hth).1
  have hth2 : D.L[keep] = .put f s := (List.getElem?_eq_some_iff.1 hth).2
  obtain ⟨a, ca, hva, hcs⟩ := row_cells (hR.rowAt hB2.below) keep hklt
  rw [hth2] at hcs
  have ha : (a.add (keep * 4)).spot = none := by
    rcases hrow0.2 with ⟨_, e1⟩ | ⟨g, _, _, e0, _⟩
    · omega
    · rw [hva] at e0
      cases e0
      unfold Addr.add
      split <;> rfl
  have hadd : a.add (keep * 4) = ⟨(a.add (keep * 4)).block, (a.add (keep * 4)).off + 0, none⟩ := by
    cases hx : a.add (keep * 4)
    rw [hx] at ha
    simp only at ha
    subst ha
    rfl
  have k0 : w2.cell? (a.add (keep * 4)) = some (.int .i64 f) := by rw [hadd]; exact hcs 0 _ rfl
  have k1 := hcs 1 _ rfl
  have k2 := hcs 2 _ rfl
  have k3 := hcs 3 _ rfl
  have hlt : (keep : Int) < (D.L.length : Int) := by omega
  have hmk : min keep D.L.length = keep := by omega
  obtain ⟨m2, hm2⟩ : ∃ m2 : Nat, min torn s.size = m2 := ⟨_, rfl⟩
  have hcl : crashL D keep torn = D.L.take (min keep D.L.length) ++ [Th.put f (s.extract 0 m2)] := by
    unfold crashL
    rw [hth, hmk, ← hm2]
  have hss : s.size ≤ 100000000 := by
    have := hi.oks keep _ hth
    exact this.2.2
  have hmin2 : min (torn : Int) (s.size : Int) = (m2 : Int) := by omega
  have hm2i0 : (0 : Int) ≤ (m2 : Int) := by omega
  have hm2i1 : (m2 : Int) ≤ (s.size : Int) := by omega
  have hsl2 : ∀ W, (Instr.sliceAt 9 (.string s) none (some (.int .i64 (m2 : Int))) none).run Tryz.prog W = .ok (.string (s.extract 0 m2)) W := fun W => by
    go_simp
  have HMO := Lib.hid (fun w3 (hb : Below w2.heap.size w2 w3) => app_more w0.heap.size w3 v1 (D.L.take (min keep D.L.length)) (ownsRow_same hrow2 (fun g hg => hb.block g (hrow2.lt g hg).2)) (by rw [List.length_take]; omega) (Nat.le_trans hb2.size hb.size) (Th.put f (s.extract 0 m2)))
  have HBC := Lib.hid (fun w3 w4 (hb : Below w2.heap.size w2 w3) (hb4 : Below w0.heap.size w3 w4) q z (hrow4 : w4.ownsRow w0.heap.size 98 4 (.slice (some ⟨q, 0, none⟩) ((D.L.take (min keep D.L.length)).length + 1) z) (D.L.take (min keep D.L.length) ++ [Th.put f (s.extract 0 m2)]).length (thsR (D.L.take (min keep D.L.length) ++ [Th.put f (s.extract 0 m2)]))) => (by
    rw [← hcl] at hrow4
    have hb04 : Below w0.heap.size w0 w4 := (hb2.trans (hb.mono hb2.size)).trans hb4
    have hB4 := h0.keep hb04
    exact And.intro (hB4.cell hR.things) (And.intro (hB4.frozen 65) (BBr.crash (w1 := w0) hR hi keep torn hB4 h0.two _ _ _ hrow4)) : _ ∧ _))
  clear hvf hR hi hrow0 hrow2 hb2 hf0 hB2 h0 hinf hinf2 hone hcl hcs hadd ha hth hth2 hmk
  subst hva
  generalize (D.L.take (min keep D.L.length)).length = m1 at *
  generalize min keep D.L.length = mm at *
  generalize D.L.length = n at *
  go_enter Tryz.func35, Tryz.ntmps35
  go_upto_region 7 with (first | (at_builtin; refine wpList_app rfl _ _ _ _ rfl (.slice (some ⟨w0.heap.size, 0, none⟩) 0 0) v0 rfl rfl _ w2 hr2 ?_; clear hr2))
  obtain ⟨w3, hw3⟩ : ∃ w3, w2.alloc (.cells #[.int .i64 f, .int .i64 0, .bool false, .string (s.extract 0 m2)] 98) = w3 := ⟨_, rfl⟩
  have hb3 : Below w2.heap.size w2 w3 := by rw [← hw3]; exact (Below.refl _ w2).alloc (Nat.le_refl _) _
  have b0 : w3.cell? ⟨w2.heap.size, 0, none⟩ = some (.int .i64 f) := by rw [← hw3]; exact alloc_cellr rfl
  have b1 : w3.cell? ⟨w2.heap.size, 1, none⟩ = some (.int .i64 0) := by rw [← hw3]; exact alloc_cellr rfl
  have b2 : w3.cell? ⟨w2.heap.size, 2, none⟩ = some (.bool false) := by rw [← hw3]; exact alloc_cellr rfl
  have b3 : w3.cell? ⟨w2.heap.size, 3, none⟩ = some (.string (s.extract 0 m2)) := by rw [← hw3]; exact alloc_cellr rfl
  try rw [hw3]
  obtain ⟨q, z, w4, hr4, hrow4, hb4⟩ := HMO.out w3 hb3
  obtain ⟨hc4, hf4, c5, w5, hw5, hinf5, hr5, HS5⟩ := HBC.out w3 w4 hb3 hb4 q z hrow4
  simp only [thR] at hr4
  clear hw3 hb3 hrow4 hb4 HMO HBC k0 k1 k2 k3 hsl hsl2 hc65 hc65a hc65b hf65b
  go_upto_region 9 with (first | (at_builtin; refine wpList_app rfl _ _ _ _ rfl v1 (.slice (some ⟨w3.heap.size, 0, none⟩) 1 1) rfl rfl _ w4 hr4 ?_; clear hr4))
  try rw [hw5]
  clear hw5
  go_wp2_with (first | (refine wpList_load_mid rfl 36 _ rfl _ _ rfl _ _ hr5 hu rfl hinf5 ?_; simp only [Act.put, List.setIfInBounds_toArray, List.set_cons_zero, List.set_cons_succ]) | (go_at_call 34; refine HS5.out.mono ?_; rintro e w6 ⟨c6, rfl, hinf6, hone6, ht6, H6⟩) | (refine wpList_store_mid rfl 36 _ _ rfl _ _ c6 rfl rfl ht6 hinf6 hone6 ?_; simp only [Act.put]))
  have hl6 := H6.out.1
  refine bodyPost_ret (v := .tuple #[.agg c6, .int .i64 0]) (by simp [results, Tryz.results35, asAddr, hl6]) rfl ⟨c6, rfl, H6.out.2.1, H6.out.2.2⟩
theorem rrCrash_any {w : World} {c : Array Value} {D : Dk} (hR : RDs w c D) (hi : D.Inv) (keep torn : Nat) (hk : keep ≤ 9223372036854775807) (ht : torn ≤ 9223372036854775807) : Calls Tryz.prog 35 #[.agg c, .int .i64 keep, .int .i64 torn] w fun e w' => ∃ c', e = .returned (.tuple #[.agg c', .int .i64 0]) ∧ RDk w' c' (D.crashed (min keep D.L.length) torn) (.slice none 0 0) ∧ Below w.heap.size w w' := by
  obtain ⟨v, hR⟩ := hR
  by_cases h : D.L.length ≤ keep
  · have e : D.crashed (min keep D.L.length) torn = D.crashed keep torn := by
      have e2 : D.crashF (min keep D.L.length) torn = D.crashF keep torn := by
        unfold Dk.crashF
        rw [Nat.min_eq_right h, List.getElem?_eq_none (Nat.le_refl _), List.getElem?_eq_none h, List.take_length, List.take_of_length_le h]
      unfold Dk.crashed
      rw [e2]
    rw [e]
    exact rrCrash_far hR hi keep torn hk ht h
  · rw [Nat.min_eq_left (by omega)]
    cases hth : D.L[keep]? with
    | none => exact absurd (List.getElem?_eq_none_iff.1 hth) h
    | some t =>
      cases t with
      | put f s => exact rrCrash_put hR hi keep torn hk ht f s hth
      | cut f m => exact rrCrash_cut hR hi keep torn hk ht f m hth
end Go.Proofs.YtbhgcioeibhjeaaGreatDoor
