/-
  parts that belong together.
-/
import Derived.Test.YtbhgcioeibhjeaaGreatDoorLRDk
import Derived.Test.YtbhgcioeibhjeaaGreatDoorLrV
import Derived.Test.YtbhgcioeibhjeaaGreatDoorLRLw
import Derived.Test.YtbhgcioeibhjeaaGreatDoorLKeep
import Derived.Test.YtbhgcioeibhjeaaGreatDoorDCrs
namespace Go.Proofs.YtbhgcioeibhjeaaGreatDoor
open Go.RowKit

/-- the block of a disk's row of things -/
def rowAt (c : Array Value) (g : Nat) : Prop := ∃ v, c[65]? = some v ∧ v.ownBlock = some g
theorem rowAt_ext {cl : Array Value} {g : Nat} (h : cl.size = 68) : rowAt (cl.extract 0 66) g ↔ rowAt cl g := by
  unfold rowAt
  have e : (cl.extract 0 66)[65]? = cl[65]? := by rw [Array.getElem?_extract]; simp [h]
  rw [e]
theorem RDk.rowNew {W : World} {c : Array Value} {D : Dk} {v : Value} (h : RDk W c D v) {B : Nat} (hv : ∀ g, v.ownBlock = some g → B ≤ g) : ∀ g, rowAt c g → B ≤ g := by
  rintro g ⟨u, hu, hg⟩
  rw [h.things] at hu
  cases hu
  exact hv g hg
theorem row_base {W : World} {B q n z : Nat} {L : List Th} (h : W.ownsRow B 98 4 (.slice (some ⟨q, 0, none⟩) n z) L.length (thsR L)) : ∀ g, Value.ownBlock (.slice (some ⟨q, 0, none⟩) n z) = some g → B ≤ g := by
  rintro g hg
  rcases h.2 with ⟨e0, _⟩ | ⟨g', cap, cur, e0, h1, _⟩
  · cases e0
  · rw [e0] at hg
    simp [Value.ownBlock] at hg
    omega
set_option maxRecDepth 1000000 in
set_option maxHeartbeats 4000000 in
theorem rrApp_new {w : World} {c : Array Value} {D : Dk} {v : Value} (hR : RDk w c D v) (hi : D.Inv) (f : Nat) (hf : f < 64) (s : ByteArray) (hs : ¬ D.left < (s.size : Int)) : Calls Tryz.prog 15 #[.agg c, .int .i64 f, .string s] w fun e w' => ∃ c', e = .returned (.tuple #[.agg c', .int .i64 0]) ∧ RDs w' c' (D.did (.put f s)) ∧ (∀ g, rowAt c' g → w.heap.size ≤ g) ∧ Below w.heap.size w w' := by
  have h0 := BBr.start w c Tryz.zeroCells36
  have hu := Tryz.underlying36
  have hinf : (Tryz.prog.info? 36).map (·.size) = some c.toList.length := by rw [Array.length_toList, hR.size]; exact info66r
  have hinf2 : (Tryz.prog.info? 36).map (·.size) = some c.size := by rw [hR.size]; exact info66r
  have hone := hR.one
  have hcc : c.toList.toArray = c := Array.toArray_toList
  have HK : Hid (∀ W, BBr w W c Tryz.zeroCells36 → W.rangeAt w.heap.size 0 c.toList ∧ W.there (w.heap.size + 1) 0 c.size ∧ (loadVar 36 ⟨w.heap.size + 1, 0, none⟩).run Tryz.prog (W.setCells (w.heap.size + 1) 0 c.toList) = .ok (.agg c) (W.setCells (w.heap.size + 1) 0 c.toList) ∧ Below w.heap.size w (W.setCells (w.heap.size + 1) 0 c.toList)) := Lib.hid fun W h => by
    have h2 := h.told (l := c.toList) zeroCr_size (by rw [Array.length_toList]; exact hR.size)
    rw [Array.toArray_toList] at h2
    exact ⟨h.range, by rw [hR.size]; exact h.there zeroCr_size, h2⟩
  obtain ⟨hr, ht, hl, hbl⟩ := HK.out _ h0
  have HB0 := Lib.hid h0
  clear h0
  have hfew := hi.few
  have HN := Lib.hid hR.things
  have HRK := Lib.hid (fun W (hb : Below w.heap.size w W) => hR.keep hb)
  have HM := Lib.hid (fun (w1 W : World) (h : BBr w W c Tryz.zeroCells36) (h1 : w.heap.size + 2 ≤ w1.heap.size) (q n z : Nat) (hrow : W.ownsRow w1.heap.size 98 4 (.slice (some ⟨q, 0, none⟩) n z) (D.L ++ [Th.put f s]).length (thsR (D.L ++ [Th.put f s]))) => h.more (w1 := w1) hR h1 (Th.put f s) q n z hrow)
  have hf0 : ¬ ((f : Int) < 0) := by omega
  have hf1 : ¬ (63 < (f : Int)) := by omega
  have HL := Lib.hid (fun W (hb : Below w.heap.size w W) => rrLeft_any (hR.keep hb) hi)
  clear hR hi hl hbl
  generalize D.left = dl at *
  go_enter Tryz.func15, Tryz.ntmps15
  go_upto_region 5 with (first | (refine wpList_load_mid rfl 36 _ rfl _ _ rfl _ _ hr hu rfl hinf ?_; simp only [Act.put, hcc, List.setIfInBounds_toArray, List.set_cons_zero, List.set_cons_succ]) | (go_at_call 19; refine (HL.out _ HB0.out.below).mono ?_; rintro e w1 ⟨rfl, hb1⟩))
  have HB1 := Lib.hid (HB0.out.keep hb1)
  have hrow1 := (HRK.out w1 (HB0.out.below.trans (hb1.mono HB0.out.below.size))).row
  obtain ⟨v1, w2, hr2, hrow2, hb2⟩ := app_copy w1 v D.L D.L hrow1 (by omega) (List.prefix_refl _) v (thing_form hrow1)
  obtain ⟨q, z, w4, hr4, hrow4, hb4⟩ := app_more w1.heap.size w2 v1 D.L hrow2 (by omega) hb2.size (Th.put f s)
  have HB4 := Lib.hid (HB1.out.keep (hb2.trans hb4))
  have hc2 : (w1.alloc (.cells #[] 98)).cell? ⟨w.heap.size, 65, none⟩ = some v := (HB1.out.keep ((Below.refl _ w1).alloc (Nat.le_refl _) (.cells #[] 98))).cell HN.out
  have hc4 : w4.cell? ⟨w.heap.size, 65, none⟩ = some v := HB4.out.cell HN.out
  have hf4 : w4.frozen? ⟨w.heap.size, 65, none⟩ = false := HB4.out.frozen 65
  obtain ⟨c5, w5, hw5, hs5, ho5, hr5, ht5, H5⟩ := HM.out w1 w4 HB4.out HB1.out.two q (D.L.length + 1) z hrow4
  have hcc5 : c5.toList.toArray = c5 := Array.toArray_toList
  have hinf5 : (Tryz.prog.info? 36).map (·.size) = some c5.toList.length := by rw [Array.length_toList, hs5]; exact info66r
  have hinf6 : (Tryz.prog.info? 36).map (·.size) = some c5.size := by rw [hs5]; exact info66r
  have HQ := Lib.hid (row_base hrow4)
  simp only [thR] at hr4
  generalize D.L.length + 1 = n5 at *
  clear hr ht hinf hinf2 hone hcc hb1 hb2 hb4 HK HM HL HRK hrow1 hrow2 hrow4 hs5
  go_wp2_with (first | (at_builtin; refine wpList_app rfl _ _ _ _ rfl (.slice (some ⟨w1.heap.size, 0, none⟩) 0 0) v rfl rfl _ w2 hr2 ?_; clear hr2) | (at_builtin; refine wpList_app rfl _ _ _ _ rfl v1 (.slice (some ⟨w2.heap.size, 0, none⟩) 1 1) rfl rfl _ w4 hr4 ?_) | (refine wpList_load_mid rfl 36 _ rfl _ _ rfl _ _ hr5 hu rfl hinf5 ?_; simp only [Act.put, hcc5, List.setIfInBounds_toArray, List.set_cons_zero, List.set_cons_succ]) | (refine wpList_store_mid rfl 36 _ _ rfl _ _ c5 rfl rfl ht5 hinf6 ho5 ?_; simp only [Act.put]))
  have hl5 := H5.out.1
  refine bodyPost_ret (v := .tuple #[.agg c5, .int .i64 0]) (by simp [results, Tryz.results15, asAddr, hl5]) rfl ⟨c5, rfl, ⟨_, H5.out.2.2⟩, H5.out.2.2.rowNew (fun g hg => Nat.le_trans (by have := HB1.out.two; omega) (HQ.out g hg)), H5.out.2.1⟩
set_option maxRecDepth 1000000 in
set_option maxHeartbeats 4000000 in
theorem rrCut_new {w : World} {c : Array Value} {D : Dk} {v : Value} (hR : RDk w c D v) (hi : D.Inv) (f : Nat) (hf : f < 64) (m : Nat) (hm : m ≤ (D.F f).length) : Calls Tryz.prog 32 #[.agg c, .int .i64 f, .int .i64 m] w fun e w' => ∃ c', e = .returned (.tuple #[.agg c', .int .i64 0]) ∧ RDs w' c' (D.did (.cut f m)) ∧ (∀ g, rowAt c' g → w.heap.size ≤ g) ∧ Below w.heap.size w w' := by
  have h0 := BBr.start w c Tryz.zeroCells36
  have hu := Tryz.underlying36
  have hinf : (Tryz.prog.info? 36).map (·.size) = some c.toList.length := by rw [Array.length_toList, hR.size]; exact info66r
  have hinf2 : (Tryz.prog.info? 36).map (·.size) = some c.size := by rw [hR.size]; exact info66r
  have hone := hR.one
  have hcc : c.toList.toArray = c := Array.toArray_toList
  have HK : Hid (∀ W, BBr w W c Tryz.zeroCells36 → W.rangeAt w.heap.size 0 c.toList ∧ W.there (w.heap.size + 1) 0 c.size ∧ (loadVar 36 ⟨w.heap.size + 1, 0, none⟩).run Tryz.prog (W.setCells (w.heap.size + 1) 0 c.toList) = .ok (.agg c) (W.setCells (w.heap.size + 1) 0 c.toList) ∧ Below w.heap.size w (W.setCells (w.heap.size + 1) 0 c.toList)) := Lib.hid fun W h => by
    have h2 := h.told (l := c.toList) zeroCr_size (by rw [Array.length_toList]; exact hR.size)
    rw [Array.toArray_toList] at h2
    exact ⟨h.range, by rw [hR.size]; exact h.there zeroCr_size, h2⟩
  obtain ⟨hr, ht, hl, hbl⟩ := HK.out _ h0
  have HB0 := Lib.hid h0
  clear h0
  have hfew := hi.few
  have HN := Lib.hid hR.things
  have HRK := Lib.hid (fun W (hb : Below w.heap.size w W) => hR.keep hb)
  have HM := Lib.hid (fun (w1 W : World) (h : BBr w W c Tryz.zeroCells36) (h1 : w.heap.size + 2 ≤ w1.heap.size) (q n z : Nat) (hrow : W.ownsRow w1.heap.size 98 4 (.slice (some ⟨q, 0, none⟩) n z) (D.L ++ [Th.cut f m]).length (thsR (D.L ++ [Th.cut f m]))) => h.more (w1 := w1) hR h1 (Th.cut f m) q n z hrow)
  have hf0 : ¬ ((f : Int) < 0) := by omega
  have hf1 : ¬ (63 < (f : Int)) := by omega
  have HL := Lib.hid (fun W (hb : Below w.heap.size w W) => rrFile_any (hR.keep hb) hi f hf)
  have hm0 : ¬ ((m : Int) < 0) := by omega
  have hm1 : ¬ (((⟨(D.F f).toArray⟩ : ByteArray).size : Int) < (m : Int)) := by show ¬ (((D.F f).length : Int) < m); omega
  clear hR hi hl hbl hm
  generalize (⟨(D.F f).toArray⟩ : ByteArray) = fs at *
  go_enter Tryz.func32, Tryz.ntmps32
  go_upto_region 5 with (first | (refine wpList_load_mid rfl 36 _ rfl _ _ rfl _ _ hr hu rfl hinf ?_; simp only [Act.put, hcc, List.setIfInBounds_toArray, List.set_cons_zero, List.set_cons_succ]) | (refine wp_load_mid 36 _ rfl _ _ rfl _ _ hr hu rfl hinf ?_; simp only [Act.put, hcc, List.setIfInBounds_toArray, List.set_cons_zero, List.set_cons_succ]) | (go_at_call 31; refine (HL.out _ HB0.out.below).mono ?_; rintro e w1 ⟨rfl, hb1⟩))
  have HB1 := Lib.hid (HB0.out.keep hb1)
  have hrow1 := (HRK.out w1 (HB0.out.below.trans (hb1.mono HB0.out.below.size))).row
  obtain ⟨v1, w2, hr2, hrow2, hb2⟩ := app_copy w1 v D.L D.L hrow1 (by omega) (List.prefix_refl _) v (thing_form hrow1)
  obtain ⟨q, z, w4, hr4, hrow4, hb4⟩ := app_more w1.heap.size w2 v1 D.L hrow2 (by omega) hb2.size (Th.cut f m)
  have HB4 := Lib.hid (HB1.out.keep (hb2.trans hb4))
  have hc2 : (w1.alloc (.cells #[] 98)).cell? ⟨w.heap.size, 65, none⟩ = some v := (HB1.out.keep ((Below.refl _ w1).alloc (Nat.le_refl _) (.cells #[] 98))).cell HN.out
  have hc4 : w4.cell? ⟨w.heap.size, 65, none⟩ = some v := HB4.out.cell HN.out
  have hf4 : w4.frozen? ⟨w.heap.size, 65, none⟩ = false := HB4.out.frozen 65
  obtain ⟨c5, w5, hw5, hs5, ho5, hr5, ht5, H5⟩ := HM.out w1 w4 HB4.out HB1.out.two q (D.L.length + 1) z hrow4
  have hcc5 : c5.toList.toArray = c5 := Array.toArray_toList
  have hinf5 : (Tryz.prog.info? 36).map (·.size) = some c5.toList.length := by rw [Array.length_toList, hs5]; exact info66r
  have hinf6 : (Tryz.prog.info? 36).map (·.size) = some c5.size := by rw [hs5]; exact info66r
  have HQ := Lib.hid (row_base hrow4)
  simp only [thR] at hr4
  generalize D.L.length + 1 = n5 at *
  clear hr ht hinf hinf2 hone hcc hb1 hb2 hb4 HK HM HL HRK hrow1 hrow2 hrow4 hs5
  go_wp2_with (first | (at_builtin; refine wpList_app rfl _ _ _ _ rfl (.slice (some ⟨w1.heap.size, 0, none⟩) 0 0) v rfl rfl _ w2 hr2 ?_; clear hr2) | (at_builtin; refine wpList_app rfl _ _ _ _ rfl v1 (.slice (some ⟨w2.heap.size, 0, none⟩) 1 1) rfl rfl _ w4 hr4 ?_) | (refine wpList_load_mid rfl 36 _ rfl _ _ rfl _ _ hr5 hu rfl hinf5 ?_; simp only [Act.put, hcc5, List.setIfInBounds_toArray, List.set_cons_zero, List.set_cons_succ]) | (refine wpList_store_mid rfl 36 _ _ rfl _ _ c5 rfl rfl ht5 hinf6 ho5 ?_; simp only [Act.put]))
  have hl5 := H5.out.1
  refine bodyPost_ret (v := .tuple #[.agg c5, .int .i64 0]) (by simp [results, Tryz.results32, asAddr, hl5]) rfl ⟨c5, rfl, ⟨_, H5.out.2.2⟩, H5.out.2.2.rowNew (fun g hg => Nat.le_trans (by have := HB1.out.two; omega) (HQ.out g hg)), H5.out.2.1⟩
end Go.Proofs.YtbhgcioeibhjeaaGreatDoor
namespace Go.Proofs.YtbhgcioeibhjeaaGreatDoor
open Go.RowKit

theorem DBox.there {W : World} {b : Nat} {c d : Array Value} (h : DBox W b c) (hd : d.size ≤ c.size) : W.there b 0 d.size := there_ofr h _ hd
theorem DBox.far {W : World} {b k o : Nat} {c : Array Value} {vs : List Value} (h : DBox W b c) (hk : b ≠ k) : DBox (W.setCells k o vs) b c := (heap_setCellsr k vs o W b hk).trans h
set_option maxRecDepth 1000000 in
set_option maxHeartbeats 8000000 in
theorem rLApp_new {w : World} {cl : Array Value} {D : Dk} {f : Nat} {t : Int} (h : RLg w cl D f t) (hi : D.Inv) (hf : f < 64) (l : List UInt8) (hl : l.length ≤ 60000) (hok : ¬ D.left < ((recL l).length : Nat)) : Calls Tryz.prog 33 #[.agg cl, .string ⟨l.toArray⟩] w fun e w' => ∃ cl', e = .returned (.tuple #[.agg cl', .int .i64 ((D.F f).length : Nat), .int .i64 0]) ∧ RLg w' cl' (D.did (.put f ⟨(recL l).toArray⟩)) f t ∧ (∀ g, rowAt cl' g → w.heap.size ≤ g) ∧ Below w.heap.size w w' := by
  obtain ⟨w0, hw0⟩ : ∃ w0, (w.alloc (.cells cl 38)).alloc (.cells Tryz.zeroCells38 38) = w0 := ⟨_, rfl⟩
  have hb0 : Below w.heap.size w w0 := by rw [← hw0]; exact ((Below.refl _ w).alloc (Nat.le_refl _) _).alloc (by simp) _
  have hz0 : w0.heap.size = w.heap.size + 2 := by rw [← hw0]; simp
  have hbx : LBox w0 w.heap.size cl := by rw [← hw0]; exact (Below.heap_alloc _ _ _ (by simp)).trans (heap_alloc_at w _)
  have hrx : LBox w0 (w.heap.size + 1) Tryz.zeroCells38 := by
    have h := heap_alloc_at (w.alloc (.cells cl 38)) (.cells Tryz.zeroCells38 38)
    rw [World.size_alloc, hw0] at h
    exact h
  obtain ⟨D', hD'⟩ : ∃ D', D.did (.put f ⟨(recL l).toArray⟩) = D' := ⟨_, rfl⟩
  have hu := Tryz.underlying36
  have huL := Tryz.underlying38
  have hinfL : (Tryz.prog.info? 38).map (·.size) = some cl.toList.length := by rw [Array.length_toList, h.size]; exact info68
  have hinfD : (Tryz.prog.info? 36).map (·.size) = some (cl.extract 0 66).toList.length := by rw [disk_size h.size]; exact info66r
  have HBX : Hid (∀ W, Below w0.heap.size w0 W → W.rangeAt w.heap.size 0 cl.toList ∧ W.rangeAt w.heap.size 0 (cl.extract 0 66).toList ∧ W.cell? ⟨w.heap.size, 66, none⟩ = some (.int .i64 f)) := Lib.hid fun W hb => ⟨(hbx.keep hb).range, (hbx.keep hb).disk, (hbx.keep hb).cell h.file⟩
  have HRec := Lib.hid (fun W => rRec_ok l W hl)
  have HEnd := Lib.hid (fun W (hb : Below w0.heap.size w0 W) => rEnd_any (h.keep (hb0.trans (hb.mono hb0.size))) hi hf)
  have HApp : Hid (∀ W, Below w0.heap.size w0 W → Calls Tryz.prog 15 #[.agg (cl.extract 0 66), .int .i64 f, .string ⟨(recL l).toArray⟩] W fun e w' => ∃ c', e = .returned (.tuple #[.agg c', .int .i64 0]) ∧ RDs w' c' D' ∧ (∀ g, rowAt c' g → W.heap.size ≤ g) ∧ Below W.heap.size W w') := Lib.hid fun W hb => by
    obtain ⟨v, hv⟩ := (h.keep (hb0.trans (hb.mono hb0.size))).disk
    rw [← hD']
    exact rrApp_new hv hi f hf ⟨(recL l).toArray⟩ hok
  have HY : Hid (∀ w3 c', Below w0.heap.size w0 w3 → RDs w3 c' D' → (∀ g, rowAt c' g → w.heap.size ≤ g) → (w3.alloc (.cells Tryz.zeroCells36 36)).there w3.heap.size 0 c'.size ∧ (Tryz.prog.info? 36).map (·.size) = some c'.size ∧ (Tryz.prog.info? 36).map (·.size) = some c'.toList.length ∧ c'.all (·.oneCell') = true ∧ ∃ w4, (w3.alloc (.cells Tryz.zeroCells36 36)).setCells w3.heap.size 0 c'.toList = w4 ∧ w4.rangeAt w3.heap.size 0 c'.toList ∧ w4.there w.heap.size 0 c'.size ∧ ∃ d w5, w4.setCells w.heap.size 0 c'.toList = w5 ∧ (Tryz.prog.info? 38).map (·.size) = some d.toList.length ∧ (Tryz.prog.info? 38).map (·.size) = some d.size ∧ d.all (·.oneCell') = true ∧ w5.rangeAt w.heap.size 0 d.toList ∧ w5.there (w.heap.size + 1) 0 d.size ∧ Hid ((loadVar 38 ⟨w.heap.size + 1, 0, none⟩).run Tryz.prog (w5.setCells (w.heap.size + 1) 0 d.toList) = .ok (.agg d) (w5.setCells (w.heap.size + 1) 0 d.toList) ∧ RLg (w5.setCells (w.heap.size + 1) 0 d.toList) d D' f t ∧ (∀ g, rowAt d g → w.heap.size ≤ g) ∧ Below w.heap.size w (w5.setCells (w.heap.size + 1) 0 d.toList))) := Lib.hid fun w3 c' hb3 hd3 hn3 => by
    have hs3 := hb3.size
    have hba : Below w3.heap.size w3 (w3.alloc (.cells Tryz.zeroCells36 36)) := (Below.refl _ w3).alloc (Nat.le_refl _) _
    have hdb : DBox (w3.alloc (.cells Tryz.zeroCells36 36)) w3.heap.size Tryz.zeroCells36 := heap_alloc_at w3 _
    obtain ⟨v3, k3⟩ := id hd3
    have hst := hdb.store (d := c') (k3.size.trans zeroCr_size.symm)
    have hd4 : RDs ((w3.alloc (.cells Tryz.zeroCells36 36)).setCells w3.heap.size 0 c'.toList) c' D' := (hd3.keep hba).store (.inl hdb)
    have hx4 : LBox ((w3.alloc (.cells Tryz.zeroCells36 36)).setCells w3.heap.size 0 c'.toList) w.heap.size cl := ((hbx.keep hb3).keep hba).far (by omega)
    have hr4 : LBox ((w3.alloc (.cells Tryz.zeroCells36 36)).setCells w3.heap.size 0 c'.toList) (w.heap.size + 1) Tryz.zeroCells38 := ((hrx.keep hb3).keep hba).far (by omega)
    have hB4 : Below w.heap.size w ((w3.alloc (.cells Tryz.zeroCells36 36)).setCells w3.heap.size 0 c'.toList) := below_setCellsr (by omega) _ _ ((hb0.trans (hb3.mono hb0.size)).alloc (by omega) _)
    obtain ⟨d1, d2, d3, d4, d5⟩ := setDisk h.size h.one k3.size k3.one
    generalize (w3.alloc (.cells Tryz.zeroCells36 36)).setCells w3.heap.size 0 c'.toList = w4 at *
    have hx5 : LBox (w4.setCells w.heap.size 0 c'.toList) w.heap.size (setAllr cl 0 c'.toList) := setCells_heap w.heap.size 38 (0, 0) c'.toList 0 w4 cl hx4
    have hr5 : LBox (w4.setCells w.heap.size 0 c'.toList) (w.heap.size + 1) Tryz.zeroCells38 := hr4.far (by omega)
    have hd5 : RDs (w4.setCells w.heap.size 0 c'.toList) c' D' := hd4.store (.inr hx4)
    have hRL : RLg (w4.setCells w.heap.size 0 c'.toList) (setAllr cl 0 c'.toList) D' f t := ⟨d1, d2, by rw [d3]; exact hd5, by rw [d4]; exact h.file, by rw [d5]; exact h.torn⟩
    refine ⟨hdb.there (by rw [k3.size, zeroCr_size]; exact Nat.le_refl _), by rw [k3.size]; exact info66r, by rw [Array.length_toList, k3.size]; exact info66r, k3.one, w4, rfl, hst.range, there_ofr hx4 _ (by rw [k3.size, h.size]; decide), _, _, rfl, by rw [Array.length_toList, d1]; exact info68, by rw [d1]; exact info68, d2, hx5.range, (hr5.told zeroL_size d1).1, Lib.hid ⟨(hr5.told zeroL_size d1).2, hRL.store (.inr hr5), (fun g hg => hn3 g (by rw [← d3]; exact (rowAt_ext d1).2 hg)), below_setCellsr (by omega) _ _ (below_setCellsr (by omega) _ _ hB4)⟩⟩
  rw [hD']
  have hbound : ((D.F f).length : Int) ≤ 100000000 := by have := hi.len f hf; omega
  clear h hi hok hD' hbx hrx hl
  generalize cl.extract 0 66 = cx at *
  generalize (⟨l.toArray⟩ : ByteArray) = ls at *
  generalize (⟨(recL l).toArray⟩ : ByteArray) = rs at *
  generalize (D.F f).length = n at *
  go_enter Tryz.func33, Tryz.ntmps33
  go_upto_region 4 with (first | (go_at_call 65; refine (HRec.out _).mono ?_; rintro e w1 ⟨rfl, hb1⟩; have HB1 := Lib.hid hb1; obtain ⟨x1, x2, x3⟩ := HBX.out w1 hb1; clear hb1))
  go_upto_region 9 with (first | (refine wpList_load_mid rfl 38 _ rfl _ _ rfl _ _ x1 huL rfl hinfL ?_; simp only [Act.put, List.setIfInBounds_toArray, List.set_cons_zero, List.set_cons_succ, Array.toArray_toList]) | (go_at_call 38; refine (HEnd.out w1 HB1.out).mono ?_; rintro e w2 ⟨rfl, hb2⟩; have HB2 := Lib.hid (HB1.out.trans (hb2.mono HB1.out.size)); obtain ⟨y1, y2, y3⟩ := HBX.out w2 HB2.out; clear hb2) | (refine wpList_load_mid rfl 36 _ rfl _ _ rfl _ _ y2 hu rfl hinfD ?_; simp only [Act.put, List.setIfInBounds_toArray, List.set_cons_zero, List.set_cons_succ, Array.toArray_toList]) | (go_at_call 15; refine (HApp.out w2 HB2.out).mono ?_; rintro e w3 ⟨c', rfl, hd3, hn3, hb3⟩; obtain ⟨t3, i3, i3l, o3, w4, hw4, r4, t4, d, w5, hw5, id5, id5s, od5, r5, t5, H5⟩ := HY.out w3 c' (HB2.out.trans (hb3.mono HB2.out.size)) hd3 (fun g hg => Nat.le_trans (by have := HB2.out.size; omega) (hn3 g hg)); clear hd3 hn3 hb3) | (refine wpList_store_mid rfl 36 _ _ rfl _ _ c' rfl rfl t3 i3 o3 ?_; simp only [Act.put]) | (refine wpList_load_mid rfl 36 _ rfl _ _ rfl _ _ r4 hu rfl i3l ?_; simp only [Act.put, List.setIfInBounds_toArray, List.set_cons_zero, List.set_cons_succ, Array.toArray_toList]) | (refine wpList_store_mid rfl 36 _ _ rfl _ _ c' rfl rfl t4 i3 o3 ?_; simp only [Act.put]))
  try rw [hw5]
  clear hw5
  go_wp2_with (first | (refine wpList_load_mid rfl 38 _ rfl _ _ rfl _ _ r5 huL rfl id5 ?_; simp only [Act.put, List.setIfInBounds_toArray, List.set_cons_zero, List.set_cons_succ, Array.toArray_toList]) | (refine wpList_store_mid rfl 38 _ _ rfl _ _ d rfl rfl t5 id5s od5 ?_; simp only [Act.put]))
  have hl5 := H5.out.1
  refine bodyPost_ret (v := .tuple #[.agg d, .int .i64 n, .int .i64 0]) (by simp [results, Tryz.results33, asAddr, hl5]) rfl ⟨d, rfl, H5.out.2.1, H5.out.2.2.1, H5.out.2.2.2⟩
end Go.Proofs.YtbhgcioeibhjeaaGreatDoor
namespace Go.Proofs.YtbhgcioeibhjeaaGreatDoor
open Go.RowKit

set_option maxRecDepth 1000000 in
set_option maxHeartbeats 8000000 in
theorem rLApp_full {w : World} {cl : Array Value} {D : Dk} {f : Nat} {t : Int} (h : RLg w cl D f t) (hi : D.Inv) (hf : f < 64) (l : List UInt8) (hl : l.length ≤ 60000) (hno : D.left < ((recL l).length : Nat)) : Calls Tryz.prog 33 #[.agg cl, .string ⟨l.toArray⟩] w fun e w' => e = .returned (.tuple #[.agg cl, .int .i64 0, .int .i64 190]) ∧ Below w.heap.size w w' := by
  obtain ⟨w0, hw0⟩ : ∃ w0, (w.alloc (.cells cl 38)).alloc (.cells Tryz.zeroCells38 38) = w0 := ⟨_, rfl⟩
  have hb0 : Below w.heap.size w w0 := by rw [← hw0]; exact ((Below.refl _ w).alloc (Nat.le_refl _) _).alloc (by simp) _
  have hz0 : w0.heap.size = w.heap.size + 2 := by rw [← hw0]; simp
  have hbx : LBox w0 w.heap.size cl := by rw [← hw0]; exact (Below.heap_alloc _ _ _ (by simp)).trans (heap_alloc_at w _)
  have hrx : LBox w0 (w.heap.size + 1) Tryz.zeroCells38 := by
    have h := heap_alloc_at (w.alloc (.cells cl 38)) (.cells Tryz.zeroCells38 38)
    rw [World.size_alloc, hw0] at h
    exact h
  have hu := Tryz.underlying36
  have huL := Tryz.underlying38
  have hinfL : (Tryz.prog.info? 38).map (·.size) = some cl.toList.length := by rw [Array.length_toList, h.size]; exact info68
  have hinfD : (Tryz.prog.info? 36).map (·.size) = some (cl.extract 0 66).toList.length := by rw [disk_size h.size]; exact info66r
  have HBX : Hid (∀ W, Below w0.heap.size w0 W → W.rangeAt w.heap.size 0 cl.toList ∧ W.rangeAt w.heap.size 0 (cl.extract 0 66).toList ∧ W.cell? ⟨w.heap.size, 66, none⟩ = some (.int .i64 f)) := Lib.hid fun W hb => ⟨(hbx.keep hb).range, (hbx.keep hb).disk, (hbx.keep hb).cell h.file⟩
  have HRec := Lib.hid (fun W => rRec_ok l W hl)
  have HEnd := Lib.hid (fun W (hb : Below w0.heap.size w0 W) => rEnd_any (h.keep (hb0.trans (hb.mono hb0.size))) hi hf)
  have HApp : Hid (∀ W, Below w0.heap.size w0 W → Calls Tryz.prog 15 #[.agg (cl.extract 0 66), .int .i64 f, .string ⟨(recL l).toArray⟩] W fun e w' => e = .returned (.tuple #[.agg (cl.extract 0 66), .int .i64 190]) ∧ Below W.heap.size W w') := Lib.hid fun W hb => by
    obtain ⟨v, hv⟩ := (h.keep (hb0.trans (hb.mono hb0.size))).disk
    exact rrApp_full hv hi f hf ⟨(recL l).toArray⟩ hno
  have hcs : (cl.extract 0 66).size = 66 := by rw [← Array.length_toList]; exact disk_size h.size
  have hco : (cl.extract 0 66).all (·.oneCell') = true := by
    obtain ⟨v, hv⟩ := h.disk
    exact hv.one
  have HY : Hid (∀ w3, Below w0.heap.size w0 w3 → (w3.alloc (.cells Tryz.zeroCells36 36)).there w3.heap.size 0 (cl.extract 0 66).size ∧ ∃ w4, (w3.alloc (.cells Tryz.zeroCells36 36)).setCells w3.heap.size 0 (cl.extract 0 66).toList = w4 ∧ w4.rangeAt w.heap.size 0 cl.toList ∧ w4.there (w.heap.size + 1) 0 cl.size ∧ Hid ((loadVar 38 ⟨w.heap.size + 1, 0, none⟩).run Tryz.prog (w4.setCells (w.heap.size + 1) 0 cl.toList) = .ok (.agg cl) (w4.setCells (w.heap.size + 1) 0 cl.toList) ∧ Below w.heap.size w (w4.setCells (w.heap.size + 1) 0 cl.toList))) := Lib.hid fun w3 hb3 => by
    have hs3 := hb3.size
    have hba : Below w3.heap.size w3 (w3.alloc (.cells Tryz.zeroCells36 36)) := (Below.refl _ w3).alloc (Nat.le_refl _) _
    have hdb : DBox (w3.alloc (.cells Tryz.zeroCells36 36)) w3.heap.size Tryz.zeroCells36 := heap_alloc_at w3 _
    have hx4 : LBox ((w3.alloc (.cells Tryz.zeroCells36 36)).setCells w3.heap.size 0 (cl.extract 0 66).toList) w.heap.size cl := ((hbx.keep hb3).keep hba).far (by omega)
    have hr4 : LBox ((w3.alloc (.cells Tryz.zeroCells36 36)).setCells w3.heap.size 0 (cl.extract 0 66).toList) (w.heap.size + 1) Tryz.zeroCells38 := ((hrx.keep hb3).keep hba).far (by omega)
    have hB4 : Below w.heap.size w ((w3.alloc (.cells Tryz.zeroCells36 36)).setCells w3.heap.size 0 (cl.extract 0 66).toList) := below_setCellsr (by omega) _ _ ((hb0.trans (hb3.mono hb0.size)).alloc (by omega) _)
    exact ⟨hdb.there (by rw [hcs, zeroCr_size]; exact Nat.le_refl _), _, rfl, hx4.range, (hr4.told zeroL_size h.size).1, Lib.hid ⟨(hr4.told zeroL_size h.size).2, below_setCellsr (by omega) _ _ hB4⟩⟩
  have hinfD2 : (Tryz.prog.info? 36).map (·.size) = some (cl.extract 0 66).size := by rw [hcs]; exact info66r
  have hinfL2 : (Tryz.prog.info? 38).map (·.size) = some cl.size := by rw [h.size]; exact info68
  have hone := h.one
  have hbound : ((D.F f).length : Int) ≤ 100000000 := by have := hi.len f hf; omega
  clear h hi hno hbx hrx hl hcs
  generalize cl.extract 0 66 = cx at *
  generalize (⟨l.toArray⟩ : ByteArray) = ls at *
  generalize (⟨(recL l).toArray⟩ : ByteArray) = rs at *
  generalize (D.F f).length = n at *
  go_enter Tryz.func33, Tryz.ntmps33
  go_upto_region 4 with (first | (go_at_call 65; refine (HRec.out _).mono ?_; rintro e w1 ⟨rfl, hb1⟩; have HB1 := Lib.hid hb1; obtain ⟨x1, x2, x3⟩ := HBX.out w1 hb1; clear hb1))
  go_wp2_with (first | (refine wpList_load_mid rfl 38 _ rfl _ _ rfl _ _ x1 huL rfl hinfL ?_; simp only [Act.put, List.setIfInBounds_toArray, List.set_cons_zero, List.set_cons_succ, Array.toArray_toList]) | (go_at_call 38; refine (HEnd.out w1 HB1.out).mono ?_; rintro e w2 ⟨rfl, hb2⟩; have HB2 := Lib.hid (HB1.out.trans (hb2.mono HB1.out.size)); obtain ⟨y1, y2, y3⟩ := HBX.out w2 HB2.out; clear hb2) | (refine wpList_load_mid rfl 36 _ rfl _ _ rfl _ _ y2 hu rfl hinfD ?_; simp only [Act.put, List.setIfInBounds_toArray, List.set_cons_zero, List.set_cons_succ, Array.toArray_toList]) | (go_at_call 15; refine (HApp.out w2 HB2.out).mono ?_; rintro e w3 ⟨rfl, hb3⟩; obtain ⟨t3, w4, hw4, r4, t4, H5⟩ := HY.out w3 (HB2.out.trans (hb3.mono HB2.out.size)); clear hb3) | (refine wpList_store_mid rfl 36 _ _ rfl _ _ cx rfl rfl t3 hinfD2 hco ?_; simp only [Act.put]) | (refine wpList_load_mid rfl 38 _ rfl _ _ rfl _ _ r4 huL rfl hinfL ?_; simp only [Act.put, List.setIfInBounds_toArray, List.set_cons_zero, List.set_cons_succ, Array.toArray_toList]) | (refine wpList_store_mid rfl 38 _ _ rfl _ _ cl rfl rfl t4 hinfL2 hone ?_; simp only [Act.put]))
  have hl5 := H5.out.1
  refine bodyPost_ret (v := .tuple #[.agg cl, .int .i64 0, .int .i64 190]) (by simp [results, Tryz.results33, asAddr, hl5]) rfl ⟨rfl, H5.out.2⟩
end Go.Proofs.YtbhgcioeibhjeaaGreatDoor
namespace Go.Proofs.YtbhgcioeibhjeaaGreatDoor
open Go.RowKit

set_option maxRecDepth 100000 in
set_option maxHeartbeats 2000000 in
theorem k_append_full {Ψ : Nat → Prop} {V0 w W : World} {q p : Nat} {D : Dk} {f e t : Int} (h : LK Ψ V0 w W q p D f e t) (hET : HasET w) (hfew : D.L.length < 900) (v : Value) (l : List UInt8) (hv : BytesOf W v l) (hl : l.length ≤ 60000) (hno : appE D f (recL l).length = 190) :
    Calls Tryz.prog 21 #[.pointer (some ⟨q, 0, none⟩), v] W fun x W' => x = .returned (.tuple #[.int .i64 0, .int .i64 190]) ∧ LK Ψ V0 w W' q p D f e t := by
  obtain ⟨ob, cb, hform⟩ := hv.form
  subst hform
  have HM := Lib.hid (lmayPut_ok q p f e t ob l.length cb W h.log hl)
  have HR := Lib.hid (record_any _ l W hv hl)
  have hq := isErr_eqn
  have hDe : D.app f (recL l) = D := by
    unfold Dk.app
    rw [hno, if_neg (by decide)]
  have HA : Hid (∀ w2 v', NewRow W w2 v' (recL l) → (∃ o c, v' = .slice o (8 + l.length) c) ∧ LogC w2.drew q p f e t ∧ Calls Tryz.prog 14 #[.pointer (some ⟨p, 0, none⟩), .int .i64 f, v'] w2.drew fun x w3 => x = .returned (.int .i64 190) ∧ LK Ψ V0 w w3 q p D f e t) := Lib.hid fun w2 v' hn => by
    have hb : Below W.heap.size W w2.drew := hn.2.drew
    have hB := hn.of (by rw [recL_length]; omega)
    obtain ⟨o, c, hvf⟩ := hB.form
    have h2 := h.below hb
    have hET2 : HasET w2.drew := hET.below h2.bel hET.lt
    refine ⟨⟨o, c, by rw [hvf, recL_length]⟩, h2.log, ?_⟩
    obtain ⟨Φ, k1, k2, k3, k4, k5, k6, k7⟩ := h2
    have hB2 : BytesOf w2.drew v' (recL l) := hB.keep ((Below.refl _ w2).drew) (Nat.le_refl _)
    refine (Append_any k1 k2.size k3 hfew hET2 f v' (recL l) hB2.bt).mono ?_
    rintro x w3 ⟨x0, Φ', j1, j2⟩
    rw [hno] at x0
    rw [hDe] at j1
    exact ⟨x0, LK.turn k7 k1 k2 k4 k5 k6 j1 j2 k3⟩
  clear h hET hfew hv hno hDe
  generalize recL l = rl at *
  generalize l.length = n at *
  go_enter Tryz.func21, Tryz.ntmps21
  go_upto_region 5 with (first | (go_at_call 49; with_reducible refine HM.out.mono ?_; rintro x w1 ⟨rfl, rfl⟩) | (go_at_call 50; with_reducible refine HR.out.mono ?_; rintro x w2 ⟨v', rfl, hr⟩; obtain ⟨hvv, hlc, hca⟩ := HA.out w2 v' hr; obtain ⟨o, c, hvf⟩ := hvv; subst hvf; have HC := Lib.hid hca; clear hca hr))
  obtain ⟨c0, c1, c2, c3⟩ := hlc.cells
  go_region_held3 (fun X => X.cell? ⟨q, 0, none⟩ = some (.pointer (some ⟨p, 0, none⟩)) ∧ X.cell? ⟨q, 1, none⟩ = some (.int .i64 f)) (first | exact ⟨c0, c1⟩ | assumption)
    (first | (go_at_call 14; with_reducible refine HC.out.mono ?_; rintro x w3 ⟨rfl, hr3⟩; have HR3 := Lib.hid hr3; obtain ⟨d0, d1, d2, d3⟩ := hr3.log.cells; have hS3 := And.intro d0 d1; clear hr3))
  go_wp2_with fail
  go_ret2
  exact ⟨rfl, HR3.out⟩
set_option maxRecDepth 100000 in
set_option maxHeartbeats 2000000 in
theorem Crash_arg {N : Nat} {w : World} {Φ : Nat → Prop} {p : Nat} {D : Dk} (h : DkAt N w Φ p D) (hET : HasET w) (keep torn : Int) (hn : keep < 0 ∨ torn < 0) :
    Calls Tryz.prog 28 #[.pointer (some ⟨p, 0, none⟩), .int .i64 keep, .int .i64 torn] w fun e w' => e = .returned (.int .i64 2) ∧ Below w.heap.size w w' := by
  obtain ⟨mf, ms, V0, U, lv, B, h⟩ := h
  obtain ⟨wn, hwn⟩ : ∃ wn, w.alloc (.cells #[.int .i64 keep, .int .i64 torn] 3) = wn := ⟨_, rfl⟩
  have hbn : Below w.heap.size w wn := by rw [← hwn]; exact (Below.refl _ w).alloc (Nat.le_refl _) _
  have hn1 := h.keep hbn.size (fun k hk => hbn.block k (h.lt k hk).2)
  have hnums : NumsIn wn (some ⟨w.heap.size, 0, none⟩) [keep, torn] := by
    intro j hj
    refine ⟨_, rfl, ?_⟩
    rw [← hwn]
    have hc := lit_cells w [.int .i64 keep, .int .i64 torn] 3 j
    match j, hj with
    | 0, _ => exact hc _ rfl
    | 1, _ => exact hc _ rfl
  have HA := Lib.hid (ask_nums p mf (some ⟨w.heap.size, 0, none⟩) 2 [keep, torn] wn hn1.isDisk hnums (by simp))
  have hall : ([keep, torn].all (fun x => decide (0 ≤ x))) = false := by
    rcases hn with h | h
    · simp; intro h2; omega
    · simp; intro h2; omega
  rw [hall] at HA
  have HA := Lib.hid (HA.out.mono (fun e w' he => Told.err he (by decide)))
  have HE := Lib.hid (fun (w1 : World) (b : Nat) (n : Int) (hw : Below w.heap.size w w1) (hc : w1.cell? ⟨b, 1, none⟩ = some (.int .i64 n)) => errno_err b n w1 (hET.below hw hET.lt) hc)
  have hq := isErr_ne
  have HBN := Lib.hid hbn
  clear h hn1 hbn hnums hall hn hET
  go_enter Tryz.func28, Tryz.ntmps28
  go_wp2_with (first | (go_at_call 58; refine HA.out.mono ?_; rintro e w1 ⟨b, rfl, hb, hc, hbw⟩) | (go_at_call 40; refine (HE.out w1 b 2 (HBN.out.trans (hbw.mono HBN.out.size)) hc).mono ?_; rintro e w2 ⟨rfl, hb2⟩))
  go_ret
  have hB1 := HBN.out.trans (hbw.mono HBN.out.size)
  exact ⟨rfl, hB1.trans (hb2.mono hB1.size)⟩
end Go.Proofs.YtbhgcioeibhjeaaGreatDoor
