/-
  swingbridgelaw09.act: Append.
-/
import Derived.Test.YtlnemefegkjjiaaDoorDActA
namespace Go.Proofs.YtlnemefegkjjiaaDoor
open Go.RowKit

set_option maxRecDepth 1000000 in
set_option maxHeartbeats 4000000 in
theorem act_app1 {w W0 : World} {p : Nat} {D : Dk} {hv : Value} {H : List (List UInt8)} (h : HRun w W0 p D hv H) (hET : HasET w) (hfew : D.L.length < 900) (c : Array Value) (hc : ZD c) (wh fi nn tn : Int) (bs : Value) (l0 : List UInt8) (hbt : BtAt W0 bs l0) (hw : wh = 1) :
    Calls Tryd.prog 8 #[.pointer (some ⟨p, 0, none⟩), .agg c, .agg #[.int .i64 wh, .int .i64 fi, .int .i64 nn, .int .i64 tn, bs]] W0 (ActP w (D.app fi l0) hv H) := by
  subst hw
  obtain ⟨oa, cap, hbs, _⟩ := id hbt
  subst hbs
  obtain ⟨w1, hw1⟩ : ∃ w1, W0.alloc (.cells c 37) = w1 := ⟨_, rfl⟩
  have hz1 : w1.heap.size = W0.heap.size + 1 := by rw [← hw1]; simp
  obtain ⟨w2, hw2⟩ : ∃ w2, w1.alloc (.cells #[.int .i64 1, .int .i64 fi, .int .i64 nn, .int .i64 tn, (.slice oa l0.length cap)] 33) = w2 := ⟨_, rfl⟩
  have hz2 : w2.heap.size = W0.heap.size + 2 := by rw [← hw2, World.size_alloc, hz1]
  obtain ⟨w3, hw3⟩ : ∃ w3, w2.alloc (.cells Tryd.zeroCells37 37) = w3 := ⟨_, rfl⟩
  have hT := TB.start W0 c Tryd.zeroCells37 zeroC_size 1 fi nn tn (.slice oa l0.length cap)
  rw [hw1, hw2, hw3] at hT
  obtain ⟨hr, ht, x0, x1, x2, x4⟩ := hT.facts
  have hu := Tryd.underlying37
  have hinf : (Tryd.prog.info? 37).map (·.size) = some c.toList.length := by rw [Array.length_toList, hc.size]; exact info66
  have hcc : c.toList.toArray = c := Array.toArray_toList
  have hlt3 := hT.three
  have hb3 := hT.below
  have HT3 := Lib.hid hT
  have HR := Lib.hid (fun w => rApp_any c hc fi ⟨l0.toArray⟩ w)
  have H6 : Hid (∀ (w4 w5 w6 : World) (l : List Value), Below w3.heap.size w3 w4 → w4.alloc (.cells Tryd.zeroCells37 37) = w5 → w5.setCells w4.heap.size 0 l = w6 → l.length = 66 → w5.there w4.heap.size 0 l.toArray.size ∧ TB W0 w6 c 1 fi nn tn (.slice oa l0.length cap) ∧ w6.rangeAt w4.heap.size 0 l ∧ w4.heap.size < w6.heap.size ∧ w3.heap.size ≤ w4.heap.size) := Lib.hid fun w4 w5 w6 l h1 h2 h3 h4 => by
    have hn : w5.heap[w4.heap.size]? = some (.cells Tryd.zeroCells37 37 (0, 0)) := by rw [← h2]; exact heap_alloc_at w4 _
    have hb5 : Below w4.heap.size w4 w5 := by rw [← h2]; exact (Below.refl _ w4).alloc (Nat.le_refl _) _
    have hth : w5.there w4.heap.size 0 66 := there_of hn _ (by rw [zeroC_size]; exact Nat.le_refl _)
    have hb6 : Below w4.heap.size w4 w6 := by rw [← h3]; exact below_setCellsD (Nat.le_refl _) l 0 hb5
    have hsz6 : w6.heap.size = w4.heap.size + 1 := by rw [← h3, size_setCells, ← h2]; simp
    have e66 : l.toArray.size = 66 := by simp [h4]
    refine ⟨by rw [e66]; exact hth, hT.keep (h1.trans (hb6.mono h1.size)), ?_, by omega, h1.size⟩
    rw [← h3]
    exact World.rangeAt_setCells_same w5 _ 0 l (by rw [h4]; exact hth)
  have HH := Lib.hid (And.intro h (And.intro hET hbt))
  have hcv := bt_string (hbt.keep hb3)
  clear h hET hbt hT hb3 hlt3
  go_enter Tryd.func8, Tryd.ntmps8
  go_upto_region 6 with (first | (refine wpList_load_mid rfl 37 _ rfl _ _ rfl _ _ hr hu rfl hinf ?_; simp only [Act.put, hcc, List.setIfInBounds_toArray, List.set_cons_zero, List.set_cons_succ]) | (go_at_call 17; refine (HR.out _).mono ?_; rintro e w4 ⟨l, n, rfl, hl, hone, hb4⟩; obtain ⟨w5, hw5⟩ : ∃ w5, w4.alloc (.cells Tryd.zeroCells37 37) = w5 := ⟨_, rfl⟩; obtain ⟨w6, hw6⟩ : ∃ w6, w5.setCells w4.heap.size 0 l = w6 := ⟨_, rfl⟩; obtain ⟨ht5, hT6, hr6, hlt6, hle6⟩ := H6.out w4 w5 w6 l hb4 hw5 hw6 hl; have hinf5 : (Tryd.prog.info? 37).map (·.size) = some l.toArray.size := (by rw [show l.toArray.size = 66 by simp [hl]]; exact info66); have hone5 := all_oneCell_toArray hone) | (have := ht5; refine wpList_store_mid rfl 37 _ _ rfl _ _ l.toArray rfl rfl ht5 hinf5 hone5 ?_; simp only [Act.put, hw6]))
  obtain ⟨hr0, ht6, y0, y1, y2, y4⟩ := hT6.facts
  have hF := HH.out.1.frame (hT6.below.drew)
  have HC := Lib.hid (f_app hF HH.out.2.1 hfew fi (.slice oa l0.length cap) l0 (HH.out.2.2.keep (hT6.below.drew)))
  obtain ⟨ae, hae⟩ : ∃ ae, appE D fi l0.length = ae := ⟨_, rfl⟩
  rw [hae] at HC
  have hlt7 := hT6.three
  have hle7 := hT6.below.size
  have hlt8 := HT3.out.three
  have hS0 : w6.drew.rangeAt w4.heap.size 0 l ∧ w6.drew.there (W0.heap.size + 2) 0 66 ∧ w6.drew.cell? ⟨W0.heap.size + 1, 1, none⟩ = some (.int .i64 fi) ∧ w6.drew.cell? ⟨W0.heap.size + 1, 4, none⟩ = some (.slice oa l0.length cap) := ⟨hr6, ht6, y1, y4⟩
  have HS : Hid (∀ W : World, Kept W0.heap.size w6.drew.heap.size w6.drew W → W.rangeAt w4.heap.size 0 l ∧ W.there (W0.heap.size + 2) 0 66 ∧ W.cell? ⟨W0.heap.size + 1, 1, none⟩ = some (.int .i64 fi) ∧ W.cell? ⟨W0.heap.size + 1, 4, none⟩ = some (.slice oa l0.length cap)) := Lib.hid fun W hk => ⟨range_kept hS0.1 hk (by omega) hlt6, there_kept hS0.2.1 hk (by omega) (by show W0.heap.size + 2 < w6.heap.size; omega), (World.cell?_of_block (hk _ (by show W0.heap.size ≤ W0.heap.size + 1; omega) (by show W0.heap.size + 1 < w6.heap.size; omega))).trans hS0.2.2.1, (World.cell?_of_block (hk _ (by show W0.heap.size ≤ W0.heap.size + 1; omega) (by show W0.heap.size + 1 < w6.heap.size; omega))).trans hS0.2.2.2⟩
  have hne : ∀ (W : World) (k : Nat), (W.setCells (W0.heap.size + 2) 0 l).cell? ⟨W0.heap.size + 1, k, none⟩ = W.cell? ⟨W0.heap.size + 1, k, none⟩ := fun W k => World.cell?_setCells_out _ _ _ _ _ (fun e => absurd (show W0.heap.size + 1 = W0.heap.size + 2 from e) (by omega))
  have HT : Hid (∀ W : World, W.rangeAt w4.heap.size 0 l ∧ W.there (W0.heap.size + 2) 0 66 ∧ W.cell? ⟨W0.heap.size + 1, 1, none⟩ = some (.int .i64 fi) ∧ W.cell? ⟨W0.heap.size + 1, 4, none⟩ = some (.slice oa l0.length cap) → (W.setCells (W0.heap.size + 2) 0 l).rangeAt w4.heap.size 0 l ∧ (W.setCells (W0.heap.size + 2) 0 l).there (W0.heap.size + 2) 0 66 ∧ (W.setCells (W0.heap.size + 2) 0 l).cell? ⟨W0.heap.size + 1, 1, none⟩ = some (.int .i64 fi) ∧ (W.setCells (W0.heap.size + 2) 0 l).cell? ⟨W0.heap.size + 1, 4, none⟩ = some (.slice oa l0.length cap)) := Lib.hid fun W hk => ⟨World.rangeAt_setCells_apart hk.1 _ _ _ (.inl (by omega)), World.there_setCells hk.2.1 _ _ _, (hne W 1).trans hk.2.2.1, (hne W 4).trans hk.2.2.2⟩
  have HE : Hid (∀ (W : World), HRunF w W p (D.app fi l0) hv H W0.heap.size w6.drew.heap.size → W.there (W0.heap.size + 2) 0 66 → HRun w (W.setCells (W0.heap.size + 2) 0 l) p (D.app fi l0) hv H ∧ (loadVar 37 ⟨W0.heap.size + 2, 0, none⟩).run Tryd.prog (W.setCells (W0.heap.size + 2) 0 l) = .ok (.agg l.toArray) (W.setCells (W0.heap.size + 2) 0 l)) := Lib.hid fun W h1 h2 => ⟨(h1.setCells (b := W0.heap.size + 2) (by omega) (by show W0.heap.size + 2 < w6.heap.size; omega) l).run, told66 h2 hl⟩
  have hinf6 : (Tryd.prog.info? 37).map (·.size) = some l.length := by rw [hl]; exact info66
  clear hr ht x0 x1 x2 x4 hinf hcc H6 HR HH HT3 hr0 y0 y1 y2 y4 hF hae hlt7 hle7 hlt8 hT6 hr6 ht6 hcv ht5 hw5 hw6 hb4 hle6 hlt6 hw1 hw2 hw3 hz1 hz2 hne
  -- BEGIN hand_actB
  refine wp_region_held_drew (S := fun W => W.rangeAt w4.heap.size 0 l ∧ W.there (W0.heap.size + 2) 0 66 ∧ W.cell? ⟨W0.heap.size + 1, 1, none⟩ = some (.int .i64 fi) ∧ W.cell? ⟨W0.heap.size + 1, 4, none⟩ = some (.slice oa l0.length cap)) (by kernel_rfl) ?_ (fun hHeld => ?_)
  · exact hS0
  refine wpAnyH_take (i := 0) (oi := { dst := some 31, op := Go.Op.move (Go.Operand.tmp 0), type := 25, pos := "law.go:53", after := #[], guard := none }) (v := ?v0b) rfl (by kernel_rfl) (by kernel_rfl) (by kernel_rfl) (fun _ _ _ h => h) (Or.inl ⟨by rfl, ?hy0b⟩) hHeld ?rest0b
  case hy0b => (intro W hSw; (try dsimp only at hSw); go_simp; try with_reducible rfl)
  try simp only [Act.put, List.setIfInBounds_toArray, List.set_cons_zero, List.set_cons_succ]
  refine wpAnyH_take (i := 1) (oi := { dst := some 32, op := Go.Op.load 37 (Go.Operand.tmp 9), type := 37, pos := "law.go:53", after := #[{ on := 11, ground := Go.Ground.gcOnly Go.Departure.lateStores }], guard := none }) (v := _) rfl (by kernel_rfl) (by kernel_rfl) (by kernel_rfl) (fun _ _ _ h => h) (yieldsIf_load_mid (by rfl) 37 _ rfl _ _ rfl _ _ (fun W hSw => hSw.1) hu rfl hinf6) hHeld ?_
  try simp only [Act.put, List.setIfInBounds_toArray, List.set_cons_zero, List.set_cons_succ]
  refine wpAnyH_take (i := 2) (oi := { dst := some 33, op := Go.Op.move (Go.Operand.tmp 0), type := 25, pos := "law.go:53", after := #[], guard := none }) (v := ?v2b) rfl (by kernel_rfl) (by kernel_rfl) (by kernel_rfl) (fun _ _ _ h => h) (Or.inl ⟨by rfl, ?hy2b⟩) hHeld ?rest2b
  case hy2b => (intro W hSw; (try dsimp only at hSw); go_simp; try with_reducible rfl)
  try simp only [Act.put, List.setIfInBounds_toArray, List.set_cons_zero, List.set_cons_succ]
  refine wpAnyH_take (i := 3) (oi := { dst := some 34, op := Go.Op.fieldAddr 33 (Go.Operand.tmp 5) 1, type := 0, pos := "law.go:53", after := #[], guard := none }) (v := ?v3b) rfl (by kernel_rfl) (by kernel_rfl) (by kernel_rfl) (fun _ _ _ h => h) (Or.inl ⟨by rfl, ?hy3b⟩) hHeld ?rest3b
  case hy3b => (intro W hSw; (try dsimp only at hSw); go_simp; try with_reducible rfl)
  try simp only [Act.put, List.setIfInBounds_toArray, List.set_cons_zero, List.set_cons_succ]
  refine wpAnyH_take (i := 4) (oi := { dst := some 35, op := Go.Op.load 3 (Go.Operand.tmp 34), type := 3, pos := "law.go:53", after := #[{ on := 3, ground := Go.Ground.data }], guard := none }) (v := ?v4b) rfl (by kernel_rfl) (by kernel_rfl) (by kernel_rfl) (fun _ _ _ h => h) (Or.inl ⟨by rfl, ?hy4b⟩) hHeld ?rest4b
  case hy4b => (intro W hSw; (try dsimp only at hSw); go_simp; try with_reducible rfl)
  try simp only [Act.put, List.setIfInBounds_toArray, List.set_cons_zero, List.set_cons_succ]
  refine wpAnyH_take (i := 5) (oi := { dst := some 36, op := Go.Op.fieldAddr 33 (Go.Operand.tmp 5) 4, type := 0, pos := "law.go:53", after := #[], guard := none }) (v := ?v5b) rfl (by kernel_rfl) (by kernel_rfl) (by kernel_rfl) (fun _ _ _ h => h) (Or.inl ⟨by rfl, ?hy5b⟩) hHeld ?rest5b
  case hy5b => (intro W hSw; (try dsimp only at hSw); go_simp; try with_reducible rfl)
  try simp only [Act.put, List.setIfInBounds_toArray, List.set_cons_zero, List.set_cons_succ]
  refine wpAnyH_take (i := 6) (oi := { dst := some 37, op := Go.Op.load 31 (Go.Operand.tmp 36), type := 31, pos := "law.go:53", after := #[{ on := 5, ground := Go.Ground.data }], guard := none }) (v := ?v6b) rfl (by kernel_rfl) (by kernel_rfl) (by kernel_rfl) (fun _ _ _ h => h) (Or.inl ⟨by rfl, ?hy6b⟩) hHeld ?rest6b
  case hy6b => (intro W hSw; (try dsimp only at hSw); go_simp; try with_reducible rfl)
  try simp only [Act.put, List.setIfInBounds_toArray, List.set_cons_zero, List.set_cons_succ]
  refine wpAnyH_take (i := 9) (oi := { dst := some 40, op := Go.Op.move (Go.Operand.tmp 10), type := 3, pos := "law.go:53", after := #[{ on := 12, ground := Go.Ground.gcOnly Go.Departure.lateStores }], guard := none }) (v := ?v9b) rfl (by kernel_rfl) (by kernel_rfl) (by kernel_rfl) (fun _ _ _ h => h) (Or.inl ⟨by rfl, ?hy9b⟩) hHeld ?rest9b
  case hy9b => (intro W hSw; (try dsimp only at hSw); go_simp; try with_reducible rfl)
  try simp only [Act.put, List.setIfInBounds_toArray, List.set_cons_zero, List.set_cons_succ]
  refine wpAnyH_ready (rs := [7]) (by kernel_rfl) (by simp) ?_
  refine AllReadyH.cons (o := { dst := some 38, op := Go.Op.call { callee := Go.Callee.value (Go.Operand.func 13), args := #[Go.Operand.tmp 33, Go.Operand.tmp 35, Go.Operand.tmp 37], argTypes := #[25, 3, 31] }, type := 26, pos := "law.go:53", after := #[{ on := 2, ground := Go.Ground.data }, { on := 4, ground := Go.Ground.data }, { on := 6, ground := Go.Ground.data }], guard := none }) rfl (fun K hK => ?_) AllReadyH.nil
  go_simp
  go_at_call 13
  refine (HC.out).mono ?_
  rintro e w7 ⟨rfl, hf7, hk7⟩
  refine hK.out _ _ (HS.out w7 hk7) (fun hHeld' => ?_)
  clear hK K hHeld
  have hHeld := hHeld'
  clear hHeld'
  try simp only [Act.put, List.setIfInBounds_toArray, List.set_cons_zero, List.set_cons_succ]
  have HF7 := Lib.hid hf7
  clear hf7 hk7
  have hHt := hHeld.2.1
  refine wpAnyH_ready (rs := [8]) (by kernel_rfl) (by simp) ?_
  refine AllReadyH.cons (o := { dst := some 39, op := Go.Op.call { callee := Go.Callee.value (Go.Operand.func 7), args := #[Go.Operand.tmp 38], argTypes := #[26] }, type := 3, pos := "law.go:53", after := #[{ on := 7, ground := Go.Ground.data }, { on := 7, ground := Go.Ground.chain }], guard := none }) rfl (fun K hK => ?_) AllReadyH.nil
  go_simp
  go_at_call 7
  refine (lnum_any _ _).mono ?_
  rintro e w8 ⟨rfl, rfl⟩
  refine hK.out _ _ (hHeld) (fun hHeld' => ?_)
  clear hK K hHeld
  have hHeld := hHeld'
  clear hHeld'
  try simp only [Act.put, List.setIfInBounds_toArray, List.set_cons_zero, List.set_cons_succ]
  refine wpAnyH_take (i := 10) (oi := { dst := some 41, op := Go.Op.binOp Go.BinOp.eql 3 (Go.Operand.tmp 39) (Go.Operand.tmp 40) 3, type := 4, pos := "law.go:53", after := #[{ on := 8, ground := Go.Ground.data }, { on := 9, ground := Go.Ground.data }, { on := 12, ground := Go.Ground.gcOnly Go.Departure.lateStores }], guard := none }) (v := ?v10b) rfl (by kernel_rfl) (by kernel_rfl) (by kernel_rfl) (fun _ _ _ h => h) (Or.inl ⟨by rfl, ?hy10b⟩) hHeld ?rest10b
  case hy10b => (intro W hSw; (try dsimp only at hSw); go_simp; try with_reducible rfl)
  try simp only [Act.put, List.setIfInBounds_toArray, List.set_cons_zero, List.set_cons_succ]
  refine wpAnyH_take (i := 11) (oi := { dst := some 6, op := Go.Op.assign (Go.Operand.tmp 31), type := 25, pos := "law.go:53", after := #[{ on := 0, ground := Go.Ground.data }, { on := 8, ground := Go.Ground.chain }, { on := 0, ground := Go.Ground.phase }, { on := 1, ground := Go.Ground.textOnly Go.Departure.lateStores }, { on := 2, ground := Go.Ground.textOnly Go.Departure.lateStores }, { on := 3, ground := Go.Ground.textOnly Go.Departure.lateStores }, { on := 4, ground := Go.Ground.textOnly Go.Departure.lateStores }, { on := 5, ground := Go.Ground.textOnly Go.Departure.lateStores }, { on := 6, ground := Go.Ground.textOnly Go.Departure.lateStores }, { on := 7, ground := Go.Ground.textOnly Go.Departure.lateStoresUnsure }, { on := 8, ground := Go.Ground.textOnly Go.Departure.lateStoresUnsure }, { on := 9, ground := Go.Ground.textOnly Go.Departure.lateStores }, { on := 10, ground := Go.Ground.textOnly Go.Departure.lateStores }], guard := none }) (v := ?v11b) rfl (by kernel_rfl) (by kernel_rfl) (by kernel_rfl) (fun _ _ _ h => h) (Or.inl ⟨by rfl, ?hy11b⟩) hHeld ?rest11b
  case hy11b => (intro W hSw; (try dsimp only at hSw); go_simp; try with_reducible rfl)
  try simp only [Act.put, List.setIfInBounds_toArray, List.set_cons_zero, List.set_cons_succ]
  refine wpAnyH_ready (rs := [12]) (by kernel_rfl) (by simp) ?_
  refine AllReadyH.cons (o := { dst := none, op := Go.Op.store 37 (Go.Operand.tmp 7) (Go.Operand.tmp 32), type := 0, pos := "law.go:53", after := #[{ on := 1, ground := Go.Ground.data }, { on := 11, ground := Go.Ground.chain }, { on := 0, ground := Go.Ground.phase }, { on := 1, ground := Go.Ground.phase }, { on := 2, ground := Go.Ground.textOnly Go.Departure.lateStores }, { on := 3, ground := Go.Ground.textOnly Go.Departure.lateStores }, { on := 4, ground := Go.Ground.textOnly Go.Departure.lateStores }, { on := 5, ground := Go.Ground.textOnly Go.Departure.lateStores }, { on := 6, ground := Go.Ground.textOnly Go.Departure.lateStores }, { on := 7, ground := Go.Ground.textOnly Go.Departure.lateStoresUnsure }, { on := 8, ground := Go.Ground.textOnly Go.Departure.lateStoresUnsure }, { on := 9, ground := Go.Ground.textOnly Go.Departure.lateStores }, { on := 10, ground := Go.Ground.textOnly Go.Departure.lateStores }, { on := 11, ground := Go.Ground.phase }], guard := none }) rfl (fun K hK => ?_) AllReadyH.nil
  rw [if_pos (by rfl)]
  refine wp_store_mid 37 _ _ rfl _ _ l.toArray rfl rfl (by rw [show l.toArray.size = 66 by simp [hl]]; exact hHeld.2.1) hinf5 hone5 ?_
  refine hK.out _ _ (HT.out _ hHeld) (fun hHeld' => ?_)
  clear hK K hHeld
  have hHeld := hHeld'
  clear hHeld'
  try simp only [Act.put, List.setIfInBounds_toArray, List.set_cons_zero, List.set_cons_succ]
  refine wpAnyH_take (i := 13) (oi := { dst := some 8, op := Go.Op.assign (Go.Operand.tmp 41), type := 4, pos := "law.go:53", after := #[{ on := 10, ground := Go.Ground.data }, { on := 12, ground := Go.Ground.chain }, { on := 0, ground := Go.Ground.phase }, { on := 1, ground := Go.Ground.phase }, { on := 2, ground := Go.Ground.phase }, { on := 3, ground := Go.Ground.phase }, { on := 4, ground := Go.Ground.phase }, { on := 5, ground := Go.Ground.phase }, { on := 6, ground := Go.Ground.phase }, { on := 7, ground := Go.Ground.phase }, { on := 8, ground := Go.Ground.phase }, { on := 9, ground := Go.Ground.phase }, { on := 10, ground := Go.Ground.phase }, { on := 11, ground := Go.Ground.phase }, { on := 12, ground := Go.Ground.phase }], guard := none }) (v := ?v13b) rfl (by kernel_rfl) (by kernel_rfl) (by kernel_rfl) (fun _ _ _ h => h) (Or.inl ⟨by rfl, ?hy13b⟩) hHeld ?rest13b
  case hy13b => (intro W hSw; (try dsimp only at hSw); go_simp; try with_reducible rfl)
  try simp only [Act.put, List.setIfInBounds_toArray, List.set_cons_zero, List.set_cons_succ]
  refine wpAnyH_done (by kernel_rfl) ?_ _
  try dsimp only
  try simp only [Act.put, List.setIfInBounds_toArray, List.set_cons_zero, List.set_cons_succ]
  -- END hand_actB
  go_wp2_with fail
  obtain ⟨hE1, hE2⟩ := HE.out _ HF7.out hHt
  refine bodyPost_ret (v := .tuple #[.pointer (some ⟨p, 0, none⟩), .agg l.toArray, .bool (ae == n)]) (by simp [results, Tryd.results8, asAddr, hE2]) rfl ⟨p, _, _, rfl, hE1⟩
end Go.Proofs.YtlnemefegkjjiaaDoor
