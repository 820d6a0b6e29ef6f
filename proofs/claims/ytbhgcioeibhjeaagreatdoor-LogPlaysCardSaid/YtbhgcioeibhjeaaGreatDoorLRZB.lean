/-
  parts that belong together.
-/
import Derived.Test.YtbhgcioeibhjeaaGreatDoorLRZA
namespace Go.Proofs.YtbhgcioeibhjeaaGreatDoor
open Go.RowKit

/-- from the document's Append on: its log in a box, the program's Append, the end -/
theorem full_boxes {Ξ : Nat → Prop} {w W0 w3 : World} {q p : Nat} {cl : Array Value} {D : Dk} {f : Nat} {t : Int} (h : LS Ξ w W0 q p cl D f t) (hET : HasET w) (hf : f < 64) (hfew : D.L.length < 900) {wh kp tn : Int} {bs : Value} (hT : LB W0 w3 cl wh kp tn bs) (l : List UInt8) (hbt : BytesOf W0 bs l) (hl : l.length ≤ 60) (hno : D.left < ((recL l).length : Nat)) :
    ∀ w4, Below w3.heap.size w3 w4 → (w4.alloc (.cells Tryz.zeroCells38 38)).there w4.heap.size 0 cl.size ∧ (Tryz.prog.info? 38).map (·.size) = some cl.toList.length ∧ (Tryz.prog.info? 38).map (·.size) = some cl.size ∧ cl.all (·.oneCell') = true ∧ ∃ w6, (w4.alloc (.cells Tryz.zeroCells38 38)).setCells w4.heap.size 0 cl.toList = w6 ∧ w6.cell? ⟨W0.heap.size + 1, 3, none⟩ = some bs ∧ Hid (∀ V : World, V.rangeAt w4.heap.size 0 cl.toList ∧ V.there (W0.heap.size + 2) 0 cl.size → (V.setCells (W0.heap.size + 2) 0 cl.toList).rangeAt w4.heap.size 0 cl.toList ∧ (V.setCells (W0.heap.size + 2) 0 cl.toList).there (W0.heap.size + 2) 0 cl.size) ∧ Hid (Calls Tryz.prog 21 #[.pointer (some ⟨q, 0, none⟩), bs] w6 fun x w7 => x = .returned (.tuple #[.int .i64 0, .int .i64 190]) ∧ Hid (∀ V, Below w7.heap.size w7 V → (V.rangeAt w4.heap.size 0 cl.toList ∧ V.there (W0.heap.size + 2) 0 cl.size) ∧ (loadVar 38 ⟨W0.heap.size + 2, 0, none⟩).run Tryz.prog (V.setCells (W0.heap.size + 2) 0 cl.toList) = .ok (.agg cl) (V.setCells (W0.heap.size + 2) 0 cl.toList) ∧ LS Ξ w (V.setCells (W0.heap.size + 2) 0 cl.toList) q p cl D f t ∧ ∀ k, Ξ k → (V.setCells (W0.heap.size + 2) 0 cl.toList).heap[k]? = W0.heap[k]?)) := by
  intro w4 hb4
  have hs3 : W0.heap.size + 3 ≤ w3.heap.size := by have := hT.b2.lt; omega
  have hs4 := hb4.size
  have hT4 := hT.keep hb4
  have hr4 : RLg w4 cl D f t := (h.keep hT4.below).ref
  have hwW := h.run.bel.size
  have hba : Below w4.heap.size w4 (w4.alloc (.cells Tryz.zeroCells38 38)) := (Below.refl _ w4).alloc (Nat.le_refl _) _
  have hL5 : LBox (w4.alloc (.cells Tryz.zeroCells38 38)) w4.heap.size Tryz.zeroCells38 := heap_alloc_at w4 _
  have hz5 : (w4.alloc (.cells Tryz.zeroCells38 38)).heap.size = w4.heap.size + 1 := by simp
  have hr5 := hr4.keep hba
  obtain ⟨w6, hw6⟩ : ∃ w6, (w4.alloc (.cells Tryz.zeroCells38 38)).setCells w4.heap.size 0 cl.toList = w6 := ⟨_, rfl⟩
  have hb6 : Below w4.heap.size w4 w6 := by rw [← hw6]; exact below_setCellsr (Nat.le_refl _) _ _ hba
  have hL6 : LBox w6 w4.heap.size cl := by rw [← hw6]; exact hL5.store (hr4.size.trans zeroL_size.symm)
  have hr6 : RLg w6 cl D f t := by rw [← hw6]; exact hr5.store (.inr hL5)
  have hT6 := hT4.keep hb6
  refine ⟨(hL5.told zeroL_size hr4.size).1, by rw [Array.length_toList, hr4.size]; exact info68, by rw [hr4.size]; exact info68, hr4.one, w6, hw6, hT6.a3, Lib.hid (fun V hk => ⟨World.rangeAt_setCells_apart hk.1 _ _ _ (.inl (by omega)), World.there_setCells hk.2 _ _ _⟩), Lib.hid ?_⟩
  have hlt6 := hL6.lt
  have hK : LK (fun k => (rowAt cl k ∨ Ξ k) ∨ W0.heap.size ≤ k ∧ k < w6.heap.size) w6 w w6 q p D f ((D.F f).length : Nat) t := h.run.grow hT6.below (fun k hk => hk.elim (fun h0 => ⟨Nat.lt_of_lt_of_le (h.lt h0) hT6.below.size, .inl h0⟩) (fun h0 => ⟨h0.2, .inr h0.1⟩))
  have hrec : appE D f (recL l).length = 190 := by
    unfold appE
    rw [if_neg (by omega), if_pos hno]
  refine (k_append_full hK hET hfew bs l (hbt.keep hT6.below (Nat.le_refl _)) (by omega) hrec).mono ?_
  rintro x w7 ⟨rfl, hK7⟩
  refine ⟨rfl, Lib.hid fun V hV => ?_⟩
  have hf7 := hK7.frame
  have hr7 : RLg w7 cl D f t := hr6.framed (fun g hg' => (hf7 g (.inl (.inl hg'))).2)
  have hL7 : LBox w7 w4.heap.size cl := (hf7 _ (.inr ⟨by omega, hlt6⟩)).2.trans hL6
  have hZ7 : LBox w7 (W0.heap.size + 2) Tryz.zeroCells38 := (hf7 _ (.inr ⟨by omega, by omega⟩)).2.trans hT6.b2
  have hZV := hZ7.keep hV
  refine ⟨⟨(hL7.keep hV).range, (hZV.told zeroL_size hr4.size).1⟩, (hZV.told zeroL_size hr4.size).2, ?_⟩
  refine ⟨LS.of (hK7.below hV) (hr7.keep hV) h.good (fun g hg' => .inl hg') (b := W0.heap.size + 2) (.inr ⟨by omega, by omega⟩) (by omega) hZV cl, fun k hk => ?_⟩
  have hk0 := h.lt (.inr hk)
  have hk7 := hf7 k (.inl (.inr hk))
  rw [heap_setCellsr _ _ _ _ _ (by omega), hV.block k hk7.1, hk7.2]
  exact hT6.below.block k hk0
end Go.Proofs.YtbhgcioeibhjeaaGreatDoor
namespace Go.Proofs.YtbhgcioeibhjeaaGreatDoor
open Go.RowKit

set_option maxRecDepth 1000000 in
set_option maxHeartbeats 8000000 in
theorem act_app_full0 {Ξ : Nat → Prop} {w W0 : World} {q p : Nat} {cl : Array Value} {D : Dk} {f : Nat} {t : Int} (h : LS Ξ w W0 q p cl D f t) (hET : HasET w) (hf : f < 64) (hfew : D.L.length < 900) (kp tn : Int) (bs : Value) (l : List UInt8) (hbt : BytesOf W0 bs l) (hl : l.length ≤ 60) (hno : D.left < ((recL l).length : Nat)) :
    Calls Tryz.prog 12 #[.pointer (some ⟨q, 0, none⟩), .pointer (some ⟨p, 0, none⟩), .agg cl, .agg #[.int .i64 0, .int .i64 kp, .int .i64 tn, bs]] W0 (ActPost Ξ w W0 p D f) := by
  obtain ⟨ob, cb, hform⟩ := hbt.form
  subst hform
  obtain ⟨w3, hw3⟩ : ∃ w3, ((W0.alloc (.cells cl 38)).alloc (.cells #[.int .i64 0, .int .i64 kp, .int .i64 tn, .slice ob l.length cb] 45)).alloc (.cells Tryz.zeroCells38 38) = w3 := ⟨_, rfl⟩
  have hT : LB W0 w3 cl 0 kp tn (.slice ob l.length cb) := by rw [← hw3]; exact LB.start W0 cl 0 kp tn (.slice ob l.length cb)
  have hx0 := hT.a0
  have hx3 := hT.a3
  have hr := hT.b0.range
  have hu := Tryz.underlying38
  have hinf : (Tryz.prog.info? 38).map (·.size) = some cl.toList.length := by rw [Array.length_toList, h.ref.size]; exact info68
  have HR := Lib.hid (rLApp_full (h.keep hT.below).ref h.run.inv hf l (by omega) hno)
  have hcv := bytes_string (hbt.keep hT.below (Nat.le_refl _)).at
  have HP := Lib.hid (full_boxes h hET hf hfew hT l hbt hl hno)
  have hinf4 : (Tryz.prog.info? 38).map (·.size) = some cl.toList.length := hinf
  have hinf4s : (Tryz.prog.info? 38).map (·.size) = some cl.size := by rw [h.ref.size]; exact info68
  have hone4 := h.ref.one
  clear h hET hfew hbt hno hl
  go_enter Tryz.func12, Tryz.ntmps12
  go_upto_region 7 with (first | (refine wpList_load_mid rfl 38 _ rfl _ _ rfl _ _ hr hu rfl hinf ?_; simp only [Act.put, Array.toArray_toList, List.setIfInBounds_toArray, List.set_cons_zero, List.set_cons_succ]) | (go_at_call 33; refine HR.out.mono ?_; rintro e w4 ⟨rfl, hb4⟩; obtain ⟨ht4, _, _, _, w6, hw6, x6, HST, H6⟩ := HP.out w4 hb4; clear hb4) | (refine wpList_store_mid rfl 38 _ _ rfl _ _ cl rfl rfl ht4 hinf4s hone4 ?_; simp only [Act.put]))
  try rw [hw6]
  clear hw6 hr hinf hcv HR HP
  go_upto_region 8 with (first | (go_at_call 21; refine H6.out.mono ?_; rintro e w7 ⟨rfl, H7⟩))
  have hS8 := (H7.out _ ((Below.refl _ w7).drew)).1
  -- BEGIN hand_alB
  refine wp_region_held_drew (S := fun W => W.rangeAt w4.heap.size 0 cl.toList ∧ W.there (W0.heap.size + 2) 0 cl.size) (by kernel_rfl) ?_ (fun hHeld => ?_)
  · exact hS8
  refine wpAnyH_take (i := 0) (oi := { dst := some 50, op := Go.Op.move (Go.Operand.tmp 0), type := 29, pos := "law.go:60", after := #[], guard := none }) (v := ?v0b) rfl (by kernel_rfl) (by kernel_rfl) (by kernel_rfl) (fun _ _ _ h => h) (Or.inl ⟨by rfl, ?hy0b⟩) hHeld ?rest0b
  case hy0b => (intro W hSw; (try dsimp only at hSw); go_simp; try with_reducible rfl)
  try simp only [Act.put, List.setIfInBounds_toArray, List.set_cons_zero, List.set_cons_succ]
  refine wpAnyH_take (i := 1) (oi := { dst := some 51, op := Go.Op.load 38 (Go.Operand.tmp 11), type := 38, pos := "law.go:60", after := #[{ on := 11, ground := Go.Ground.gcOnly Go.Departure.lateStores }], guard := none }) (v := _) rfl (by kernel_rfl) (by kernel_rfl) (by kernel_rfl) (fun _ _ _ h => h) (yieldsIf_load_mid (by rfl) 38 _ rfl _ _ rfl _ _ (fun W hSw => hSw.1) hu rfl hinf4) hHeld ?_
  try simp only [Array.toArray_toList, Act.put, List.setIfInBounds_toArray, List.set_cons_zero, List.set_cons_succ]
  refine wpAnyH_take (i := 2) (oi := { dst := some 52, op := Go.Op.move (Go.Operand.tmp 14), type := 3, pos := "law.go:60", after := #[], guard := none }) (v := ?v2b) rfl (by kernel_rfl) (by kernel_rfl) (by kernel_rfl) (fun _ _ _ h => h) (Or.inl ⟨by rfl, ?hy2b⟩) hHeld ?rest2b
  case hy2b => (intro W hSw; (try dsimp only at hSw); go_simp; try with_reducible rfl)
  try simp only [Act.put, List.setIfInBounds_toArray, List.set_cons_zero, List.set_cons_succ]
  refine wpAnyH_take (i := 3) (oi := { dst := some 53, op := Go.Op.move (Go.Operand.tmp 12), type := 3, pos := "law.go:60", after := #[], guard := none }) (v := ?v3b) rfl (by kernel_rfl) (by kernel_rfl) (by kernel_rfl) (fun _ _ _ h => h) (Or.inl ⟨by rfl, ?hy3b⟩) hHeld ?rest3b
  case hy3b => (intro W hSw; (try dsimp only at hSw); go_simp; try with_reducible rfl)
  try simp only [Act.put, List.setIfInBounds_toArray, List.set_cons_zero, List.set_cons_succ]
  refine wpAnyH_take (i := 4) (oi := { dst := some 54, op := Go.Op.binOp Go.BinOp.eql 3 (Go.Operand.tmp 52) (Go.Operand.tmp 53) 3, type := 4, pos := "law.go:60", after := #[{ on := 2, ground := Go.Ground.data }, { on := 3, ground := Go.Ground.data }], guard := none }) (v := .bool true) rfl (by kernel_rfl) (by kernel_rfl) (by kernel_rfl) (fun _ _ _ h => h) (Or.inl ⟨by rfl, ?hy4b⟩) hHeld ?rest4b
  case hy4b => (intro W hSw; (try dsimp only at hSw); go_simp; try with_reducible rfl)
  try simp only [Act.put, List.setIfInBounds_toArray, List.set_cons_zero, List.set_cons_succ]
  refine wpAnyH_take (i := 5) (oi := { dst := some 55, op := Go.Op.move (Go.Operand.tmp 54), type := 4, pos := "law.go:60", after := #[{ on := 4, ground := Go.Ground.data }], guard := none }) (v := .bool true) rfl (by kernel_rfl) (by kernel_rfl) (by kernel_rfl) (fun _ _ _ h => h) (Or.inl ⟨by rfl, ?hy5b⟩) hHeld ?rest5b
  case hy5b => (intro W hSw; (try dsimp only at hSw); go_simp; try with_reducible rfl)
  try simp only [Act.put, List.setIfInBounds_toArray, List.set_cons_zero, List.set_cons_succ]
  refine wpAnyH_take (i := 6) (oi := { dst := some 56, op := Go.Op.move (Go.Operand.tmp 15), type := 26, pos := "law.go:60", after := #[{ on := 5, ground := Go.Ground.guard }], guard := some (5, true) }) (v := ?v6b) rfl (by kernel_rfl) (by kernel_rfl) (by kernel_rfl) (fun _ _ _ h => h) (Or.inl ⟨by rfl, ?hy6b⟩) hHeld ?rest6b
  case hy6b => (intro W hSw; (try dsimp only at hSw); go_simp; try with_reducible rfl)
  try simp only [Act.put, List.setIfInBounds_toArray, List.set_cons_zero, List.set_cons_succ]
  refine wpAnyH_take (i := 8) (oi := { dst := some 58, op := Go.Op.move (Go.Operand.tmp 13), type := 3, pos := "law.go:60", after := #[{ on := 5, ground := Go.Ground.guard }, { on := 12, ground := Go.Ground.gcOnly Go.Departure.lateStores }], guard := some (5, true) }) (v := ?v8b) rfl (by kernel_rfl) (by kernel_rfl) (by kernel_rfl) (fun _ _ _ h => h) (Or.inl ⟨by rfl, ?hy8b⟩) hHeld ?rest8b
  case hy8b => (intro W hSw; (try dsimp only at hSw); go_simp; try with_reducible rfl)
  try simp only [Act.put, List.setIfInBounds_toArray, List.set_cons_zero, List.set_cons_succ]
  refine wpAnyH_ready (rs := [7]) (by kernel_rfl) (by simp) ?_
  refine AllReadyH.cons (o := { dst := some 57, op := Go.Op.call { callee := Go.Callee.value (Go.Operand.func 9), args := #[Go.Operand.tmp 56], argTypes := #[26] }, type := 3, pos := "law.go:60", after := #[{ on := 6, ground := Go.Ground.data }, { on := 5, ground := Go.Ground.chain }, { on := 5, ground := Go.Ground.guard }], guard := some (5, true) }) rfl (fun K hK => ?_) AllReadyH.nil
  go_simp
  go_at_call 9
  refine (lnum10_any _ _).mono ?_
  rintro e wx ⟨rfl, rfl⟩
  refine hK.out _ _ (hHeld) (fun hHeld' => ?_)
  clear hK K hHeld
  have hHeld := hHeld'
  clear hHeld'
  try simp only [Act.put, List.setIfInBounds_toArray, List.set_cons_zero, List.set_cons_succ]
  refine wpAnyH_take (i := 9) (oi := { dst := some 59, op := Go.Op.binOp Go.BinOp.eql 3 (Go.Operand.tmp 57) (Go.Operand.tmp 58) 3, type := 4, pos := "law.go:60", after := #[{ on := 7, ground := Go.Ground.data }, { on := 8, ground := Go.Ground.data }, { on := 5, ground := Go.Ground.guard }, { on := 12, ground := Go.Ground.gcOnly Go.Departure.lateStores }], guard := some (5, true) }) (v := .bool true) rfl (by kernel_rfl) (by kernel_rfl) (by kernel_rfl) (fun _ _ _ h => h) (Or.inl ⟨by rfl, ?hy9b⟩) hHeld ?rest9b
  case hy9b => (intro W hSw; (try dsimp only at hSw); go_simp; try with_reducible rfl)
  try simp only [Act.put, List.setIfInBounds_toArray, List.set_cons_zero, List.set_cons_succ]
  refine wpAnyH_take (i := 10) (oi := { dst := some 60, op := Go.Op.pick (Go.Operand.tmp 55) (Go.Operand.tmp 59) (Go.Operand.const (Go.Value.bool false)), type := 4, pos := "law.go:60", after := #[{ on := 5, ground := Go.Ground.data }, { on := 9, ground := Go.Ground.data }, { on := 12, ground := Go.Ground.gcOnly Go.Departure.lateStores }], guard := none }) (v := .bool true) rfl (by kernel_rfl) (by kernel_rfl) (by kernel_rfl) (fun _ _ _ h => h) (Or.inl ⟨by rfl, ?hy10b⟩) hHeld ?rest10b
  case hy10b => (intro W hSw; (try dsimp only at hSw); go_simp; try with_reducible rfl)
  try simp only [Act.put, List.setIfInBounds_toArray, List.set_cons_zero, List.set_cons_succ]
  refine wpAnyH_take (i := 11) (oi := { dst := some 8, op := Go.Op.assign (Go.Operand.tmp 50), type := 29, pos := "law.go:60", after := #[{ on := 0, ground := Go.Ground.data }, { on := 7, ground := Go.Ground.chain }, { on := 0, ground := Go.Ground.phase }, { on := 1, ground := Go.Ground.textOnly Go.Departure.lateStores }, { on := 2, ground := Go.Ground.textOnly Go.Departure.lateStores }, { on := 3, ground := Go.Ground.textOnly Go.Departure.lateStores }, { on := 4, ground := Go.Ground.textOnly Go.Departure.lateStores }, { on := 5, ground := Go.Ground.textOnly Go.Departure.lateStores }, { on := 6, ground := Go.Ground.textOnly Go.Departure.lateStores }, { on := 7, ground := Go.Ground.textOnly Go.Departure.lateStoresUnsure }, { on := 8, ground := Go.Ground.textOnly Go.Departure.lateStores }, { on := 9, ground := Go.Ground.textOnly Go.Departure.lateStores }, { on := 10, ground := Go.Ground.textOnly Go.Departure.lateStores }], guard := none }) (v := ?v11b) rfl (by kernel_rfl) (by kernel_rfl) (by kernel_rfl) (fun _ _ _ h => h) (Or.inl ⟨by rfl, ?hy11b⟩) hHeld ?rest11b
  case hy11b => (intro W hSw; (try dsimp only at hSw); go_simp; try with_reducible rfl)
  try simp only [Act.put, List.setIfInBounds_toArray, List.set_cons_zero, List.set_cons_succ]
  refine wpAnyH_ready (rs := [12]) (by kernel_rfl) (by simp) ?_
  refine AllReadyH.cons (o := { dst := none, op := Go.Op.store 38 (Go.Operand.tmp 9) (Go.Operand.tmp 51), type := 0, pos := "law.go:60", after := #[{ on := 1, ground := Go.Ground.data }, { on := 11, ground := Go.Ground.chain }, { on := 0, ground := Go.Ground.phase }, { on := 1, ground := Go.Ground.phase }, { on := 2, ground := Go.Ground.textOnly Go.Departure.lateStores }, { on := 3, ground := Go.Ground.textOnly Go.Departure.lateStores }, { on := 4, ground := Go.Ground.textOnly Go.Departure.lateStores }, { on := 5, ground := Go.Ground.textOnly Go.Departure.lateStores }, { on := 6, ground := Go.Ground.textOnly Go.Departure.lateStores }, { on := 7, ground := Go.Ground.textOnly Go.Departure.lateStoresUnsure }, { on := 8, ground := Go.Ground.textOnly Go.Departure.lateStores }, { on := 9, ground := Go.Ground.textOnly Go.Departure.lateStores }, { on := 10, ground := Go.Ground.textOnly Go.Departure.lateStores }, { on := 11, ground := Go.Ground.phase }], guard := none }) rfl (fun K hK => ?_) AllReadyH.nil
  rw [if_pos (by rfl)]
  refine wp_store_mid 38 _ _ rfl _ _ cl rfl rfl hHeld.2 hinf4s hone4 ?_
  refine hK.out _ _ (HST.out _ hHeld) (fun hHeld' => ?_)
  clear hK K hHeld
  have hHeld := hHeld'
  clear hHeld'
  try simp only [Act.put, List.setIfInBounds_toArray, List.set_cons_zero, List.set_cons_succ]
  refine wpAnyH_take (i := 13) (oi := { dst := some 10, op := Go.Op.assign (Go.Operand.tmp 60), type := 4, pos := "law.go:60", after := #[{ on := 10, ground := Go.Ground.data }, { on := 12, ground := Go.Ground.chain }, { on := 0, ground := Go.Ground.phase }, { on := 1, ground := Go.Ground.phase }, { on := 2, ground := Go.Ground.phase }, { on := 3, ground := Go.Ground.phase }, { on := 4, ground := Go.Ground.phase }, { on := 5, ground := Go.Ground.phase }, { on := 6, ground := Go.Ground.phase }, { on := 7, ground := Go.Ground.phase }, { on := 8, ground := Go.Ground.phase }, { on := 9, ground := Go.Ground.phase }, { on := 10, ground := Go.Ground.phase }, { on := 11, ground := Go.Ground.phase }, { on := 12, ground := Go.Ground.phase }], guard := none }) (v := ?v13b) rfl (by kernel_rfl) (by kernel_rfl) (by kernel_rfl) (fun _ _ _ h => h) (Or.inl ⟨by rfl, ?hy13b⟩) hHeld ?rest13b
  case hy13b => (intro W hSw; (try dsimp only at hSw); go_simp; try with_reducible rfl)
  try simp only [Act.put, List.setIfInBounds_toArray, List.set_cons_zero, List.set_cons_succ]
  refine wpAnyH_done (by kernel_rfl) ?_ _
  try dsimp only
  try simp only [Act.put, List.setIfInBounds_toArray, List.set_cons_zero, List.set_cons_succ]
  -- END hand_alB
  go_wp2_with fail
  have hE := (H7.out _ ((Below.refl _ w7).drew)).2
  refine bodyPost_ret (v := .tuple #[.pointer (some ⟨q, 0, none⟩), .agg cl, .bool true]) (by simp [results, Tryz.results12, asAddr, hE.1]) rfl ⟨q, cl, D, t, rfl, hE.2.1, by omega, hE.2.2⟩
end Go.Proofs.YtbhgcioeibhjeaaGreatDoor
namespace Go.Proofs.YtbhgcioeibhjeaaGreatDoor
open Go.RowKit

set_option maxRecDepth 1000000 in
set_option maxHeartbeats 8000000 in
theorem act_app_full1 {Ξ : Nat → Prop} {w W0 : World} {q p : Nat} {cl : Array Value} {D : Dk} {f : Nat} {t : Int} (h : LS Ξ w W0 q p cl D f t) (hET : HasET w) (hf : f < 64) (hfew : D.L.length < 900) (kp tn : Int) (bs : Value) (l : List UInt8) (hbt : BytesOf W0 bs l) (hl : l.length ≤ 60) (hno : D.left < ((recL l).length : Nat)) :
    Calls Tryz.prog 12 #[.pointer (some ⟨q, 0, none⟩), .pointer (some ⟨p, 0, none⟩), .agg cl, .agg #[.int .i64 1, .int .i64 kp, .int .i64 tn, bs]] W0 (ActPost Ξ w W0 p D f) := by
  obtain ⟨ob, cb, hform⟩ := hbt.form
  subst hform
  obtain ⟨w3, hw3⟩ : ∃ w3, ((W0.alloc (.cells cl 38)).alloc (.cells #[.int .i64 1, .int .i64 kp, .int .i64 tn, .slice ob l.length cb] 45)).alloc (.cells Tryz.zeroCells38 38) = w3 := ⟨_, rfl⟩
  have hT : LB W0 w3 cl 1 kp tn (.slice ob l.length cb) := by rw [← hw3]; exact LB.start W0 cl 1 kp tn (.slice ob l.length cb)
  have hx0 := hT.a0
  have hx3 := hT.a3
  have hr := hT.b0.range
  have hu := Tryz.underlying38
  have hinf : (Tryz.prog.info? 38).map (·.size) = some cl.toList.length := by rw [Array.length_toList, h.ref.size]; exact info68
  have HR := Lib.hid (rLApp_full (h.keep hT.below).ref h.run.inv hf l (by omega) hno)
  have hcv := bytes_string (hbt.keep hT.below (Nat.le_refl _)).at
  have HP := Lib.hid (full_boxes h hET hf hfew hT l hbt hl hno)
  have hinf4 : (Tryz.prog.info? 38).map (·.size) = some cl.toList.length := hinf
  have hinf4s : (Tryz.prog.info? 38).map (·.size) = some cl.size := by rw [h.ref.size]; exact info68
  have hone4 := h.ref.one
  clear h hET hfew hbt hno hl
  go_enter Tryz.func12, Tryz.ntmps12
  go_upto_region 7 with (first | (refine wpList_load_mid rfl 38 _ rfl _ _ rfl _ _ hr hu rfl hinf ?_; simp only [Act.put, Array.toArray_toList, List.setIfInBounds_toArray, List.set_cons_zero, List.set_cons_succ]) | (go_at_call 33; refine HR.out.mono ?_; rintro e w4 ⟨rfl, hb4⟩; obtain ⟨ht4, _, _, _, w6, hw6, x6, HST, H6⟩ := HP.out w4 hb4; clear hb4) | (refine wpList_store_mid rfl 38 _ _ rfl _ _ cl rfl rfl ht4 hinf4s hone4 ?_; simp only [Act.put]))
  try rw [hw6]
  clear hw6 hr hinf hcv HR HP
  go_upto_region 8 with (first | (go_at_call 21; refine H6.out.mono ?_; rintro e w7 ⟨rfl, H7⟩))
  have hS8 := (H7.out _ ((Below.refl _ w7).drew)).1
  -- BEGIN hand_alB
  refine wp_region_held_drew (S := fun W => W.rangeAt w4.heap.size 0 cl.toList ∧ W.there (W0.heap.size + 2) 0 cl.size) (by kernel_rfl) ?_ (fun hHeld => ?_)
  · exact hS8
  refine wpAnyH_take (i := 0) (oi := { dst := some 50, op := Go.Op.move (Go.Operand.tmp 0), type := 29, pos := "law.go:60", after := #[], guard := none }) (v := ?v0b) rfl (by kernel_rfl) (by kernel_rfl) (by kernel_rfl) (fun _ _ _ h => h) (Or.inl ⟨by rfl, ?hy0b⟩) hHeld ?rest0b
  case hy0b => (intro W hSw; (try dsimp only at hSw); go_simp; try with_reducible rfl)
  try simp only [Act.put, List.setIfInBounds_toArray, List.set_cons_zero, List.set_cons_succ]
  refine wpAnyH_take (i := 1) (oi := { dst := some 51, op := Go.Op.load 38 (Go.Operand.tmp 11), type := 38, pos := "law.go:60", after := #[{ on := 11, ground := Go.Ground.gcOnly Go.Departure.lateStores }], guard := none }) (v := _) rfl (by kernel_rfl) (by kernel_rfl) (by kernel_rfl) (fun _ _ _ h => h) (yieldsIf_load_mid (by rfl) 38 _ rfl _ _ rfl _ _ (fun W hSw => hSw.1) hu rfl hinf4) hHeld ?_
  try simp only [Array.toArray_toList, Act.put, List.setIfInBounds_toArray, List.set_cons_zero, List.set_cons_succ]
  refine wpAnyH_take (i := 2) (oi := { dst := some 52, op := Go.Op.move (Go.Operand.tmp 14), type := 3, pos := "law.go:60", after := #[], guard := none }) (v := ?v2b) rfl (by kernel_rfl) (by kernel_rfl) (by kernel_rfl) (fun _ _ _ h => h) (Or.inl ⟨by rfl, ?hy2b⟩) hHeld ?rest2b
  case hy2b => (intro W hSw; (try dsimp only at hSw); go_simp; try with_reducible rfl)
  try simp only [Act.put, List.setIfInBounds_toArray, List.set_cons_zero, List.set_cons_succ]
  refine wpAnyH_take (i := 3) (oi := { dst := some 53, op := Go.Op.move (Go.Operand.tmp 12), type := 3, pos := "law.go:60", after := #[], guard := none }) (v := ?v3b) rfl (by kernel_rfl) (by kernel_rfl) (by kernel_rfl) (fun _ _ _ h => h) (Or.inl ⟨by rfl, ?hy3b⟩) hHeld ?rest3b
  case hy3b => (intro W hSw; (try dsimp only at hSw); go_simp; try with_reducible rfl)
  try simp only [Act.put, List.setIfInBounds_toArray, List.set_cons_zero, List.set_cons_succ]
  refine wpAnyH_take (i := 4) (oi := { dst := some 54, op := Go.Op.binOp Go.BinOp.eql 3 (Go.Operand.tmp 52) (Go.Operand.tmp 53) 3, type := 4, pos := "law.go:60", after := #[{ on := 2, ground := Go.Ground.data }, { on := 3, ground := Go.Ground.data }], guard := none }) (v := .bool true) rfl (by kernel_rfl) (by kernel_rfl) (by kernel_rfl) (fun _ _ _ h => h) (Or.inl ⟨by rfl, ?hy4b⟩) hHeld ?rest4b
  case hy4b => (intro W hSw; (try dsimp only at hSw); go_simp; try with_reducible rfl)
  try simp only [Act.put, List.setIfInBounds_toArray, List.set_cons_zero, List.set_cons_succ]
  refine wpAnyH_take (i := 5) (oi := { dst := some 55, op := Go.Op.move (Go.Operand.tmp 54), type := 4, pos := "law.go:60", after := #[{ on := 4, ground := Go.Ground.data }], guard := none }) (v := .bool true) rfl (by kernel_rfl) (by kernel_rfl) (by kernel_rfl) (fun _ _ _ h => h) (Or.inl ⟨by rfl, ?hy5b⟩) hHeld ?rest5b
  case hy5b => (intro W hSw; (try dsimp only at hSw); go_simp; try with_reducible rfl)
  try simp only [Act.put, List.setIfInBounds_toArray, List.set_cons_zero, List.set_cons_succ]
  refine wpAnyH_take (i := 6) (oi := { dst := some 56, op := Go.Op.move (Go.Operand.tmp 15), type := 26, pos := "law.go:60", after := #[{ on := 5, ground := Go.Ground.guard }], guard := some (5, true) }) (v := ?v6b) rfl (by kernel_rfl) (by kernel_rfl) (by kernel_rfl) (fun _ _ _ h => h) (Or.inl ⟨by rfl, ?hy6b⟩) hHeld ?rest6b
  case hy6b => (intro W hSw; (try dsimp only at hSw); go_simp; try with_reducible rfl)
  try simp only [Act.put, List.setIfInBounds_toArray, List.set_cons_zero, List.set_cons_succ]
  refine wpAnyH_take (i := 8) (oi := { dst := some 58, op := Go.Op.move (Go.Operand.tmp 13), type := 3, pos := "law.go:60", after := #[{ on := 5, ground := Go.Ground.guard }, { on := 12, ground := Go.Ground.gcOnly Go.Departure.lateStores }], guard := some (5, true) }) (v := ?v8b) rfl (by kernel_rfl) (by kernel_rfl) (by kernel_rfl) (fun _ _ _ h => h) (Or.inl ⟨by rfl, ?hy8b⟩) hHeld ?rest8b
  case hy8b => (intro W hSw; (try dsimp only at hSw); go_simp; try with_reducible rfl)
  try simp only [Act.put, List.setIfInBounds_toArray, List.set_cons_zero, List.set_cons_succ]
  refine wpAnyH_ready (rs := [7]) (by kernel_rfl) (by simp) ?_
  refine AllReadyH.cons (o := { dst := some 57, op := Go.Op.call { callee := Go.Callee.value (Go.Operand.func 9), args := #[Go.Operand.tmp 56], argTypes := #[26] }, type := 3, pos := "law.go:60", after := #[{ on := 6, ground := Go.Ground.data }, { on := 5, ground := Go.Ground.chain }, { on := 5, ground := Go.Ground.guard }], guard := some (5, true) }) rfl (fun K hK => ?_) AllReadyH.nil
  go_simp
  go_at_call 9
  refine (lnum10_any _ _).mono ?_
  rintro e wx ⟨rfl, rfl⟩
  refine hK.out _ _ (hHeld) (fun hHeld' => ?_)
  clear hK K hHeld
  have hHeld := hHeld'
  clear hHeld'
  try simp only [Act.put, List.setIfInBounds_toArray, List.set_cons_zero, List.set_cons_succ]
  refine wpAnyH_take (i := 9) (oi := { dst := some 59, op := Go.Op.binOp Go.BinOp.eql 3 (Go.Operand.tmp 57) (Go.Operand.tmp 58) 3, type := 4, pos := "law.go:60", after := #[{ on := 7, ground := Go.Ground.data }, { on := 8, ground := Go.Ground.data }, { on := 5, ground := Go.Ground.guard }, { on := 12, ground := Go.Ground.gcOnly Go.Departure.lateStores }], guard := some (5, true) }) (v := .bool true) rfl (by kernel_rfl) (by kernel_rfl) (by kernel_rfl) (fun _ _ _ h => h) (Or.inl ⟨by rfl, ?hy9b⟩) hHeld ?rest9b
  case hy9b => (intro W hSw; (try dsimp only at hSw); go_simp; try with_reducible rfl)
  try simp only [Act.put, List.setIfInBounds_toArray, List.set_cons_zero, List.set_cons_succ]
  refine wpAnyH_take (i := 10) (oi := { dst := some 60, op := Go.Op.pick (Go.Operand.tmp 55) (Go.Operand.tmp 59) (Go.Operand.const (Go.Value.bool false)), type := 4, pos := "law.go:60", after := #[{ on := 5, ground := Go.Ground.data }, { on := 9, ground := Go.Ground.data }, { on := 12, ground := Go.Ground.gcOnly Go.Departure.lateStores }], guard := none }) (v := .bool true) rfl (by kernel_rfl) (by kernel_rfl) (by kernel_rfl) (fun _ _ _ h => h) (Or.inl ⟨by rfl, ?hy10b⟩) hHeld ?rest10b
  case hy10b => (intro W hSw; (try dsimp only at hSw); go_simp; try with_reducible rfl)
  try simp only [Act.put, List.setIfInBounds_toArray, List.set_cons_zero, List.set_cons_succ]
  refine wpAnyH_take (i := 11) (oi := { dst := some 8, op := Go.Op.assign (Go.Operand.tmp 50), type := 29, pos := "law.go:60", after := #[{ on := 0, ground := Go.Ground.data }, { on := 7, ground := Go.Ground.chain }, { on := 0, ground := Go.Ground.phase }, { on := 1, ground := Go.Ground.textOnly Go.Departure.lateStores }, { on := 2, ground := Go.Ground.textOnly Go.Departure.lateStores }, { on := 3, ground := Go.Ground.textOnly Go.Departure.lateStores }, { on := 4, ground := Go.Ground.textOnly Go.Departure.lateStores }, { on := 5, ground := Go.Ground.textOnly Go.Departure.lateStores }, { on := 6, ground := Go.Ground.textOnly Go.Departure.lateStores }, { on := 7, ground := Go.Ground.textOnly Go.Departure.lateStoresUnsure }, { on := 8, ground := Go.Ground.textOnly Go.Departure.lateStores }, { on := 9, ground := Go.Ground.textOnly Go.Departure.lateStores }, { on := 10, ground := Go.Ground.textOnly Go.Departure.lateStores }], guard := none }) (v := ?v11b) rfl (by kernel_rfl) (by kernel_rfl) (by kernel_rfl) (fun _ _ _ h => h) (Or.inl ⟨by rfl, ?hy11b⟩) hHeld ?rest11b
  case hy11b => (intro W hSw; (try dsimp only at hSw); go_simp; try with_reducible rfl)
  try simp only [Act.put, List.setIfInBounds_toArray, List.set_cons_zero, List.set_cons_succ]
  refine wpAnyH_ready (rs := [12]) (by kernel_rfl) (by simp) ?_
  refine AllReadyH.cons (o := { dst := none, op := Go.Op.store 38 (Go.Operand.tmp 9) (Go.Operand.tmp 51), type := 0, pos := "law.go:60", after := #[{ on := 1, ground := Go.Ground.data }, { on := 11, ground := Go.Ground.chain }, { on := 0, ground := Go.Ground.phase }, { on := 1, ground := Go.Ground.phase }, { on := 2, ground := Go.Ground.textOnly Go.Departure.lateStores }, { on := 3, ground := Go.Ground.textOnly Go.Departure.lateStores }, { on := 4, ground := Go.Ground.textOnly Go.Departure.lateStores }, { on := 5, ground := Go.Ground.textOnly Go.Departure.lateStores }, { on := 6, ground := Go.Ground.textOnly Go.Departure.lateStores }, { on := 7, ground := Go.Ground.textOnly Go.Departure.lateStoresUnsure }, { on := 8, ground := Go.Ground.textOnly Go.Departure.lateStores }, { on := 9, ground := Go.Ground.textOnly Go.Departure.lateStores }, { on := 10, ground := Go.Ground.textOnly Go.Departure.lateStores }, { on := 11, ground := Go.Ground.phase }], guard := none }) rfl (fun K hK => ?_) AllReadyH.nil
  rw [if_pos (by rfl)]
  refine wp_store_mid 38 _ _ rfl _ _ cl rfl rfl hHeld.2 hinf4s hone4 ?_
  refine hK.out _ _ (HST.out _ hHeld) (fun hHeld' => ?_)
  clear hK K hHeld
  have hHeld := hHeld'
  clear hHeld'
  try simp only [Act.put, List.setIfInBounds_toArray, List.set_cons_zero, List.set_cons_succ]
  refine wpAnyH_take (i := 13) (oi := { dst := some 10, op := Go.Op.assign (Go.Operand.tmp 60), type := 4, pos := "law.go:60", after := #[{ on := 10, ground := Go.Ground.data }, { on := 12, ground := Go.Ground.chain }, { on := 0, ground := Go.Ground.phase }, { on := 1, ground := Go.Ground.phase }, { on := 2, ground := Go.Ground.phase }, { on := 3, ground := Go.Ground.phase }, { on := 4, ground := Go.Ground.phase }, { on := 5, ground := Go.Ground.phase }, { on := 6, ground := Go.Ground.phase }, { on := 7, ground := Go.Ground.phase }, { on := 8, ground := Go.Ground.phase }, { on := 9, ground := Go.Ground.phase }, { on := 10, ground := Go.Ground.phase }, { on := 11, ground := Go.Ground.phase }, { on := 12, ground := Go.Ground.phase }], guard := none }) (v := ?v13b) rfl (by kernel_rfl) (by kernel_rfl) (by kernel_rfl) (fun _ _ _ h => h) (Or.inl ⟨by rfl, ?hy13b⟩) hHeld ?rest13b
  case hy13b => (intro W hSw; (try dsimp only at hSw); go_simp; try with_reducible rfl)
  try simp only [Act.put, List.setIfInBounds_toArray, List.set_cons_zero, List.set_cons_succ]
  refine wpAnyH_done (by kernel_rfl) ?_ _
  try dsimp only
  try simp only [Act.put, List.setIfInBounds_toArray, List.set_cons_zero, List.set_cons_succ]
  -- END hand_alB
  go_wp2_with fail
  have hE := (H7.out _ ((Below.refl _ w7).drew)).2
  refine bodyPost_ret (v := .tuple #[.pointer (some ⟨q, 0, none⟩), .agg cl, .bool true]) (by simp [results, Tryz.results12, asAddr, hE.1]) rfl ⟨q, cl, D, t, rfl, hE.2.1, by omega, hE.2.2⟩
end Go.Proofs.YtbhgcioeibhjeaaGreatDoor
namespace Go.Proofs.YtbhgcioeibhjeaaGreatDoor
open Go.RowKit

set_option maxRecDepth 1000000 in
set_option maxHeartbeats 8000000 in
theorem act_app_full2 {Ξ : Nat → Prop} {w W0 : World} {q p : Nat} {cl : Array Value} {D : Dk} {f : Nat} {t : Int} (h : LS Ξ w W0 q p cl D f t) (hET : HasET w) (hf : f < 64) (hfew : D.L.length < 900) (kp tn : Int) (bs : Value) (l : List UInt8) (hbt : BytesOf W0 bs l) (hl : l.length ≤ 60) (hno : D.left < ((recL l).length : Nat)) :
    Calls Tryz.prog 12 #[.pointer (some ⟨q, 0, none⟩), .pointer (some ⟨p, 0, none⟩), .agg cl, .agg #[.int .i64 2, .int .i64 kp, .int .i64 tn, bs]] W0 (ActPost Ξ w W0 p D f) := by
  obtain ⟨ob, cb, hform⟩ := hbt.form
  subst hform
  obtain ⟨w3, hw3⟩ : ∃ w3, ((W0.alloc (.cells cl 38)).alloc (.cells #[.int .i64 2, .int .i64 kp, .int .i64 tn, .slice ob l.length cb] 45)).alloc (.cells Tryz.zeroCells38 38) = w3 := ⟨_, rfl⟩
  have hT : LB W0 w3 cl 2 kp tn (.slice ob l.length cb) := by rw [← hw3]; exact LB.start W0 cl 2 kp tn (.slice ob l.length cb)
  have hx0 := hT.a0
  have hx3 := hT.a3
  have hr := hT.b0.range
  have hu := Tryz.underlying38
  have hinf : (Tryz.prog.info? 38).map (·.size) = some cl.toList.length := by rw [Array.length_toList, h.ref.size]; exact info68
  have HR := Lib.hid (rLApp_full (h.keep hT.below).ref h.run.inv hf l (by omega) hno)
  have hcv := bytes_string (hbt.keep hT.below (Nat.le_refl _)).at
  have HP := Lib.hid (full_boxes h hET hf hfew hT l hbt hl hno)
  have hinf4 : (Tryz.prog.info? 38).map (·.size) = some cl.toList.length := hinf
  have hinf4s : (Tryz.prog.info? 38).map (·.size) = some cl.size := by rw [h.ref.size]; exact info68
  have hone4 := h.ref.one
  clear h hET hfew hbt hno hl
  go_enter Tryz.func12, Tryz.ntmps12
  go_upto_region 7 with (first | (refine wpList_load_mid rfl 38 _ rfl _ _ rfl _ _ hr hu rfl hinf ?_; simp only [Act.put, Array.toArray_toList, List.setIfInBounds_toArray, List.set_cons_zero, List.set_cons_succ]) | (go_at_call 33; refine HR.out.mono ?_; rintro e w4 ⟨rfl, hb4⟩; obtain ⟨ht4, _, _, _, w6, hw6, x6, HST, H6⟩ := HP.out w4 hb4; clear hb4) | (refine wpList_store_mid rfl 38 _ _ rfl _ _ cl rfl rfl ht4 hinf4s hone4 ?_; simp only [Act.put]))
  try rw [hw6]
  clear hw6 hr hinf hcv HR HP
  go_upto_region 8 with (first | (go_at_call 21; refine H6.out.mono ?_; rintro e w7 ⟨rfl, H7⟩))
  have hS8 := (H7.out _ ((Below.refl _ w7).drew)).1
  -- BEGIN hand_alB
  refine wp_region_held_drew (S := fun W => W.rangeAt w4.heap.size 0 cl.toList ∧ W.there (W0.heap.size + 2) 0 cl.size) (by kernel_rfl) ?_ (fun hHeld => ?_)
  · exact hS8
  refine wpAnyH_take (i := 0) (oi := { dst := some 50, op := Go.Op.move (Go.Operand.tmp 0), type := 29, pos := "law.go:60", after := #[], guard := none }) (v := ?v0b) rfl (by kernel_rfl) (by kernel_rfl) (by kernel_rfl) (fun _ _ _ h => h) (Or.inl ⟨by rfl, ?hy0b⟩) hHeld ?rest0b
  case hy0b => (intro W hSw; (try dsimp only at hSw); go_simp; try with_reducible rfl)
  try simp only [Act.put, List.setIfInBounds_toArray, List.set_cons_zero, List.set_cons_succ]
  refine wpAnyH_take (i := 1) (oi := { dst := some 51, op := Go.Op.load 38 (Go.Operand.tmp 11), type := 38, pos := "law.go:60", after := #[{ on := 11, ground := Go.Ground.gcOnly Go.Departure.lateStores }], guard := none }) (v := _) rfl (by kernel_rfl) (by kernel_rfl) (by kernel_rfl) (fun _ _ _ h => h) (yieldsIf_load_mid (by rfl) 38 _ rfl _ _ rfl _ _ (fun W hSw => hSw.1) hu rfl hinf4) hHeld ?_
  try simp only [Array.toArray_toList, Act.put, List.setIfInBounds_toArray, List.set_cons_zero, List.set_cons_succ]
  refine wpAnyH_take (i := 2) (oi := { dst := some 52, op := Go.Op.move (Go.Operand.tmp 14), type := 3, pos := "law.go:60", after := #[], guard := none }) (v := ?v2b) rfl (by kernel_rfl) (by kernel_rfl) (by kernel_rfl) (fun _ _ _ h => h) (Or.inl ⟨by rfl, ?hy2b⟩) hHeld ?rest2b
  case hy2b => (intro W hSw; (try dsimp only at hSw); go_simp; try with_reducible rfl)
  try simp only [Act.put, List.setIfInBounds_toArray, List.set_cons_zero, List.set_cons_succ]
  refine wpAnyH_take (i := 3) (oi := { dst := some 53, op := Go.Op.move (Go.Operand.tmp 12), type := 3, pos := "law.go:60", after := #[], guard := none }) (v := ?v3b) rfl (by kernel_rfl) (by kernel_rfl) (by kernel_rfl) (fun _ _ _ h => h) (Or.inl ⟨by rfl, ?hy3b⟩) hHeld ?rest3b
  case hy3b => (intro W hSw; (try dsimp only at hSw); go_simp; try with_reducible rfl)
  try simp only [Act.put, List.setIfInBounds_toArray, List.set_cons_zero, List.set_cons_succ]
  refine wpAnyH_take (i := 4) (oi := { dst := some 54, op := Go.Op.binOp Go.BinOp.eql 3 (Go.Operand.tmp 52) (Go.Operand.tmp 53) 3, type := 4, pos := "law.go:60", after := #[{ on := 2, ground := Go.Ground.data }, { on := 3, ground := Go.Ground.data }], guard := none }) (v := .bool true) rfl (by kernel_rfl) (by kernel_rfl) (by kernel_rfl) (fun _ _ _ h => h) (Or.inl ⟨by rfl, ?hy4b⟩) hHeld ?rest4b
  case hy4b => (intro W hSw; (try dsimp only at hSw); go_simp; try with_reducible rfl)
  try simp only [Act.put, List.setIfInBounds_toArray, List.set_cons_zero, List.set_cons_succ]
  refine wpAnyH_take (i := 5) (oi := { dst := some 55, op := Go.Op.move (Go.Operand.tmp 54), type := 4, pos := "law.go:60", after := #[{ on := 4, ground := Go.Ground.data }], guard := none }) (v := .bool true) rfl (by kernel_rfl) (by kernel_rfl) (by kernel_rfl) (fun _ _ _ h => h) (Or.inl ⟨by rfl, ?hy5b⟩) hHeld ?rest5b
  case hy5b => (intro W hSw; (try dsimp only at hSw); go_simp; try with_reducible rfl)
  try simp only [Act.put, List.setIfInBounds_toArray, List.set_cons_zero, List.set_cons_succ]
  refine wpAnyH_take (i := 6) (oi := { dst := some 56, op := Go.Op.move (Go.Operand.tmp 15), type := 26, pos := "law.go:60", after := #[{ on := 5, ground := Go.Ground.guard }], guard := some (5, true) }) (v := ?v6b) rfl (by kernel_rfl) (by kernel_rfl) (by kernel_rfl) (fun _ _ _ h => h) (Or.inl ⟨by rfl, ?hy6b⟩) hHeld ?rest6b
  case hy6b => (intro W hSw; (try dsimp only at hSw); go_simp; try with_reducible rfl)
  try simp only [Act.put, List.setIfInBounds_toArray, List.set_cons_zero, List.set_cons_succ]
  refine wpAnyH_take (i := 8) (oi := { dst := some 58, op := Go.Op.move (Go.Operand.tmp 13), type := 3, pos := "law.go:60", after := #[{ on := 5, ground := Go.Ground.guard }, { on := 12, ground := Go.Ground.gcOnly Go.Departure.lateStores }], guard := some (5, true) }) (v := ?v8b) rfl (by kernel_rfl) (by kernel_rfl) (by kernel_rfl) (fun _ _ _ h => h) (Or.inl ⟨by rfl, ?hy8b⟩) hHeld ?rest8b
  case hy8b => (intro W hSw; (try dsimp only at hSw); go_simp; try with_reducible rfl)
  try simp only [Act.put, List.setIfInBounds_toArray, List.set_cons_zero, List.set_cons_succ]
  refine wpAnyH_ready (rs := [7]) (by kernel_rfl) (by simp) ?_
  refine AllReadyH.cons (o := { dst := some 57, op := Go.Op.call { callee := Go.Callee.value (Go.Operand.func 9), args := #[Go.Operand.tmp 56], argTypes := #[26] }, type := 3, pos := "law.go:60", after := #[{ on := 6, ground := Go.Ground.data }, { on := 5, ground := Go.Ground.chain }, { on := 5, ground := Go.Ground.guard }], guard := some (5, true) }) rfl (fun K hK => ?_) AllReadyH.nil
  go_simp
  go_at_call 9
  refine (lnum10_any _ _).mono ?_
  rintro e wx ⟨rfl, rfl⟩
  refine hK.out _ _ (hHeld) (fun hHeld' => ?_)
  clear hK K hHeld
  have hHeld := hHeld'
  clear hHeld'
  try simp only [Act.put, List.setIfInBounds_toArray, List.set_cons_zero, List.set_cons_succ]
  refine wpAnyH_take (i := 9) (oi := { dst := some 59, op := Go.Op.binOp Go.BinOp.eql 3 (Go.Operand.tmp 57) (Go.Operand.tmp 58) 3, type := 4, pos := "law.go:60", after := #[{ on := 7, ground := Go.Ground.data }, { on := 8, ground := Go.Ground.data }, { on := 5, ground := Go.Ground.guard }, { on := 12, ground := Go.Ground.gcOnly Go.Departure.lateStores }], guard := some (5, true) }) (v := .bool true) rfl (by kernel_rfl) (by kernel_rfl) (by kernel_rfl) (fun _ _ _ h => h) (Or.inl ⟨by rfl, ?hy9b⟩) hHeld ?rest9b
  case hy9b => (intro W hSw; (try dsimp only at hSw); go_simp; try with_reducible rfl)
  try simp only [Act.put, List.setIfInBounds_toArray, List.set_cons_zero, List.set_cons_succ]
  refine wpAnyH_take (i := 10) (oi := { dst := some 60, op := Go.Op.pick (Go.Operand.tmp 55) (Go.Operand.tmp 59) (Go.Operand.const (Go.Value.bool false)), type := 4, pos := "law.go:60", after := #[{ on := 5, ground := Go.Ground.data }, { on := 9, ground := Go.Ground.data }, { on := 12, ground := Go.Ground.gcOnly Go.Departure.lateStores }], guard := none }) (v := .bool true) rfl (by kernel_rfl) (by kernel_rfl) (by kernel_rfl) (fun _ _ _ h => h) (Or.inl ⟨by rfl, ?hy10b⟩) hHeld ?rest10b
  case hy10b => (intro W hSw; (try dsimp only at hSw); go_simp; try with_reducible rfl)
  try simp only [Act.put, List.setIfInBounds_toArray, List.set_cons_zero, List.set_cons_succ]
  refine wpAnyH_take (i := 11) (oi := { dst := some 8, op := Go.Op.assign (Go.Operand.tmp 50), type := 29, pos := "law.go:60", after := #[{ on := 0, ground := Go.Ground.data }, { on := 7, ground := Go.Ground.chain }, { on := 0, ground := Go.Ground.phase }, { on := 1, ground := Go.Ground.textOnly Go.Departure.lateStores }, { on := 2, ground := Go.Ground.textOnly Go.Departure.lateStores }, { on := 3, ground := Go.Ground.textOnly Go.Departure.lateStores }, { on := 4, ground := Go.Ground.textOnly Go.Departure.lateStores }, { on := 5, ground := Go.Ground.textOnly Go.Departure.lateStores }, { on := 6, ground := Go.Ground.textOnly Go.Departure.lateStores }, { on := 7, ground := Go.Ground.textOnly Go.Departure.lateStoresUnsure }, { on := 8, ground := Go.Ground.textOnly Go.Departure.lateStores }, { on := 9, ground := Go.Ground.textOnly Go.Departure.lateStores }, { on := 10, ground := Go.Ground.textOnly Go.Departure.lateStores }], guard := none }) (v := ?v11b) rfl (by kernel_rfl) (by kernel_rfl) (by kernel_rfl) (fun _ _ _ h => h) (Or.inl ⟨by rfl, ?hy11b⟩) hHeld ?rest11b
  case hy11b => (intro W hSw; (try dsimp only at hSw); go_simp; try with_reducible rfl)
  try simp only [Act.put, List.setIfInBounds_toArray, List.set_cons_zero, List.set_cons_succ]
  refine wpAnyH_ready (rs := [12]) (by kernel_rfl) (by simp) ?_
  refine AllReadyH.cons (o := { dst := none, op := Go.Op.store 38 (Go.Operand.tmp 9) (Go.Operand.tmp 51), type := 0, pos := "law.go:60", after := #[{ on := 1, ground := Go.Ground.data }, { on := 11, ground := Go.Ground.chain }, { on := 0, ground := Go.Ground.phase }, { on := 1, ground := Go.Ground.phase }, { on := 2, ground := Go.Ground.textOnly Go.Departure.lateStores }, { on := 3, ground := Go.Ground.textOnly Go.Departure.lateStores }, { on := 4, ground := Go.Ground.textOnly Go.Departure.lateStores }, { on := 5, ground := Go.Ground.textOnly Go.Departure.lateStores }, { on := 6, ground := Go.Ground.textOnly Go.Departure.lateStores }, { on := 7, ground := Go.Ground.textOnly Go.Departure.lateStoresUnsure }, { on := 8, ground := Go.Ground.textOnly Go.Departure.lateStores }, { on := 9, ground := Go.Ground.textOnly Go.Departure.lateStores }, { on := 10, ground := Go.Ground.textOnly Go.Departure.lateStores }, { on := 11, ground := Go.Ground.phase }], guard := none }) rfl (fun K hK => ?_) AllReadyH.nil
  rw [if_pos (by rfl)]
  refine wp_store_mid 38 _ _ rfl _ _ cl rfl rfl hHeld.2 hinf4s hone4 ?_
  refine hK.out _ _ (HST.out _ hHeld) (fun hHeld' => ?_)
  clear hK K hHeld
  have hHeld := hHeld'
  clear hHeld'
  try simp only [Act.put, List.setIfInBounds_toArray, List.set_cons_zero, List.set_cons_succ]
  refine wpAnyH_take (i := 13) (oi := { dst := some 10, op := Go.Op.assign (Go.Operand.tmp 60), type := 4, pos := "law.go:60", after := #[{ on := 10, ground := Go.Ground.data }, { on := 12, ground := Go.Ground.chain }, { on := 0, ground := Go.Ground.phase }, { on := 1, ground := Go.Ground.phase }, { on := 2, ground := Go.Ground.phase }, { on := 3, ground := Go.Ground.phase }, { on := 4, ground := Go.Ground.phase }, { on := 5, ground := Go.Ground.phase }, { on := 6, ground := Go.Ground.phase }, { on := 7, ground := Go.Ground.phase }, { on := 8, ground := Go.Ground.phase }, { on := 9, ground := Go.Ground.phase }, { on := 10, ground := Go.Ground.phase }, { on := 11, ground := Go.Ground.phase }, { on := 12, ground := Go.Ground.phase }], guard := none }) (v := ?v13b) rfl (by kernel_rfl) (by kernel_rfl) (by kernel_rfl) (fun _ _ _ h => h) (Or.inl ⟨by rfl, ?hy13b⟩) hHeld ?rest13b
  case hy13b => (intro W hSw; (try dsimp only at hSw); go_simp; try with_reducible rfl)
  try simp only [Act.put, List.setIfInBounds_toArray, List.set_cons_zero, List.set_cons_succ]
  refine wpAnyH_done (by kernel_rfl) ?_ _
  try dsimp only
  try simp only [Act.put, List.setIfInBounds_toArray, List.set_cons_zero, List.set_cons_succ]
  -- END hand_alB
  go_wp2_with fail
  have hE := (H7.out _ ((Below.refl _ w7).drew)).2
  refine bodyPost_ret (v := .tuple #[.pointer (some ⟨q, 0, none⟩), .agg cl, .bool true]) (by simp [results, Tryz.results12, asAddr, hE.1]) rfl ⟨q, cl, D, t, rfl, hE.2.1, by omega, hE.2.2⟩
end Go.Proofs.YtbhgcioeibhjeaaGreatDoor
namespace Go.Proofs.YtbhgcioeibhjeaaGreatDoor
open Go.RowKit

set_option maxRecDepth 1000000 in
set_option maxHeartbeats 8000000 in
theorem act_app_full3 {Ξ : Nat → Prop} {w W0 : World} {q p : Nat} {cl : Array Value} {D : Dk} {f : Nat} {t : Int} (h : LS Ξ w W0 q p cl D f t) (hET : HasET w) (hf : f < 64) (hfew : D.L.length < 900) (kp tn : Int) (bs : Value) (l : List UInt8) (hbt : BytesOf W0 bs l) (hl : l.length ≤ 60) (hno : D.left < ((recL l).length : Nat)) :
    Calls Tryz.prog 12 #[.pointer (some ⟨q, 0, none⟩), .pointer (some ⟨p, 0, none⟩), .agg cl, .agg #[.int .i64 3, .int .i64 kp, .int .i64 tn, bs]] W0 (ActPost Ξ w W0 p D f) := by
  obtain ⟨ob, cb, hform⟩ := hbt.form
  subst hform
  obtain ⟨w3, hw3⟩ : ∃ w3, ((W0.alloc (.cells cl 38)).alloc (.cells #[.int .i64 3, .int .i64 kp, .int .i64 tn, .slice ob l.length cb] 45)).alloc (.cells Tryz.zeroCells38 38) = w3 := ⟨_, rfl⟩
  have hT : LB W0 w3 cl 3 kp tn (.slice ob l.length cb) := by rw [← hw3]; exact LB.start W0 cl 3 kp tn (.slice ob l.length cb)
  have hx0 := hT.a0
  have hx3 := hT.a3
  have hr := hT.b0.range
  have hu := Tryz.underlying38
  have hinf : (Tryz.prog.info? 38).map (·.size) = some cl.toList.length := by rw [Array.length_toList, h.ref.size]; exact info68
  have HR := Lib.hid (rLApp_full (h.keep hT.below).ref h.run.inv hf l (by omega) hno)
  have hcv := bytes_string (hbt.keep hT.below (Nat.le_refl _)).at
  have HP := Lib.hid (full_boxes h hET hf hfew hT l hbt hl hno)
  have hinf4 : (Tryz.prog.info? 38).map (·.size) = some cl.toList.length := hinf
  have hinf4s : (Tryz.prog.info? 38).map (·.size) = some cl.size := by rw [h.ref.size]; exact info68
  have hone4 := h.ref.one
  clear h hET hfew hbt hno hl
  go_enter Tryz.func12, Tryz.ntmps12
  go_upto_region 7 with (first | (refine wpList_load_mid rfl 38 _ rfl _ _ rfl _ _ hr hu rfl hinf ?_; simp only [Act.put, Array.toArray_toList, List.setIfInBounds_toArray, List.set_cons_zero, List.set_cons_succ]) | (go_at_call 33; refine HR.out.mono ?_; rintro e w4 ⟨rfl, hb4⟩; obtain ⟨ht4, _, _, _, w6, hw6, x6, HST, H6⟩ := HP.out w4 hb4; clear hb4) | (refine wpList_store_mid rfl 38 _ _ rfl _ _ cl rfl rfl ht4 hinf4s hone4 ?_; simp only [Act.put]))
  try rw [hw6]
  clear hw6 hr hinf hcv HR HP
  go_upto_region 8 with (first | (go_at_call 21; refine H6.out.mono ?_; rintro e w7 ⟨rfl, H7⟩))
  have hS8 := (H7.out _ ((Below.refl _ w7).drew)).1
  -- BEGIN hand_alB
  refine wp_region_held_drew (S := fun W => W.rangeAt w4.heap.size 0 cl.toList ∧ W.there (W0.heap.size + 2) 0 cl.size) (by kernel_rfl) ?_ (fun hHeld => ?_)
  · exact hS8
  refine wpAnyH_take (i := 0) (oi := { dst := some 50, op := Go.Op.move (Go.Operand.tmp 0), type := 29, pos := "law.go:60", after := #[], guard := none }) (v := ?v0b) rfl (by kernel_rfl) (by kernel_rfl) (by kernel_rfl) (fun _ _ _ h => h) (Or.inl ⟨by rfl, ?hy0b⟩) hHeld ?rest0b
  case hy0b => (intro W hSw; (try dsimp only at hSw); go_simp; try with_reducible rfl)
  try simp only [Act.put, List.setIfInBounds_toArray, List.set_cons_zero, List.set_cons_succ]
  refine wpAnyH_take (i := 1) (oi := { dst := some 51, op := Go.Op.load 38 (Go.Operand.tmp 11), type := 38, pos := "law.go:60", after := #[{ on := 11, ground := Go.Ground.gcOnly Go.Departure.lateStores }], guard := none }) (v := _) rfl (by kernel_rfl) (by kernel_rfl) (by kernel_rfl) (fun _ _ _ h => h) (yieldsIf_load_mid (by rfl) 38 _ rfl _ _ rfl _ _ (fun W hSw => hSw.1) hu rfl hinf4) hHeld ?_
  try simp only [Array.toArray_toList, Act.put, List.setIfInBounds_toArray, List.set_cons_zero, List.set_cons_succ]
  refine wpAnyH_take (i := 2) (oi := { dst := some 52, op := Go.Op.move (Go.Operand.tmp 14), type := 3, pos := "law.go:60", after := #[], guard := none }) (v := ?v2b) rfl (by kernel_rfl) (by kernel_rfl) (by kernel_rfl) (fun _ _ _ h => h) (Or.inl ⟨by rfl, ?hy2b⟩) hHeld ?rest2b
  case hy2b => (intro W hSw; (try dsimp only at hSw); go_simp; try with_reducible rfl)
  try simp only [Act.put, List.setIfInBounds_toArray, List.set_cons_zero, List.set_cons_succ]
  refine wpAnyH_take (i := 3) (oi := { dst := some 53, op := Go.Op.move (Go.Operand.tmp 12), type := 3, pos := "law.go:60", after := #[], guard := none }) (v := ?v3b) rfl (by kernel_rfl) (by kernel_rfl) (by kernel_rfl) (fun _ _ _ h => h) (Or.inl ⟨by rfl, ?hy3b⟩) hHeld ?rest3b
  case hy3b => (intro W hSw; (try dsimp only at hSw); go_simp; try with_reducible rfl)
  try simp only [Act.put, List.setIfInBounds_toArray, List.set_cons_zero, List.set_cons_succ]
  refine wpAnyH_take (i := 4) (oi := { dst := some 54, op := Go.Op.binOp Go.BinOp.eql 3 (Go.Operand.tmp 52) (Go.Operand.tmp 53) 3, type := 4, pos := "law.go:60", after := #[{ on := 2, ground := Go.Ground.data }, { on := 3, ground := Go.Ground.data }], guard := none }) (v := .bool true) rfl (by kernel_rfl) (by kernel_rfl) (by kernel_rfl) (fun _ _ _ h => h) (Or.inl ⟨by rfl, ?hy4b⟩) hHeld ?rest4b
  case hy4b => (intro W hSw; (try dsimp only at hSw); go_simp; try with_reducible rfl)
  try simp only [Act.put, List.setIfInBounds_toArray, List.set_cons_zero, List.set_cons_succ]
  refine wpAnyH_take (i := 5) (oi := { dst := some 55, op := Go.Op.move (Go.Operand.tmp 54), type := 4, pos := "law.go:60", after := #[{ on := 4, ground := Go.Ground.data }], guard := none }) (v := .bool true) rfl (by kernel_rfl) (by kernel_rfl) (by kernel_rfl) (fun _ _ _ h => h) (Or.inl ⟨by rfl, ?hy5b⟩) hHeld ?rest5b
  case hy5b => (intro W hSw; (try dsimp only at hSw); go_simp; try with_reducible rfl)
  try simp only [Act.put, List.setIfInBounds_toArray, List.set_cons_zero, List.set_cons_succ]
  refine wpAnyH_take (i := 6) (oi := { dst := some 56, op := Go.Op.move (Go.Operand.tmp 15), type := 26, pos := "law.go:60", after := #[{ on := 5, ground := Go.Ground.guard }], guard := some (5, true) }) (v := ?v6b) rfl (by kernel_rfl) (by kernel_rfl) (by kernel_rfl) (fun _ _ _ h => h) (Or.inl ⟨by rfl, ?hy6b⟩) hHeld ?rest6b
  case hy6b => (intro W hSw; (try dsimp only at hSw); go_simp; try with_reducible rfl)
  try simp only [Act.put, List.setIfInBounds_toArray, List.set_cons_zero, List.set_cons_succ]
  refine wpAnyH_take (i := 8) (oi := { dst := some 58, op := Go.Op.move (Go.Operand.tmp 13), type := 3, pos := "law.go:60", after := #[{ on := 5, ground := Go.Ground.guard }, { on := 12, ground := Go.Ground.gcOnly Go.Departure.lateStores }], guard := some (5, true) }) (v := ?v8b) rfl (by kernel_rfl) (by kernel_rfl) (by kernel_rfl) (fun _ _ _ h => h) (Or.inl ⟨by rfl, ?hy8b⟩) hHeld ?rest8b
  case hy8b => (intro W hSw; (try dsimp only at hSw); go_simp; try with_reducible rfl)
  try simp only [Act.put, List.setIfInBounds_toArray, List.set_cons_zero, List.set_cons_succ]
  refine wpAnyH_ready (rs := [7]) (by kernel_rfl) (by simp) ?_
  refine AllReadyH.cons (o := { dst := some 57, op := Go.Op.call { callee := Go.Callee.value (Go.Operand.func 9), args := #[Go.Operand.tmp 56], argTypes := #[26] }, type := 3, pos := "law.go:60", after := #[{ on := 6, ground := Go.Ground.data }, { on := 5, ground := Go.Ground.chain }, { on := 5, ground := Go.Ground.guard }], guard := some (5, true) }) rfl (fun K hK => ?_) AllReadyH.nil
  go_simp
  go_at_call 9
  refine (lnum10_any _ _).mono ?_
  rintro e wx ⟨rfl, rfl⟩
  refine hK.out _ _ (hHeld) (fun hHeld' => ?_)
  clear hK K hHeld
  have hHeld := hHeld'
  clear hHeld'
  try simp only [Act.put, List.setIfInBounds_toArray, List.set_cons_zero, List.set_cons_succ]
  refine wpAnyH_take (i := 9) (oi := { dst := some 59, op := Go.Op.binOp Go.BinOp.eql 3 (Go.Operand.tmp 57) (Go.Operand.tmp 58) 3, type := 4, pos := "law.go:60", after := #[{ on := 7, ground := Go.Ground.data }, { on := 8, ground := Go.Ground.data }, { on := 5, ground := Go.Ground.guard }, { on := 12, ground := Go.Ground.gcOnly Go.Departure.lateStores }], guard := some (5, true) }) (v := .bool true) rfl (by kernel_rfl) (by kernel_rfl) (by kernel_rfl) (fun _ _ _ h => h) (Or.inl ⟨by rfl, ?hy9b⟩) hHeld ?rest9b
  case hy9b => (intro W hSw; (try dsimp only at hSw); go_simp; try with_reducible rfl)
  try simp only [Act.put, List.setIfInBounds_toArray, List.set_cons_zero, List.set_cons_succ]
  refine wpAnyH_take (i := 10) (oi := { dst := some 60, op := Go.Op.pick (Go.Operand.tmp 55) (Go.Operand.tmp 59) (Go.Operand.const (Go.Value.bool false)), type := 4, pos := "law.go:60", after := #[{ on := 5, ground := Go.Ground.data }, { on := 9, ground := Go.Ground.data }, { on := 12, ground := Go.Ground.gcOnly Go.Departure.lateStores }], guard := none }) (v := .bool true) rfl (by kernel_rfl) (by kernel_rfl) (by kernel_rfl) (fun _ _ _ h => h) (Or.inl ⟨by rfl, ?hy10b⟩) hHeld ?rest10b
  case hy10b => (intro W hSw; (try dsimp only at hSw); go_simp; try with_reducible rfl)
  try simp only [Act.put, List.setIfInBounds_toArray, List.set_cons_zero, List.set_cons_succ]
  refine wpAnyH_take (i := 11) (oi := { dst := some 8, op := Go.Op.assign (Go.Operand.tmp 50), type := 29, pos := "law.go:60", after := #[{ on := 0, ground := Go.Ground.data }, { on := 7, ground := Go.Ground.chain }, { on := 0, ground := Go.Ground.phase }, { on := 1, ground := Go.Ground.textOnly Go.Departure.lateStores }, { on := 2, ground := Go.Ground.textOnly Go.Departure.lateStores }, { on := 3, ground := Go.Ground.textOnly Go.Departure.lateStores }, { on := 4, ground := Go.Ground.textOnly Go.Departure.lateStores }, { on := 5, ground := Go.Ground.textOnly Go.Departure.lateStores }, { on := 6, ground := Go.Ground.textOnly Go.Departure.lateStores }, { on := 7, ground := Go.Ground.textOnly Go.Departure.lateStoresUnsure }, { on := 8, ground := Go.Ground.textOnly Go.Departure.lateStores }, { on := 9, ground := Go.Ground.textOnly Go.Departure.lateStores }, { on := 10, ground := Go.Ground.textOnly Go.Departure.lateStores }], guard := none }) (v := ?v11b) rfl (by kernel_rfl) (by kernel_rfl) (by kernel_rfl) (fun _ _ _ h => h) (Or.inl ⟨by rfl, ?hy11b⟩) hHeld ?rest11b
  case hy11b => (intro W hSw; (try dsimp only at hSw); go_simp; try with_reducible rfl)
  try simp only [Act.put, List.setIfInBounds_toArray, List.set_cons_zero, List.set_cons_succ]
  refine wpAnyH_ready (rs := [12]) (by kernel_rfl) (by simp) ?_
  refine AllReadyH.cons (o := { dst := none, op := Go.Op.store 38 (Go.Operand.tmp 9) (Go.Operand.tmp 51), type := 0, pos := "law.go:60", after := #[{ on := 1, ground := Go.Ground.data }, { on := 11, ground := Go.Ground.chain }, { on := 0, ground := Go.Ground.phase }, { on := 1, ground := Go.Ground.phase }, { on := 2, ground := Go.Ground.textOnly Go.Departure.lateStores }, { on := 3, ground := Go.Ground.textOnly Go.Departure.lateStores }, { on := 4, ground := Go.Ground.textOnly Go.Departure.lateStores }, { on := 5, ground := Go.Ground.textOnly Go.Departure.lateStores }, { on := 6, ground := Go.Ground.textOnly Go.Departure.lateStores }, { on := 7, ground := Go.Ground.textOnly Go.Departure.lateStoresUnsure }, { on := 8, ground := Go.Ground.textOnly Go.Departure.lateStores }, { on := 9, ground := Go.Ground.textOnly Go.Departure.lateStores }, { on := 10, ground := Go.Ground.textOnly Go.Departure.lateStores }, { on := 11, ground := Go.Ground.phase }], guard := none }) rfl (fun K hK => ?_) AllReadyH.nil
  rw [if_pos (by rfl)]
  refine wp_store_mid 38 _ _ rfl _ _ cl rfl rfl hHeld.2 hinf4s hone4 ?_
  refine hK.out _ _ (HST.out _ hHeld) (fun hHeld' => ?_)
  clear hK K hHeld
  have hHeld := hHeld'
  clear hHeld'
  try simp only [Act.put, List.setIfInBounds_toArray, List.set_cons_zero, List.set_cons_succ]
  refine wpAnyH_take (i := 13) (oi := { dst := some 10, op := Go.Op.assign (Go.Operand.tmp 60), type := 4, pos := "law.go:60", after := #[{ on := 10, ground := Go.Ground.data }, { on := 12, ground := Go.Ground.chain }, { on := 0, ground := Go.Ground.phase }, { on := 1, ground := Go.Ground.phase }, { on := 2, ground := Go.Ground.phase }, { on := 3, ground := Go.Ground.phase }, { on := 4, ground := Go.Ground.phase }, { on := 5, ground := Go.Ground.phase }, { on := 6, ground := Go.Ground.phase }, { on := 7, ground := Go.Ground.phase }, { on := 8, ground := Go.Ground.phase }, { on := 9, ground := Go.Ground.phase }, { on := 10, ground := Go.Ground.phase }, { on := 11, ground := Go.Ground.phase }, { on := 12, ground := Go.Ground.phase }], guard := none }) (v := ?v13b) rfl (by kernel_rfl) (by kernel_rfl) (by kernel_rfl) (fun _ _ _ h => h) (Or.inl ⟨by rfl, ?hy13b⟩) hHeld ?rest13b
  case hy13b => (intro W hSw; (try dsimp only at hSw); go_simp; try with_reducible rfl)
  try simp only [Act.put, List.setIfInBounds_toArray, List.set_cons_zero, List.set_cons_succ]
  refine wpAnyH_done (by kernel_rfl) ?_ _
  try dsimp only
  try simp only [Act.put, List.setIfInBounds_toArray, List.set_cons_zero, List.set_cons_succ]
  -- END hand_alB
  go_wp2_with fail
  have hE := (H7.out _ ((Below.refl _ w7).drew)).2
  refine bodyPost_ret (v := .tuple #[.pointer (some ⟨q, 0, none⟩), .agg cl, .bool true]) (by simp [results, Tryz.results12, asAddr, hE.1]) rfl ⟨q, cl, D, t, rfl, hE.2.1, by omega, hE.2.2⟩
end Go.Proofs.YtbhgcioeibhjeaaGreatDoor
