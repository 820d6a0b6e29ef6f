/-
  parts that belong together.
-/
import Derived.Test.YtbhgcioeibhjeaaGreatDoorLRZo
namespace Go.Proofs.YtbhgcioeibhjeaaGreatDoor
open Go.RowKit

/-- the boxes of act -/
structure LB (W0 W : World) (cl : Array Value) (wh kp tn : Int) (bs : Value) : Prop where
  b0 : LBox W W0.heap.size cl
  b1 : W.heap[W0.heap.size + 1]? = some (.cells #[.int .i64 wh, .int .i64 kp, .int .i64 tn, bs] 45 (0, 0))
  b2 : LBox W (W0.heap.size + 2) Tryz.zeroCells38
  below : Below W0.heap.size W0 W
theorem LB.keep {W0 W W' : World} {cl : Array Value} {wh kp tn : Int} {bs : Value} (h : LB W0 W cl wh kp tn bs) (hb : Below W.heap.size W W') : LB W0 W' cl wh kp tn bs :=
  ⟨h.b0.keep hb, (hb.block _ (Array.getElem?_eq_some_iff.1 h.b1).1).trans h.b1, h.b2.keep hb, h.below.trans (hb.mono h.below.size)⟩
theorem LB.start (W0 : World) (cl : Array Value) (wh kp tn : Int) (bs : Value) : LB W0 (((W0.alloc (.cells cl 38)).alloc (.cells #[.int .i64 wh, .int .i64 kp, .int .i64 tn, bs] 45)).alloc (.cells Tryz.zeroCells38 38)) cl wh kp tn bs := by
  refine ⟨?_, ?_, ?_, (((Below.refl _ W0).alloc (Nat.le_refl _) _).alloc (by simp) _).alloc (by simp; omega) _⟩
  · unfold LBox
    rw [Below.heap_alloc _ _ _ (by simp; omega), Below.heap_alloc _ _ _ (by simp)]
    exact heap_alloc_at W0 _
  · rw [Below.heap_alloc _ _ _ (by simp)]
    have h := heap_alloc_at (W0.alloc (.cells cl 38)) (.cells #[.int .i64 wh, .int .i64 kp, .int .i64 tn, bs] 45)
    rwa [World.size_alloc] at h
  · have h := heap_alloc_at ((W0.alloc (.cells cl 38)).alloc (.cells #[.int .i64 wh, .int .i64 kp, .int .i64 tn, bs] 45)) (.cells Tryz.zeroCells38 38)
    unfold LBox
    simpa using h
theorem LB.a0 {W0 W : World} {cl : Array Value} {wh kp tn : Int} {bs : Value} (h : LB W0 W cl wh kp tn bs) : W.cell? ⟨W0.heap.size + 1, 0, none⟩ = some (.int .i64 wh) := by simp [World.cell?, h.b1]
theorem LB.a1 {W0 W : World} {cl : Array Value} {wh kp tn : Int} {bs : Value} (h : LB W0 W cl wh kp tn bs) : W.cell? ⟨W0.heap.size + 1, 1, none⟩ = some (.int .i64 kp) := by simp [World.cell?, h.b1]
theorem LB.a2 {W0 W : World} {cl : Array Value} {wh kp tn : Int} {bs : Value} (h : LB W0 W cl wh kp tn bs) : W.cell? ⟨W0.heap.size + 1, 2, none⟩ = some (.int .i64 tn) := by simp [World.cell?, h.b1]
theorem LB.a3 {W0 W : World} {cl : Array Value} {wh kp tn : Int} {bs : Value} (h : LB W0 W cl wh kp tn bs) : W.cell? ⟨W0.heap.size + 1, 3, none⟩ = some bs := by simp [World.cell?, h.b1]
theorem app_did {D : Dk} {f : Nat} (hf : f < 64) {l : List UInt8} (hok : ¬ D.left < (l.length : Nat)) : appE D f l.length = 0 ∧ D.app f l = D.did (.put f ⟨l.toArray⟩) := by
  have h0 : appE D f l.length = 0 := by
    unfold appE
    rw [if_neg (by omega), if_neg hok]
  refine ⟨h0, ?_⟩
  unfold Dk.app
  rw [if_pos h0]
  rfl
theorem good_did {D : Dk} {f : Nat} (h : ∃ L, D.F f = catR L ∧ ∀ b ∈ L, b.length ≤ 60000) {l : List UInt8} (hl : l.length ≤ 60000) : (∃ L, (D.did (.put f ⟨(recL l).toArray⟩)).F f = catR L ∧ ∀ b ∈ L, b.length ≤ 60000) ∧ ((D.did (.put f ⟨(recL l).toArray⟩)).F f).length = (D.F f).length + 8 + l.length := by
  have e : (D.did (.put f ⟨(recL l).toArray⟩)).F f = D.F f ++ recL l := by
    show doneF D.F (.put f ⟨(recL l).toArray⟩) f = _
    rw [doneF_at, if_pos (show (Th.put f ⟨(recL l).toArray⟩).file = f from rfl)]
    rfl
  obtain ⟨L, h1, h2⟩ := h
  refine ⟨⟨L ++ [l], ?_, fun b hb => ?_⟩, ?_⟩
  · rw [e, h1, catR_append]
    simp [catR]
  · rcases List.mem_append.1 hb with hb | hb
    · exact h2 b hb
    · rw [List.mem_singleton.1 hb]
      exact hl
  · rw [e, List.length_append, recL_length]
    omega
/-- from the document's Append on: its log in a box, the program's Append, the end -/
theorem app_boxes {Ξ : Nat → Prop} {w W0 w3 : World} {q p : Nat} {cl : Array Value} {D : Dk} {f : Nat} {t : Int} (h : LS Ξ w W0 q p cl D f t) (hET : HasET w) (hf : f < 64) (hfew : D.L.length < 900) {wh kp tn : Int} {bs : Value} (hT : LB W0 w3 cl wh kp tn bs) (l : List UInt8) (hbt : BytesOf W0 bs l) (hl : l.length ≤ 60) (hok : ¬ D.left < ((recL l).length : Nat)) :
    ∀ w4 cl', Below w3.heap.size w3 w4 → RLg w4 cl' (D.did (.put f ⟨(recL l).toArray⟩)) f t → (∀ g, rowAt cl' g → w3.heap.size ≤ g) → (w4.alloc (.cells Tryz.zeroCells38 38)).there w4.heap.size 0 cl'.size ∧ (Tryz.prog.info? 38).map (·.size) = some cl'.toList.length ∧ (Tryz.prog.info? 38).map (·.size) = some cl'.size ∧ cl'.all (·.oneCell') = true ∧ ∃ w6, (w4.alloc (.cells Tryz.zeroCells38 38)).setCells w4.heap.size 0 cl'.toList = w6 ∧ w6.cell? ⟨W0.heap.size + 1, 3, none⟩ = some bs ∧ Hid (∀ V : World, V.rangeAt w4.heap.size 0 cl'.toList ∧ V.there (W0.heap.size + 2) 0 cl'.size → (V.setCells (W0.heap.size + 2) 0 cl'.toList).rangeAt w4.heap.size 0 cl'.toList ∧ (V.setCells (W0.heap.size + 2) 0 cl'.toList).there (W0.heap.size + 2) 0 cl'.size) ∧ Hid (Calls Tryz.prog 21 #[.pointer (some ⟨q, 0, none⟩), bs] w6 fun x w7 => x = .returned (.tuple #[.int .i64 ((D.F f).length : Nat), .int .i64 0]) ∧ Hid (∀ V, Below w7.heap.size w7 V → (V.rangeAt w4.heap.size 0 cl'.toList ∧ V.there (W0.heap.size + 2) 0 cl'.size) ∧ (loadVar 38 ⟨W0.heap.size + 2, 0, none⟩).run Tryz.prog (V.setCells (W0.heap.size + 2) 0 cl'.toList) = .ok (.agg cl') (V.setCells (W0.heap.size + 2) 0 cl'.toList) ∧ LS Ξ w (V.setCells (W0.heap.size + 2) 0 cl'.toList) q p cl' (D.did (.put f ⟨(recL l).toArray⟩)) f t ∧ ∀ k, Ξ k → (V.setCells (W0.heap.size + 2) 0 cl'.toList).heap[k]? = W0.heap[k]?)) := by
  intro w4 cl' hb4 hr4 hn4
  have hs3 : W0.heap.size + 3 ≤ w3.heap.size := by have := hT.b2.lt; omega
  have hs4 := hb4.size
  have hT4 := hT.keep hb4
  have hwW := h.run.bel.size
  have hba : Below w4.heap.size w4 (w4.alloc (.cells Tryz.zeroCells38 38)) := (Below.refl _ w4).alloc (Nat.le_refl _) _
  have hL5 : LBox (w4.alloc (.cells Tryz.zeroCells38 38)) w4.heap.size Tryz.zeroCells38 := heap_alloc_at w4 _
  have hz5 : (w4.alloc (.cells Tryz.zeroCells38 38)).heap.size = w4.heap.size + 1 := by simp
  have hr5 := hr4.keep hba
  obtain ⟨w6, hw6⟩ : ∃ w6, (w4.alloc (.cells Tryz.zeroCells38 38)).setCells w4.heap.size 0 cl'.toList = w6 := ⟨_, rfl⟩
  have hb6 : Below w4.heap.size w4 w6 := by rw [← hw6]; exact below_setCellsr (Nat.le_refl _) _ _ hba
  have hL6 : LBox w6 w4.heap.size cl' := by rw [← hw6]; exact hL5.store (hr4.size.trans zeroL_size.symm)
  have hr6 : RLg w6 cl' (D.did (.put f ⟨(recL l).toArray⟩)) f t := by rw [← hw6]; exact hr5.store (.inr hL5)
  have hT6 := hT4.keep hb6
  refine ⟨(hL5.told zeroL_size hr4.size).1, by rw [Array.length_toList, hr4.size]; exact info68, by rw [hr4.size]; exact info68, hr4.one, w6, hw6, hT6.a3, Lib.hid (fun V hk => ⟨World.rangeAt_setCells_apart hk.1 _ _ _ (.inl (by omega)), World.there_setCells hk.2 _ _ _⟩), Lib.hid ?_⟩
  have hlt6 := hL6.lt
  have hK : LK (fun k => Ξ k ∨ W0.heap.size ≤ k ∧ k < w6.heap.size) w6 w w6 q p D f ((D.F f).length : Nat) t := h.run.grow hT6.below (fun k hk => hk.elim (fun h0 => ⟨Nat.lt_of_lt_of_le (h.lt (.inr h0)) hT6.below.size, .inl (.inr h0)⟩) (fun h0 => ⟨h0.2, .inr h0.1⟩))
  have hrec : appE D f (recL l).length = 0 ∧ D.app f (recL l) = D.did (.put f ⟨(recL l).toArray⟩) := app_did hf hok
  refine (k_append hK hET hfew (by have := h.run.inv.len f hf; omega) bs l (hbt.keep hT6.below (Nat.le_refl _)) (by omega) hrec.1).mono ?_
  rintro x w7 ⟨rfl, hK7⟩
  refine ⟨rfl, Lib.hid fun V hV => ?_⟩
  obtain ⟨hg, hgl⟩ := good_did h.good (l := l) (by omega)
  rw [hrec.2, ← hgl] at hK7
  have hf7 := hK7.frame
  have hr7 : RLg w7 cl' (D.did (.put f ⟨(recL l).toArray⟩)) f t := hr6.framed (fun g hg' => (hf7 g (.inr ⟨by have := hn4 g hg'; omega, hr6.rows g hg'⟩)).2)
  have hL7 : LBox w7 w4.heap.size cl' := (hf7 _ (.inr ⟨by omega, hlt6⟩)).2.trans hL6
  have hZ7 : LBox w7 (W0.heap.size + 2) Tryz.zeroCells38 := (hf7 _ (.inr ⟨by omega, by omega⟩)).2.trans hT6.b2
  have hZV := hZ7.keep hV
  refine ⟨⟨(hL7.keep hV).range, (hZV.told zeroL_size hr4.size).1⟩, (hZV.told zeroL_size hr4.size).2, ?_⟩
  refine ⟨LS.of (hK7.below hV) (hr7.keep hV) hg (fun g hg' => hg'.elim (fun h0 => .inr ⟨by have := hn4 g h0; omega, hr6.rows g h0⟩) .inl) (b := W0.heap.size + 2) (.inr ⟨by omega, by omega⟩) (by omega) hZV cl', fun k hk => ?_⟩
  have hk0 := h.lt (.inr hk)
  have hk7 := hf7 k (.inl hk)
  rw [heap_setCellsr _ _ _ _ _ (by omega), hV.block k hk7.1, hk7.2]
  exact hT6.below.block k hk0
end Go.Proofs.YtbhgcioeibhjeaaGreatDoor
namespace Go.Proofs.YtbhgcioeibhjeaaGreatDoor
open Go.RowKit

set_option maxRecDepth 1000000 in
set_option maxHeartbeats 8000000 in
theorem act_app_ok0 {Ξ : Nat → Prop} {w W0 : World} {q p : Nat} {cl : Array Value} {D : Dk} {f : Nat} {t : Int} (h : LS Ξ w W0 q p cl D f t) (hET : HasET w) (hf : f < 64) (hfew : D.L.length < 900) (kp tn : Int) (bs : Value) (l : List UInt8) (hbt : BytesOf W0 bs l) (hl : l.length ≤ 60) (hok : ¬ D.left < ((recL l).length : Nat)) :
    Calls Tryz.prog 12 #[.pointer (some ⟨q, 0, none⟩), .pointer (some ⟨p, 0, none⟩), .agg cl, .agg #[.int .i64 0, .int .i64 kp, .int .i64 tn, bs]] W0 (ActPost Ξ w W0 p D f) := by
  obtain ⟨ob, cb, hform⟩ := hbt.form
  subst hform
  obtain ⟨w3, hw3⟩ : ∃ w3, ((W0.alloc (.cells cl 38)).alloc (.cells #[.int .i64 0, .int .i64 kp, .int .i64 tn, .slice ob l.length cb] 45)).alloc (.cells Tryz.zeroCells38 38) = w3 := ⟨_, rfl⟩
  have hT : LB W0 w3 cl 0 kp tn (.slice ob l.length cb) := by rw [← hw3]; exact LB.start W0 cl 0 kp tn (.slice ob l.length cb)
  have hx0 := hT.a0
  have hx3 := hT.a3
  have hr := hT.b0.range
  have hu := Tryz.underlying38
  have hinf : (Tryz.prog.info? 38).map (·.size) = some cl.toList.length := by rw [Array.length_toList, h.ref.size]; exact info68
  have HR := Lib.hid (rLApp_new (h.keep hT.below).ref h.run.inv hf l (by omega) hok)
  have hcv := bytes_string (hbt.keep hT.below (Nat.le_refl _)).at
  obtain ⟨D', hD'⟩ : ∃ D', D.did (.put f ⟨(recL l).toArray⟩) = D' := ⟨_, rfl⟩
  have HP := Lib.hid (app_boxes h hET hf hfew hT l hbt hl hok)
  rw [hD'] at HR HP
  have hlen : D'.L.length ≤ D.L.length + 1 := by rw [← hD']; simp [Dk.did]
  clear h hET hfew hbt hok hD' hl
  generalize (D.F f).length = n at *
  go_enter Tryz.func12, Tryz.ntmps12
  go_upto_region 7 with (first | (refine wpList_load_mid rfl 38 _ rfl _ _ rfl _ _ hr hu rfl hinf ?_; simp only [Act.put, Array.toArray_toList, List.setIfInBounds_toArray, List.set_cons_zero, List.set_cons_succ]) | (go_at_call 33; refine HR.out.mono ?_; rintro e w4 ⟨cl', rfl, hr4, hn4, hb4⟩; obtain ⟨ht4, hinf4, hinf4s, hone4, w6, hw6, x6, HST, H6⟩ := HP.out w4 cl' hb4 hr4 hn4; clear hr4 hn4 hb4) | (refine wpList_store_mid rfl 38 _ _ rfl _ _ cl' rfl rfl ht4 hinf4s hone4 ?_; simp only [Act.put]))
  try rw [hw6]
  clear hw6 hr hinf hcv HR HP
  go_upto_region 8 with (first | (go_at_call 21; refine H6.out.mono ?_; rintro e w7 ⟨rfl, H7⟩))
  have hS8 := (H7.out _ ((Below.refl _ w7).drew)).1
  -- BEGIN hand_alA
  refine wp_region_held_drew (S := fun W => W.rangeAt w4.heap.size 0 cl'.toList ∧ W.there (W0.heap.size + 2) 0 cl'.size) (by kernel_rfl) ?_ (fun hHeld => ?_)
  · exact hS8
  refine wpAnyH_take (i := 0) (oi := { dst := some 50, op := Go.Op.move (Go.Operand.tmp 0), type := 29, pos := "law.go:60", after := #[], guard := none }) (v := ?v0a) rfl (by kernel_rfl) (by kernel_rfl) (by kernel_rfl) (fun _ _ _ h => h) (Or.inl ⟨by rfl, ?hy0a⟩) hHeld ?rest0a
  case hy0a => (intro W hSw; (try dsimp only at hSw); go_simp; try with_reducible rfl)
  try simp only [Act.put, List.setIfInBounds_toArray, List.set_cons_zero, List.set_cons_succ]
  refine wpAnyH_take (i := 1) (oi := { dst := some 51, op := Go.Op.load 38 (Go.Operand.tmp 11), type := 38, pos := "law.go:60", after := #[{ on := 11, ground := Go.Ground.gcOnly Go.Departure.lateStores }], guard := none }) (v := _) rfl (by kernel_rfl) (by kernel_rfl) (by kernel_rfl) (fun _ _ _ h => h) (yieldsIf_load_mid (by rfl) 38 _ rfl _ _ rfl _ _ (fun W hSw => hSw.1) hu rfl hinf4) hHeld ?_
  try simp only [Array.toArray_toList, Act.put, List.setIfInBounds_toArray, List.set_cons_zero, List.set_cons_succ]
  refine wpAnyH_take (i := 2) (oi := { dst := some 52, op := Go.Op.move (Go.Operand.tmp 14), type := 3, pos := "law.go:60", after := #[], guard := none }) (v := ?v2a) rfl (by kernel_rfl) (by kernel_rfl) (by kernel_rfl) (fun _ _ _ h => h) (Or.inl ⟨by rfl, ?hy2a⟩) hHeld ?rest2a
  case hy2a => (intro W hSw; (try dsimp only at hSw); go_simp; try with_reducible rfl)
  try simp only [Act.put, List.setIfInBounds_toArray, List.set_cons_zero, List.set_cons_succ]
  refine wpAnyH_take (i := 3) (oi := { dst := some 53, op := Go.Op.move (Go.Operand.tmp 12), type := 3, pos := "law.go:60", after := #[], guard := none }) (v := ?v3a) rfl (by kernel_rfl) (by kernel_rfl) (by kernel_rfl) (fun _ _ _ h => h) (Or.inl ⟨by rfl, ?hy3a⟩) hHeld ?rest3a
  case hy3a => (intro W hSw; (try dsimp only at hSw); go_simp; try with_reducible rfl)
  try simp only [Act.put, List.setIfInBounds_toArray, List.set_cons_zero, List.set_cons_succ]
  refine wpAnyH_take (i := 4) (oi := { dst := some 54, op := Go.Op.binOp Go.BinOp.eql 3 (Go.Operand.tmp 52) (Go.Operand.tmp 53) 3, type := 4, pos := "law.go:60", after := #[{ on := 2, ground := Go.Ground.data }, { on := 3, ground := Go.Ground.data }], guard := none }) (v := .bool true) rfl (by kernel_rfl) (by kernel_rfl) (by kernel_rfl) (fun _ _ _ h => h) (Or.inl ⟨by rfl, ?hy4a⟩) hHeld ?rest4a
  case hy4a => (intro W hSw; (try dsimp only at hSw); go_simp; try with_reducible rfl)
  try simp only [Act.put, List.setIfInBounds_toArray, List.set_cons_zero, List.set_cons_succ]
  refine wpAnyH_take (i := 5) (oi := { dst := some 55, op := Go.Op.move (Go.Operand.tmp 54), type := 4, pos := "law.go:60", after := #[{ on := 4, ground := Go.Ground.data }], guard := none }) (v := .bool true) rfl (by kernel_rfl) (by kernel_rfl) (by kernel_rfl) (fun _ _ _ h => h) (Or.inl ⟨by rfl, ?hy5a⟩) hHeld ?rest5a
  case hy5a => (intro W hSw; (try dsimp only at hSw); go_simp; try with_reducible rfl)
  try simp only [Act.put, List.setIfInBounds_toArray, List.set_cons_zero, List.set_cons_succ]
  refine wpAnyH_take (i := 6) (oi := { dst := some 56, op := Go.Op.move (Go.Operand.tmp 15), type := 26, pos := "law.go:60", after := #[{ on := 5, ground := Go.Ground.guard }], guard := some (5, true) }) (v := ?v6a) rfl (by kernel_rfl) (by kernel_rfl) (by kernel_rfl) (fun _ _ _ h => h) (Or.inl ⟨by rfl, ?hy6a⟩) hHeld ?rest6a
  case hy6a => (intro W hSw; (try dsimp only at hSw); go_simp; try with_reducible rfl)
  try simp only [Act.put, List.setIfInBounds_toArray, List.set_cons_zero, List.set_cons_succ]
  refine wpAnyH_take (i := 8) (oi := { dst := some 58, op := Go.Op.move (Go.Operand.tmp 13), type := 3, pos := "law.go:60", after := #[{ on := 5, ground := Go.Ground.guard }, { on := 12, ground := Go.Ground.gcOnly Go.Departure.lateStores }], guard := some (5, true) }) (v := ?v8a) rfl (by kernel_rfl) (by kernel_rfl) (by kernel_rfl) (fun _ _ _ h => h) (Or.inl ⟨by rfl, ?hy8a⟩) hHeld ?rest8a
  case hy8a => (intro W hSw; (try dsimp only at hSw); go_simp; try with_reducible rfl)
  try simp only [Act.put, List.setIfInBounds_toArray, List.set_cons_zero, List.set_cons_succ]
  refine wpAnyH_ready (rs := [7]) (by kernel_rfl) (by simp) ?_
  refine AllReadyH.cons (o := { dst := some 57, op := Go.Op.call { callee := Go.Callee.value (Go.Operand.func 9), args := #[Go.Operand.tmp 56], argTypes := #[26] }, type := 3, pos := "law.go:60", after := #[{ on := 6, ground := Go.Ground.data }, { on := 5, ground := Go.Ground.chain }, { on := 5, ground := Go.Ground.guard }], guard := some (5, true) }) rfl (fun K hK => ?_) AllReadyH.nil
  go_simp
  go_at_call 9
  refine (lnum10_any _ _).mono ?_
  rintro e wx ⟨rfl, rfl⟩
  refine hK.out _ _ (hHeld) (fun hHeld' => ?_)
  clear hK K hHeld
  have hHeld := hHeld'
  clear hHeld'
  try simp only [Act.put, List.setIfInBounds_toArray, List.set_cons_zero, List.set_cons_succ]
  refine wpAnyH_take (i := 9) (oi := { dst := some 59, op := Go.Op.binOp Go.BinOp.eql 3 (Go.Operand.tmp 57) (Go.Operand.tmp 58) 3, type := 4, pos := "law.go:60", after := #[{ on := 7, ground := Go.Ground.data }, { on := 8, ground := Go.Ground.data }, { on := 5, ground := Go.Ground.guard }, { on := 12, ground := Go.Ground.gcOnly Go.Departure.lateStores }], guard := some (5, true) }) (v := .bool true) rfl (by kernel_rfl) (by kernel_rfl) (by kernel_rfl) (fun _ _ _ h => h) (Or.inl ⟨by rfl, ?hy9a⟩) hHeld ?rest9a
  case hy9a => (intro W hSw; (try dsimp only at hSw); go_simp; try with_reducible rfl)
  try simp only [Act.put, List.setIfInBounds_toArray, List.set_cons_zero, List.set_cons_succ]
  refine wpAnyH_take (i := 10) (oi := { dst := some 60, op := Go.Op.pick (Go.Operand.tmp 55) (Go.Operand.tmp 59) (Go.Operand.const (Go.Value.bool false)), type := 4, pos := "law.go:60", after := #[{ on := 5, ground := Go.Ground.data }, { on := 9, ground := Go.Ground.data }, { on := 12, ground := Go.Ground.gcOnly Go.Departure.lateStores }], guard := none }) (v := .bool true) rfl (by kernel_rfl) (by kernel_rfl) (by kernel_rfl) (fun _ _ _ h => h) (Or.inl ⟨by rfl, ?hy10a⟩) hHeld ?rest10a
  case hy10a => (intro W hSw; (try dsimp only at hSw); go_simp; try with_reducible rfl)
  try simp only [Act.put, List.setIfInBounds_toArray, List.set_cons_zero, List.set_cons_succ]
  refine wpAnyH_take (i := 11) (oi := { dst := some 8, op := Go.Op.assign (Go.Operand.tmp 50), type := 29, pos := "law.go:60", after := #[{ on := 0, ground := Go.Ground.data }, { on := 7, ground := Go.Ground.chain }, { on := 0, ground := Go.Ground.phase }, { on := 1, ground := Go.Ground.textOnly Go.Departure.lateStores }, { on := 2, ground := Go.Ground.textOnly Go.Departure.lateStores }, { on := 3, ground := Go.Ground.textOnly Go.Departure.lateStores }, { on := 4, ground := Go.Ground.textOnly Go.Departure.lateStores }, { on := 5, ground := Go.Ground.textOnly Go.Departure.lateStores }, { on := 6, ground := Go.Ground.textOnly Go.Departure.lateStores }, { on := 7, ground := Go.Ground.textOnly Go.Departure.lateStoresUnsure }, { on := 8, ground := Go.Ground.textOnly Go.Departure.lateStores }, { on := 9, ground := Go.Ground.textOnly Go.Departure.lateStores }, { on := 10, ground := Go.Ground.textOnly Go.Departure.lateStores }], guard := none }) (v := ?v11a) rfl (by kernel_rfl) (by kernel_rfl) (by kernel_rfl) (fun _ _ _ h => h) (Or.inl ⟨by rfl, ?hy11a⟩) hHeld ?rest11a
  case hy11a => (intro W hSw; (try dsimp only at hSw); go_simp; try with_reducible rfl)
  try simp only [Act.put, List.setIfInBounds_toArray, List.set_cons_zero, List.set_cons_succ]
  refine wpAnyH_ready (rs := [12]) (by kernel_rfl) (by simp) ?_
  refine AllReadyH.cons (o := { dst := none, op := Go.Op.store 38 (Go.Operand.tmp 9) (Go.Operand.tmp 51), type := 0, pos := "law.go:60", after := #[{ on := 1, ground := Go.Ground.data }, { on := 11, ground := Go.Ground.chain }, { on := 0, ground := Go.Ground.phase }, { on := 1, ground := Go.Ground.phase }, { on := 2, ground := Go.Ground.textOnly Go.Departure.lateStores }, { on := 3, ground := Go.Ground.textOnly Go.Departure.lateStores }, { on := 4, ground := Go.Ground.textOnly Go.Departure.lateStores }, { on := 5, ground := Go.Ground.textOnly Go.Departure.lateStores }, { on := 6, ground := Go.Ground.textOnly Go.Departure.lateStores }, { on := 7, ground := Go.Ground.textOnly Go.Departure.lateStoresUnsure }, { on := 8, ground := Go.Ground.textOnly Go.Departure.lateStores }, { on := 9, ground := Go.Ground.textOnly Go.Departure.lateStores }, { on := 10, ground := Go.Ground.textOnly Go.Departure.lateStores }, { on := 11, ground := Go.Ground.phase }], guard := none }) rfl (fun K hK => ?_) AllReadyH.nil
  rw [if_pos (by rfl)]
  refine wp_store_mid 38 _ _ rfl _ _ cl' rfl rfl hHeld.2 hinf4s hone4 ?_
  refine hK.out _ _ (HST.out _ hHeld) (fun hHeld' => ?_)
  clear hK K hHeld
  have hHeld := hHeld'
  clear hHeld'
  try simp only [Act.put, List.setIfInBounds_toArray, List.set_cons_zero, List.set_cons_succ]
  refine wpAnyH_take (i := 13) (oi := { dst := some 10, op := Go.Op.assign (Go.Operand.tmp 60), type := 4, pos := "law.go:60", after := #[{ on := 10, ground := Go.Ground.data }, { on := 12, ground := Go.Ground.chain }, { on := 0, ground := Go.Ground.phase }, { on := 1, ground := Go.Ground.phase }, { on := 2, ground := Go.Ground.phase }, { on := 3, ground := Go.Ground.phase }, { on := 4, ground := Go.Ground.phase }, { on := 5, ground := Go.Ground.phase }, { on := 6, ground := Go.Ground.phase }, { on := 7, ground := Go.Ground.phase }, { on := 8, ground := Go.Ground.phase }, { on := 9, ground := Go.Ground.phase }, { on := 10, ground := Go.Ground.phase }, { on := 11, ground := Go.Ground.phase }, { on := 12, ground := Go.Ground.phase }], guard := none }) (v := ?v13a) rfl (by kernel_rfl) (by kernel_rfl) (by kernel_rfl) (fun _ _ _ h => h) (Or.inl ⟨by rfl, ?hy13a⟩) hHeld ?rest13a
  case hy13a => (intro W hSw; (try dsimp only at hSw); go_simp; try with_reducible rfl)
  try simp only [Act.put, List.setIfInBounds_toArray, List.set_cons_zero, List.set_cons_succ]
  refine wpAnyH_done (by kernel_rfl) ?_ _
  try dsimp only
  try simp only [Act.put, List.setIfInBounds_toArray, List.set_cons_zero, List.set_cons_succ]
  -- END hand_alA
  go_wp2_with fail
  have hE := (H7.out _ ((Below.refl _ w7).drew)).2
  refine bodyPost_ret (v := .tuple #[.pointer (some ⟨q, 0, none⟩), .agg cl', .bool true]) (by simp [results, Tryz.results12, asAddr, hE.1]) rfl ⟨q, cl', D', t, rfl, hE.2.1, hlen, hE.2.2⟩
end Go.Proofs.YtbhgcioeibhjeaaGreatDoor
namespace Go.Proofs.YtbhgcioeibhjeaaGreatDoor
open Go.RowKit

set_option maxRecDepth 1000000 in
set_option maxHeartbeats 8000000 in
theorem act_app_ok1 {Ξ : Nat → Prop} {w W0 : World} {q p : Nat} {cl : Array Value} {D : Dk} {f : Nat} {t : Int} (h : LS Ξ w W0 q p cl D f t) (hET : HasET w) (hf : f < 64) (hfew : D.L.length < 900) (kp tn : Int) (bs : Value) (l : List UInt8) (hbt : BytesOf W0 bs l) (hl : l.length ≤ 60) (hok : ¬ D.left < ((recL l).length : Nat)) :
    Calls Tryz.prog 12 #[.pointer (some ⟨q, 0, none⟩), .pointer (some ⟨p, 0, none⟩), .agg cl, .agg #[.int .i64 1, .int .i64 kp, .int .i64 tn, bs]] W0 (ActPost Ξ w W0 p D f) := by
  obtain ⟨ob, cb, hform⟩ := hbt.form
  subst hform
  obtain ⟨w3, hw3⟩ : ∃ w3, ((W0.alloc (.cells cl 38)).alloc (.cells #[.int .i64 1, .int .i64 kp, .int .i64 tn, .slice ob l.length cb] 45)).alloc (.cells Tryz.zeroCells38 38) = w3 := ⟨_, rfl⟩
  have hT : LB W0 w3 cl 1 kp tn (.slice ob l.length cb) := by rw [← hw3]; exact LB.start W0 cl 1 kp tn (.slice ob l.length cb)
  have hx0 := hT.a0
  have hx3 := hT.a3
  have hr := hT.b0.range
  have hu := Tryz.underlying38
  have hinf : (Tryz.prog.info? 38).map (·.size) = some cl.toList.length := by rw [Array.length_toList, h.ref.size]; exact info68
  have HR := Lib.hid (rLApp_new (h.keep hT.below).ref h.run.inv hf l (by omega) hok)
  have hcv := bytes_string (hbt.keep hT.below (Nat.le_refl _)).at
  obtain ⟨D', hD'⟩ : ∃ D', D.did (.put f ⟨(recL l).toArray⟩) = D' := ⟨_, rfl⟩
  have HP := Lib.hid (app_boxes h hET hf hfew hT l hbt hl hok)
  rw [hD'] at HR HP
  have hlen : D'.L.length ≤ D.L.length + 1 := by rw [← hD']; simp [Dk.did]
  clear h hET hfew hbt hok hD' hl
  generalize (D.F f).length = n at *
  go_enter Tryz.func12, Tryz.ntmps12
  go_upto_region 7 with (first | (refine wpList_load_mid rfl 38 _ rfl _ _ rfl _ _ hr hu rfl hinf ?_; simp only [Act.put, Array.toArray_toList, List.setIfInBounds_toArray, List.set_cons_zero, List.set_cons_succ]) | (go_at_call 33; refine HR.out.mono ?_; rintro e w4 ⟨cl', rfl, hr4, hn4, hb4⟩; obtain ⟨ht4, hinf4, hinf4s, hone4, w6, hw6, x6, HST, H6⟩ := HP.out w4 cl' hb4 hr4 hn4; clear hr4 hn4 hb4) | (refine wpList_store_mid rfl 38 _ _ rfl _ _ cl' rfl rfl ht4 hinf4s hone4 ?_; simp only [Act.put]))
  try rw [hw6]
  clear hw6 hr hinf hcv HR HP
  go_upto_region 8 with (first | (go_at_call 21; refine H6.out.mono ?_; rintro e w7 ⟨rfl, H7⟩))
  have hS8 := (H7.out _ ((Below.refl _ w7).drew)).1
  -- BEGIN hand_alA
  refine wp_region_held_drew (S := fun W => W.rangeAt w4.heap.size 0 cl'.toList ∧ W.there (W0.heap.size + 2) 0 cl'.size) (by kernel_rfl) ?_ (fun hHeld => ?_)
  · exact hS8
  refine wpAnyH_take (i := 0) (oi := { dst := some 50, op := Go.Op.move (Go.Operand.tmp 0), type := 29, pos := "law.go:60", after := #[], guard := none }) (v := ?v0a) rfl (by kernel_rfl) (by kernel_rfl) (by kernel_rfl) (fun _ _ _ h => h) (Or.inl ⟨by rfl, ?hy0a⟩) hHeld ?rest0a
  case hy0a => (intro W hSw; (try dsimp only at hSw); go_simp; try with_reducible rfl)
  try simp only [Act.put, List.setIfInBounds_toArray, List.set_cons_zero, List.set_cons_succ]
  refine wpAnyH_take (i := 1) (oi := { dst := some 51, op := Go.Op.load 38 (Go.Operand.tmp 11), type := 38, pos := "law.go:60", after := #[{ on := 11, ground := Go.Ground.gcOnly Go.Departure.lateStores }], guard := none }) (v := _) rfl (by kernel_rfl) (by kernel_rfl) (by kernel_rfl) (fun _ _ _ h => h) (yieldsIf_load_mid (by rfl) 38 _ rfl _ _ rfl _ _ (fun W hSw => hSw.1) hu rfl hinf4) hHeld ?_
  try simp only [Array.toArray_toList, Act.put, List.setIfInBounds_toArray, List.set_cons_zero, List.set_cons_succ]
  refine wpAnyH_take (i := 2) (oi := { dst := some 52, op := Go.Op.move (Go.Operand.tmp 14), type := 3, pos := "law.go:60", after := #[], guard := none }) (v := ?v2a) rfl (by kernel_rfl) (by kernel_rfl) (by kernel_rfl) (fun _ _ _ h => h) (Or.inl ⟨by rfl, ?hy2a⟩) hHeld ?rest2a
  case hy2a => (intro W hSw; (try dsimp only at hSw); go_simp; try with_reducible rfl)
  try simp only [Act.put, List.setIfInBounds_toArray, List.set_cons_zero, List.set_cons_succ]
  refine wpAnyH_take (i := 3) (oi := { dst := some 53, op := Go.Op.move (Go.Operand.tmp 12), type := 3, pos := "law.go:60", after := #[], guard := none }) (v := ?v3a) rfl (by kernel_rfl) (by kernel_rfl) (by kernel_rfl) (fun _ _ _ h => h) (Or.inl ⟨by rfl, ?hy3a⟩) hHeld ?rest3a
  case hy3a => (intro W hSw; (try dsimp only at hSw); go_simp; try with_reducible rfl)
  try simp only [Act.put, List.setIfInBounds_toArray, List.set_cons_zero, List.set_cons_succ]
  refine wpAnyH_take (i := 4) (oi := { dst := some 54, op := Go.Op.binOp Go.BinOp.eql 3 (Go.Operand.tmp 52) (Go.Operand.tmp 53) 3, type := 4, pos := "law.go:60", after := #[{ on := 2, ground := Go.Ground.data }, { on := 3, ground := Go.Ground.data }], guard := none }) (v := .bool true) rfl (by kernel_rfl) (by kernel_rfl) (by kernel_rfl) (fun _ _ _ h => h) (Or.inl ⟨by rfl, ?hy4a⟩) hHeld ?rest4a
  case hy4a => (intro W hSw; (try dsimp only at hSw); go_simp; try with_reducible rfl)
  try simp only [Act.put, List.setIfInBounds_toArray, List.set_cons_zero, List.set_cons_succ]
  refine wpAnyH_take (i := 5) (oi := { dst := some 55, op := Go.Op.move (Go.Operand.tmp 54), type := 4, pos := "law.go:60", after := #[{ on := 4, ground := Go.Ground.data }], guard := none }) (v := .bool true) rfl (by kernel_rfl) (by kernel_rfl) (by kernel_rfl) (fun _ _ _ h => h) (Or.inl ⟨by rfl, ?hy5a⟩) hHeld ?rest5a
  case hy5a => (intro W hSw; (try dsimp only at hSw); go_simp; try with_reducible rfl)
  try simp only [Act.put, List.setIfInBounds_toArray, List.set_cons_zero, List.set_cons_succ]
  refine wpAnyH_take (i := 6) (oi := { dst := some 56, op := Go.Op.move (Go.Operand.tmp 15), type := 26, pos := "law.go:60", after := #[{ on := 5, ground := Go.Ground.guard }], guard := some (5, true) }) (v := ?v6a) rfl (by kernel_rfl) (by kernel_rfl) (by kernel_rfl) (fun _ _ _ h => h) (Or.inl ⟨by rfl, ?hy6a⟩) hHeld ?rest6a
  case hy6a => (intro W hSw; (try dsimp only at hSw); go_simp; try with_reducible rfl)
  try simp only [Act.put, List.setIfInBounds_toArray, List.set_cons_zero, List.set_cons_succ]
  refine wpAnyH_take (i := 8) (oi := { dst := some 58, op := Go.Op.move (Go.Operand.tmp 13), type := 3, pos := "law.go:60", after := #[{ on := 5, ground := Go.Ground.guard }, { on := 12, ground := Go.Ground.gcOnly Go.Departure.lateStores }], guard := some (5, true) }) (v := ?v8a) rfl (by kernel_rfl) (by kernel_rfl) (by kernel_rfl) (fun _ _ _ h => h) (Or.inl ⟨by rfl, ?hy8a⟩) hHeld ?rest8a
  case hy8a => (intro W hSw; (try dsimp only at hSw); go_simp; try with_reducible rfl)
  try simp only [Act.put, List.setIfInBounds_toArray, List.set_cons_zero, List.set_cons_succ]
  refine wpAnyH_ready (rs := [7]) (by kernel_rfl) (by simp) ?_
  refine AllReadyH.cons (o := { dst := some 57, op := Go.Op.call { callee := Go.Callee.value (Go.Operand.func 9), args := #[Go.Operand.tmp 56], argTypes := #[26] }, type := 3, pos := "law.go:60", after := #[{ on := 6, ground := Go.Ground.data }, { on := 5, ground := Go.Ground.chain }, { on := 5, ground := Go.Ground.guard }], guard := some (5, true) }) rfl (fun K hK => ?_) AllReadyH.nil
  go_simp
  go_at_call 9
  refine (lnum10_any _ _).mono ?_
  rintro e wx ⟨rfl, rfl⟩
  refine hK.out _ _ (hHeld) (fun hHeld' => ?_)
  clear hK K hHeld
  have hHeld := hHeld'
  clear hHeld'
  try simp only [Act.put, List.setIfInBounds_toArray, List.set_cons_zero, List.set_cons_succ]
  refine wpAnyH_take (i := 9) (oi := { dst := some 59, op := Go.Op.binOp Go.BinOp.eql 3 (Go.Operand.tmp 57) (Go.Operand.tmp 58) 3, type := 4, pos := "law.go:60", after := #[{ on := 7, ground := Go.Ground.data }, { on := 8, ground := Go.Ground.data }, { on := 5, ground := Go.Ground.guard }, { on := 12, ground := Go.Ground.gcOnly Go.Departure.lateStores }], guard := some (5, true) }) (v := .bool true) rfl (by kernel_rfl) (by kernel_rfl) (by kernel_rfl) (fun _ _ _ h => h) (Or.inl ⟨by rfl, ?hy9a⟩) hHeld ?rest9a
  case hy9a => (intro W hSw; (try dsimp only at hSw); go_simp; try with_reducible rfl)
  try simp only [Act.put, List.setIfInBounds_toArray, List.set_cons_zero, List.set_cons_succ]
  refine wpAnyH_take (i := 10) (oi := { dst := some 60, op := Go.Op.pick (Go.Operand.tmp 55) (Go.Operand.tmp 59) (Go.Operand.const (Go.Value.bool false)), type := 4, pos := "law.go:60", after := #[{ on := 5, ground := Go.Ground.data }, { on := 9, ground := Go.Ground.data }, { on := 12, ground := Go.Ground.gcOnly Go.Departure.lateStores }], guard := none }) (v := .bool true) rfl (by kernel_rfl) (by kernel_rfl) (by kernel_rfl) (fun _ _ _ h => h) (Or.inl ⟨by rfl, ?hy10a⟩) hHeld ?rest10a
  case hy10a => (intro W hSw; (try dsimp only at hSw); go_simp; try with_reducible rfl)
  try simp only [Act.put, List.setIfInBounds_toArray, List.set_cons_zero, List.set_cons_succ]
  refine wpAnyH_take (i := 11) (oi := { dst := some 8, op := Go.Op.assign (Go.Operand.tmp 50), type := 29, pos := "law.go:60", after := #[{ on := 0, ground := Go.Ground.data }, { on := 7, ground := Go.Ground.chain }, { on := 0, ground := Go.Ground.phase }, { on := 1, ground := Go.Ground.textOnly Go.Departure.lateStores }, { on := 2, ground := Go.Ground.textOnly Go.Departure.lateStores }, { on := 3, ground := Go.Ground.textOnly Go.Departure.lateStores }, { on := 4, ground := Go.Ground.textOnly Go.Departure.lateStores }, { on := 5, ground := Go.Ground.textOnly Go.Departure.lateStores }, { on := 6, ground := Go.Ground.textOnly Go.Departure.lateStores }, { on := 7, ground := Go.Ground.textOnly Go.Departure.lateStoresUnsure }, { on := 8, ground := Go.Ground.textOnly Go.Departure.lateStores }, { on := 9, ground := Go.Ground.textOnly Go.Departure.lateStores }, { on := 10, ground := Go.Ground.textOnly Go.Departure.lateStores }], guard := none }) (v := ?v11a) rfl (by kernel_rfl) (by kernel_rfl) (by kernel_rfl) (fun _ _ _ h => h) (Or.inl ⟨by rfl, ?hy11a⟩) hHeld ?rest11a
  case hy11a => (intro W hSw; (try dsimp only at hSw); go_simp; try with_reducible rfl)
  try simp only [Act.put, List.setIfInBounds_toArray, List.set_cons_zero, List.set_cons_succ]
  refine wpAnyH_ready (rs := [12]) (by kernel_rfl) (by simp) ?_
  refine AllReadyH.cons (o := { dst := none, op := Go.Op.store 38 (Go.Operand.tmp 9) (Go.Operand.tmp 51), type := 0, pos := "law.go:60", after := #[{ on := 1, ground := Go.Ground.data }, { on := 11, ground := Go.Ground.chain }, { on := 0, ground := Go.Ground.phase }, { on := 1, ground := Go.Ground.phase }, { on := 2, ground := Go.Ground.textOnly Go.Departure.lateStores }, { on := 3, ground := Go.Ground.textOnly Go.Departure.lateStores }, { on := 4, ground := Go.Ground.textOnly Go.Departure.lateStores }, { on := 5, ground := Go.Ground.textOnly Go.Departure.lateStores }, { on := 6, ground := Go.Ground.textOnly Go.Departure.lateStores }, { on := 7, ground := Go.Ground.textOnly Go.Departure.lateStoresUnsure }, { on := 8, ground := Go.Ground.textOnly Go.Departure.lateStores }, { on := 9, ground := Go.Ground.textOnly Go.Departure.lateStores }, { on := 10, ground := Go.Ground.textOnly Go.Departure.lateStores }, { on := 11, ground := Go.Ground.phase }], guard := none }) rfl (fun K hK => ?_) AllReadyH.nil
  rw [if_pos (by rfl)]
  refine wp_store_mid 38 _ _ rfl _ _ cl' rfl rfl hHeld.2 hinf4s hone4 ?_
  refine hK.out _ _ (HST.out _ hHeld) (fun hHeld' => ?_)
  clear hK K hHeld
  have hHeld := hHeld'
  clear hHeld'
  try simp only [Act.put, List.setIfInBounds_toArray, List.set_cons_zero, List.set_cons_succ]
  refine wpAnyH_take (i := 13) (oi := { dst := some 10, op := Go.Op.assign (Go.Operand.tmp 60), type := 4, pos := "law.go:60", after := #[{ on := 10, ground := Go.Ground.data }, { on := 12, ground := Go.Ground.chain }, { on := 0, ground := Go.Ground.phase }, { on := 1, ground := Go.Ground.phase }, { on := 2, ground := Go.Ground.phase }, { on := 3, ground := Go.Ground.phase }, { on := 4, ground := Go.Ground.phase }, { on := 5, ground := Go.Ground.phase }, { on := 6, ground := Go.Ground.phase }, { on := 7, ground := Go.Ground.phase }, { on := 8, ground := Go.Ground.phase }, { on := 9, ground := Go.Ground.phase }, { on := 10, ground := Go.Ground.phase }, { on := 11, ground := Go.Ground.phase }, { on := 12, ground := Go.Ground.phase }], guard := none }) (v := ?v13a) rfl (by kernel_rfl) (by kernel_rfl) (by kernel_rfl) (fun _ _ _ h => h) (Or.inl ⟨by rfl, ?hy13a⟩) hHeld ?rest13a
  case hy13a => (intro W hSw; (try dsimp only at hSw); go_simp; try with_reducible rfl)
  try simp only [Act.put, List.setIfInBounds_toArray, List.set_cons_zero, List.set_cons_succ]
  refine wpAnyH_done (by kernel_rfl) ?_ _
  try dsimp only
  try simp only [Act.put, List.setIfInBounds_toArray, List.set_cons_zero, List.set_cons_succ]
  -- END hand_alA
  go_wp2_with fail
  have hE := (H7.out _ ((Below.refl _ w7).drew)).2
  refine bodyPost_ret (v := .tuple #[.pointer (some ⟨q, 0, none⟩), .agg cl', .bool true]) (by simp [results, Tryz.results12, asAddr, hE.1]) rfl ⟨q, cl', D', t, rfl, hE.2.1, hlen, hE.2.2⟩
end Go.Proofs.YtbhgcioeibhjeaaGreatDoor
namespace Go.Proofs.YtbhgcioeibhjeaaGreatDoor
open Go.RowKit

set_option maxRecDepth 1000000 in
set_option maxHeartbeats 8000000 in
theorem act_app_ok2 {Ξ : Nat → Prop} {w W0 : World} {q p : Nat} {cl : Array Value} {D : Dk} {f : Nat} {t : Int} (h : LS Ξ w W0 q p cl D f t) (hET : HasET w) (hf : f < 64) (hfew : D.L.length < 900) (kp tn : Int) (bs : Value) (l : List UInt8) (hbt : BytesOf W0 bs l) (hl : l.length ≤ 60) (hok : ¬ D.left < ((recL l).length : Nat)) :
    Calls Tryz.prog 12 #[.pointer (some ⟨q, 0, none⟩), .pointer (some ⟨p, 0, none⟩), .agg cl, .agg #[.int .i64 2, .int .i64 kp, .int .i64 tn, bs]] W0 (ActPost Ξ w W0 p D f) := by
  obtain ⟨ob, cb, hform⟩ := hbt.form
  subst hform
  obtain ⟨w3, hw3⟩ : ∃ w3, ((W0.alloc (.cells cl 38)).alloc (.cells #[.int .i64 2, .int .i64 kp, .int .i64 tn, .slice ob l.length cb] 45)).alloc (.cells Tryz.zeroCells38 38) = w3 := ⟨_, rfl⟩
  have hT : LB W0 w3 cl 2 kp tn (.slice ob l.length cb) := by rw [← hw3]; exact LB.start W0 cl 2 kp tn (.slice ob l.length cb)
  have hx0 := hT.a0
  have hx3 := hT.a3
  have hr := hT.b0.range
  have hu := Tryz.underlying38
  have hinf : (Tryz.prog.info? 38).map (·.size) = some cl.toList.length := by rw [Array.length_toList, h.ref.size]; exact info68
  have HR := Lib.hid (rLApp_new (h.keep hT.below).ref h.run.inv hf l (by omega) hok)
  have hcv := bytes_string (hbt.keep hT.below (Nat.le_refl _)).at
  obtain ⟨D', hD'⟩ : ∃ D', D.did (.put f ⟨(recL l).toArray⟩) = D' := ⟨_, rfl⟩
  have HP := Lib.hid (app_boxes h hET hf hfew hT l hbt hl hok)
  rw [hD'] at HR HP
  have hlen : D'.L.length ≤ D.L.length + 1 := by rw [← hD']; simp [Dk.did]
  clear h hET hfew hbt hok hD' hl
  generalize (D.F f).length = n at *
  go_enter Tryz.func12, Tryz.ntmps12
  go_upto_region 7 with (first | (refine wpList_load_mid rfl 38 _ rfl _ _ rfl _ _ hr hu rfl hinf ?_; simp only [Act.put, Array.toArray_toList, List.setIfInBounds_toArray, List.set_cons_zero, List.set_cons_succ]) | (go_at_call 33; refine HR.out.mono ?_; rintro e w4 ⟨cl', rfl, hr4, hn4, hb4⟩; obtain ⟨ht4, hinf4, hinf4s, hone4, w6, hw6, x6, HST, H6⟩ := HP.out w4 cl' hb4 hr4 hn4; clear hr4 hn4 hb4) | (refine wpList_store_mid rfl 38 _ _ rfl _ _ cl' rfl rfl ht4 hinf4s hone4 ?_; simp only [Act.put]))
  try rw [hw6]
  clear hw6 hr hinf hcv HR HP
  go_upto_region 8 with (first | (go_at_call 21; refine H6.out.mono ?_; rintro e w7 ⟨rfl, H7⟩))
  have hS8 := (H7.out _ ((Below.refl _ w7).drew)).1
  -- BEGIN hand_alA
  refine wp_region_held_drew (S := fun W => W.rangeAt w4.heap.size 0 cl'.toList ∧ W.there (W0.heap.size + 2) 0 cl'.size) (by kernel_rfl) ?_ (fun hHeld => ?_)
  · exact hS8
  refine wpAnyH_take (i := 0) (oi := { dst := some 50, op := Go.Op.move (Go.Operand.tmp 0), type := 29, pos := "law.go:60", after := #[], guard := none }) (v := ?v0a) rfl (by kernel_rfl) (by kernel_rfl) (by kernel_rfl) (fun _ _ _ h => h) (Or.inl ⟨by rfl, ?hy0a⟩) hHeld ?rest0a
  case hy0a => (intro W hSw; (try dsimp only at hSw); go_simp; try with_reducible rfl)
  try simp only [Act.put, List.setIfInBounds_toArray, List.set_cons_zero, List.set_cons_succ]
  refine wpAnyH_take (i := 1) (oi := { dst := some 51, op := Go.Op.load 38 (Go.Operand.tmp 11), type := 38, pos := "law.go:60", after := #[{ on := 11, ground := Go.Ground.gcOnly Go.Departure.lateStores }], guard := none }) (v := _) rfl (by kernel_rfl) (by kernel_rfl) (by kernel_rfl) (fun _ _ _ h => h) (yieldsIf_load_mid (by rfl) 38 _ rfl _ _ rfl _ _ (fun W hSw => hSw.1) hu rfl hinf4) hHeld ?_
  try simp only [Array.toArray_toList, Act.put, List.setIfInBounds_toArray, List.set_cons_zero, List.set_cons_succ]
  refine wpAnyH_take (i := 2) (oi := { dst := some 52, op := Go.Op.move (Go.Operand.tmp 14), type := 3, pos := "law.go:60", after := #[], guard := none }) (v := ?v2a) rfl (by kernel_rfl) (by kernel_rfl) (by kernel_rfl) (fun _ _ _ h => h) (Or.inl ⟨by rfl, ?hy2a⟩) hHeld ?rest2a
  case hy2a => (intro W hSw; (try dsimp only at hSw); go_simp; try with_reducible rfl)
  try simp only [Act.put, List.setIfInBounds_toArray, List.set_cons_zero, List.set_cons_succ]
  refine wpAnyH_take (i := 3) (oi := { dst := some 53, op := Go.Op.move (Go.Operand.tmp 12), type := 3, pos := "law.go:60", after := #[], guard := none }) (v := ?v3a) rfl (by kernel_rfl) (by kernel_rfl) (by kernel_rfl) (fun _ _ _ h => h) (Or.inl ⟨by rfl, ?hy3a⟩) hHeld ?rest3a
  case hy3a => (intro W hSw; (try dsimp only at hSw); go_simp; try with_reducible rfl)
  try simp only [Act.put, List.setIfInBounds_toArray, List.set_cons_zero, List.set_cons_succ]
  refine wpAnyH_take (i := 4) (oi := { dst := some 54, op := Go.Op.binOp Go.BinOp.eql 3 (Go.Operand.tmp 52) (Go.Operand.tmp 53) 3, type := 4, pos := "law.go:60", after := #[{ on := 2, ground := Go.Ground.data }, { on := 3, ground := Go.Ground.data }], guard := none }) (v := .bool true) rfl (by kernel_rfl) (by kernel_rfl) (by kernel_rfl) (fun _ _ _ h => h) (Or.inl ⟨by rfl, ?hy4a⟩) hHeld ?rest4a
  case hy4a => (intro W hSw; (try dsimp only at hSw); go_simp; try with_reducible rfl)
  try simp only [Act.put, List.setIfInBounds_toArray, List.set_cons_zero, List.set_cons_succ]
  refine wpAnyH_take (i := 5) (oi := { dst := some 55, op := Go.Op.move (Go.Operand.tmp 54), type := 4, pos := "law.go:60", after := #[{ on := 4, ground := Go.Ground.data }], guard := none }) (v := .bool true) rfl (by kernel_rfl) (by kernel_rfl) (by kernel_rfl) (fun _ _ _ h => h) (Or.inl ⟨by rfl, ?hy5a⟩) hHeld ?rest5a
  case hy5a => (intro W hSw; (try dsimp only at hSw); go_simp; try with_reducible rfl)
  try simp only [Act.put, List.setIfInBounds_toArray, List.set_cons_zero, List.set_cons_succ]
  refine wpAnyH_take (i := 6) (oi := { dst := some 56, op := Go.Op.move (Go.Operand.tmp 15), type := 26, pos := "law.go:60", after := #[{ on := 5, ground := Go.Ground.guard }], guard := some (5, true) }) (v := ?v6a) rfl (by kernel_rfl) (by kernel_rfl) (by kernel_rfl) (fun _ _ _ h => h) (Or.inl ⟨by rfl, ?hy6a⟩) hHeld ?rest6a
  case hy6a => (intro W hSw; (try dsimp only at hSw); go_simp; try with_reducible rfl)
  try simp only [Act.put, List.setIfInBounds_toArray, List.set_cons_zero, List.set_cons_succ]
  refine wpAnyH_take (i := 8) (oi := { dst := some 58, op := Go.Op.move (Go.Operand.tmp 13), type := 3, pos := "law.go:60", after := #[{ on := 5, ground := Go.Ground.guard }, { on := 12, ground := Go.Ground.gcOnly Go.Departure.lateStores }], guard := some (5, true) }) (v := ?v8a) rfl (by kernel_rfl) (by kernel_rfl) (by kernel_rfl) (fun _ _ _ h => h) (Or.inl ⟨by rfl, ?hy8a⟩) hHeld ?rest8a
  case hy8a => (intro W hSw; (try dsimp only at hSw); go_simp; try with_reducible rfl)
  try simp only [Act.put, List.setIfInBounds_toArray, List.set_cons_zero, List.set_cons_succ]
  refine wpAnyH_ready (rs := [7]) (by kernel_rfl) (by simp) ?_
  refine AllReadyH.cons (o := { dst := some 57, op := Go.Op.call { callee := Go.Callee.value (Go.Operand.func 9), args := #[Go.Operand.tmp 56], argTypes := #[26] }, type := 3, pos := "law.go:60", after := #[{ on := 6, ground := Go.Ground.data }, { on := 5, ground := Go.Ground.chain }, { on := 5, ground := Go.Ground.guard }], guard := some (5, true) }) rfl (fun K hK => ?_) AllReadyH.nil
  go_simp
  go_at_call 9
  refine (lnum10_any _ _).mono ?_
  rintro e wx ⟨rfl, rfl⟩
  refine hK.out _ _ (hHeld) (fun hHeld' => ?_)
  clear hK K hHeld
  have hHeld := hHeld'
  clear hHeld'
  try simp only [Act.put, List.setIfInBounds_toArray, List.set_cons_zero, List.set_cons_succ]
  refine wpAnyH_take (i := 9) (oi := { dst := some 59, op := Go.Op.binOp Go.BinOp.eql 3 (Go.Operand.tmp 57) (Go.Operand.tmp 58) 3, type := 4, pos := "law.go:60", after := #[{ on := 7, ground := Go.Ground.data }, { on := 8, ground := Go.Ground.data }, { on := 5, ground := Go.Ground.guard }, { on := 12, ground := Go.Ground.gcOnly Go.Departure.lateStores }], guard := some (5, true) }) (v := .bool true) rfl (by kernel_rfl) (by kernel_rfl) (by kernel_rfl) (fun _ _ _ h => h) (Or.inl ⟨by rfl, ?hy9a⟩) hHeld ?rest9a
  case hy9a => (intro W hSw; (try dsimp only at hSw); go_simp; try with_reducible rfl)
  try simp only [Act.put, List.setIfInBounds_toArray, List.set_cons_zero, List.set_cons_succ]
  refine wpAnyH_take (i := 10) (oi := { dst := some 60, op := Go.Op.pick (Go.Operand.tmp 55) (Go.Operand.tmp 59) (Go.Operand.const (Go.Value.bool false)), type := 4, pos := "law.go:60", after := #[{ on := 5, ground := Go.Ground.data }, { on := 9, ground := Go.Ground.data }, { on := 12, ground := Go.Ground.gcOnly Go.Departure.lateStores }], guard := none }) (v := .bool true) rfl (by kernel_rfl) (by kernel_rfl) (by kernel_rfl) (fun _ _ _ h => h) (Or.inl ⟨by rfl, ?hy10a⟩) hHeld ?rest10a
  case hy10a => (intro W hSw; (try dsimp only at hSw); go_simp; try with_reducible rfl)
  try simp only [Act.put, List.setIfInBounds_toArray, List.set_cons_zero, List.set_cons_succ]
  refine wpAnyH_take (i := 11) (oi := { dst := some 8, op := Go.Op.assign (Go.Operand.tmp 50), type := 29, pos := "law.go:60", after := #[{ on := 0, ground := Go.Ground.data }, { on := 7, ground := Go.Ground.chain }, { on := 0, ground := Go.Ground.phase }, { on := 1, ground := Go.Ground.textOnly Go.Departure.lateStores }, { on := 2, ground := Go.Ground.textOnly Go.Departure.lateStores }, { on := 3, ground := Go.Ground.textOnly Go.Departure.lateStores }, { on := 4, ground := Go.Ground.textOnly Go.Departure.lateStores }, { on := 5, ground := Go.Ground.textOnly Go.Departure.lateStores }, { on := 6, ground := Go.Ground.textOnly Go.Departure.lateStores }, { on := 7, ground := Go.Ground.textOnly Go.Departure.lateStoresUnsure }, { on := 8, ground := Go.Ground.textOnly Go.Departure.lateStores }, { on := 9, ground := Go.Ground.textOnly Go.Departure.lateStores }, { on := 10, ground := Go.Ground.textOnly Go.Departure.lateStores }], guard := none }) (v := ?v11a) rfl (by kernel_rfl) (by kernel_rfl) (by kernel_rfl) (fun _ _ _ h => h) (Or.inl ⟨by rfl, ?hy11a⟩) hHeld ?rest11a
  case hy11a => (intro W hSw; (try dsimp only at hSw); go_simp; try with_reducible rfl)
  try simp only [Act.put, List.setIfInBounds_toArray, List.set_cons_zero, List.set_cons_succ]
  refine wpAnyH_ready (rs := [12]) (by kernel_rfl) (by simp) ?_
  refine AllReadyH.cons (o := { dst := none, op := Go.Op.store 38 (Go.Operand.tmp 9) (Go.Operand.tmp 51), type := 0, pos := "law.go:60", after := #[{ on := 1, ground := Go.Ground.data }, { on := 11, ground := Go.Ground.chain }, { on := 0, ground := Go.Ground.phase }, { on := 1, ground := Go.Ground.phase }, { on := 2, ground := Go.Ground.textOnly Go.Departure.lateStores }, { on := 3, ground := Go.Ground.textOnly Go.Departure.lateStores }, { on := 4, ground := Go.Ground.textOnly Go.Departure.lateStores }, { on := 5, ground := Go.Ground.textOnly Go.Departure.lateStores }, { on := 6, ground := Go.Ground.textOnly Go.Departure.lateStores }, { on := 7, ground := Go.Ground.textOnly Go.Departure.lateStoresUnsure }, { on := 8, ground := Go.Ground.textOnly Go.Departure.lateStores }, { on := 9, ground := Go.Ground.textOnly Go.Departure.lateStores }, { on := 10, ground := Go.Ground.textOnly Go.Departure.lateStores }, { on := 11, ground := Go.Ground.phase }], guard := none }) rfl (fun K hK => ?_) AllReadyH.nil
  rw [if_pos (by rfl)]
  refine wp_store_mid 38 _ _ rfl _ _ cl' rfl rfl hHeld.2 hinf4s hone4 ?_
  refine hK.out _ _ (HST.out _ hHeld) (fun hHeld' => ?_)
  clear hK K hHeld
  have hHeld := hHeld'
  clear hHeld'
  try simp only [Act.put, List.setIfInBounds_toArray, List.set_cons_zero, List.set_cons_succ]
  refine wpAnyH_take (i := 13) (oi := { dst := some 10, op := Go.Op.assign (Go.Operand.tmp 60), type := 4, pos := "law.go:60", after := #[{ on := 10, ground := Go.Ground.data }, { on := 12, ground := Go.Ground.chain }, { on := 0, ground := Go.Ground.phase }, { on := 1, ground := Go.Ground.phase }, { on := 2, ground := Go.Ground.phase }, { on := 3, ground := Go.Ground.phase }, { on := 4, ground := Go.Ground.phase }, { on := 5, ground := Go.Ground.phase }, { on := 6, ground := Go.Ground.phase }, { on := 7, ground := Go.Ground.phase }, { on := 8, ground := Go.Ground.phase }, { on := 9, ground := Go.Ground.phase }, { on := 10, ground := Go.Ground.phase }, { on := 11, ground := Go.Ground.phase }, { on := 12, ground := Go.Ground.phase }], guard := none }) (v := ?v13a) rfl (by kernel_rfl) (by kernel_rfl) (by kernel_rfl) (fun _ _ _ h => h) (Or.inl ⟨by rfl, ?hy13a⟩) hHeld ?rest13a
  case hy13a => (intro W hSw; (try dsimp only at hSw); go_simp; try with_reducible rfl)
  try simp only [Act.put, List.setIfInBounds_toArray, List.set_cons_zero, List.set_cons_succ]
  refine wpAnyH_done (by kernel_rfl) ?_ _
  try dsimp only
  try simp only [Act.put, List.setIfInBounds_toArray, List.set_cons_zero, List.set_cons_succ]
  -- END hand_alA
  go_wp2_with fail
  have hE := (H7.out _ ((Below.refl _ w7).drew)).2
  refine bodyPost_ret (v := .tuple #[.pointer (some ⟨q, 0, none⟩), .agg cl', .bool true]) (by simp [results, Tryz.results12, asAddr, hE.1]) rfl ⟨q, cl', D', t, rfl, hE.2.1, hlen, hE.2.2⟩
end Go.Proofs.YtbhgcioeibhjeaaGreatDoor
namespace Go.Proofs.YtbhgcioeibhjeaaGreatDoor
open Go.RowKit

set_option maxRecDepth 1000000 in
set_option maxHeartbeats 8000000 in
theorem act_app_ok3 {Ξ : Nat → Prop} {w W0 : World} {q p : Nat} {cl : Array Value} {D : Dk} {f : Nat} {t : Int} (h : LS Ξ w W0 q p cl D f t) (hET : HasET w) (hf : f < 64) (hfew : D.L.length < 900) (kp tn : Int) (bs : Value) (l : List UInt8) (hbt : BytesOf W0 bs l) (hl : l.length ≤ 60) (hok : ¬ D.left < ((recL l).length : Nat)) :
    Calls Tryz.prog 12 #[.pointer (some ⟨q, 0, none⟩), .pointer (some ⟨p, 0, none⟩), .agg cl, .agg #[.int .i64 3, .int .i64 kp, .int .i64 tn, bs]] W0 (ActPost Ξ w W0 p D f) := by
  obtain ⟨ob, cb, hform⟩ := hbt.form
  subst hform
  obtain ⟨w3, hw3⟩ : ∃ w3, ((W0.alloc (.cells cl 38)).alloc (.cells #[.int .i64 3, .int .i64 kp, .int .i64 tn, .slice ob l.length cb] 45)).alloc (.cells Tryz.zeroCells38 38) = w3 := ⟨_, rfl⟩
  have hT : LB W0 w3 cl 3 kp tn (.slice ob l.length cb) := by rw [← hw3]; exact LB.start W0 cl 3 kp tn (.slice ob l.length cb)
  have hx0 := hT.a0
  have hx3 := hT.a3
  have hr := hT.b0.range
  have hu := Tryz.underlying38
  have hinf : (Tryz.prog.info? 38).map (·.size) = some cl.toList.length := by rw [Array.length_toList, h.ref.size]; exact info68
  have HR := Lib.hid (rLApp_new (h.keep hT.below).ref h.run.inv hf l (by omega) hok)
  have hcv := bytes_string (hbt.keep hT.below (Nat.le_refl _)).at
  obtain ⟨D', hD'⟩ : ∃ D', D.did (.put f ⟨(recL l).toArray⟩) = D' := ⟨_, rfl⟩
  have HP := Lib.hid (app_boxes h hET hf hfew hT l hbt hl hok)
  rw [hD'] at HR HP
  have hlen : D'.L.length ≤ D.L.length + 1 := by rw [← hD']; simp [Dk.did]
  clear h hET hfew hbt hok hD' hl
  generalize (D.F f).length = n at *
  go_enter Tryz.func12, Tryz.ntmps12
  go_upto_region 7 with (first | (refine wpList_load_mid rfl 38 _ rfl _ _ rfl _ _ hr hu rfl hinf ?_; simp only [Act.put, Array.toArray_toList, List.setIfInBounds_toArray, List.set_cons_zero, List.set_cons_succ]) | (go_at_call 33; refine HR.out.mono ?_; rintro e w4 ⟨cl', rfl, hr4, hn4, hb4⟩; obtain ⟨ht4, hinf4, hinf4s, hone4, w6, hw6, x6, HST, H6⟩ := HP.out w4 cl' hb4 hr4 hn4; clear hr4 hn4 hb4) | (refine wpList_store_mid rfl 38 _ _ rfl _ _ cl' rfl rfl ht4 hinf4s hone4 ?_; simp only [Act.put]))
  try rw [hw6]
  clear hw6 hr hinf hcv HR HP
  go_upto_region 8 with (first | (go_at_call 21; refine H6.out.mono ?_; rintro e w7 ⟨rfl, H7⟩))
  have hS8 := (H7.out _ ((Below.refl _ w7).drew)).1
  -- BEGIN hand_alA
  refine wp_region_held_drew (S := fun W => W.rangeAt w4.heap.size 0 cl'.toList ∧ W.there (W0.heap.size + 2) 0 cl'.size) (by kernel_rfl) ?_ (fun hHeld => ?_)
  · exact hS8
  refine wpAnyH_take (i := 0) (oi := { dst := some 50, op := Go.Op.move (Go.Operand.tmp 0), type := 29, pos := "law.go:60", after := #[], guard := none }) (v := ?v0a) rfl (by kernel_rfl) (by kernel_rfl) (by kernel_rfl) (fun _ _ _ h => h) (Or.inl ⟨by rfl, ?hy0a⟩) hHeld ?rest0a
  case hy0a => (intro W hSw; (try dsimp only at hSw); go_simp; try with_reducible rfl)
  try simp only [Act.put, List.setIfInBounds_toArray, List.set_cons_zero, List.set_cons_succ]
  refine wpAnyH_take (i := 1) (oi := { dst := some 51, op := Go.Op.load 38 (Go.Operand.tmp 11), type := 38, pos := "law.go:60", after := #[{ on := 11, ground := Go.Ground.gcOnly Go.Departure.lateStores }], guard := none }) (v := _) rfl (by kernel_rfl) (by kernel_rfl) (by kernel_rfl) (fun _ _ _ h => h) (yieldsIf_load_mid (by rfl) 38 _ rfl _ _ rfl _ _ (fun W hSw => hSw.1) hu rfl hinf4) hHeld ?_
  try simp only [Array.toArray_toList, Act.put, List.setIfInBounds_toArray, List.set_cons_zero, List.set_cons_succ]
  refine wpAnyH_take (i := 2) (oi := { dst := some 52, op := Go.Op.move (Go.Operand.tmp 14), type := 3, pos := "law.go:60", after := #[], guard := none }) (v := ?v2a) rfl (by kernel_rfl) (by kernel_rfl) (by kernel_rfl) (fun _ _ _ h => h) (Or.inl ⟨by rfl, ?hy2a⟩) hHeld ?rest2a
  case hy2a => (intro W hSw; (try dsimp only at hSw); go_simp; try with_reducible rfl)
  try simp only [Act.put, List.setIfInBounds_toArray, List.set_cons_zero, List.set_cons_succ]
  refine wpAnyH_take (i := 3) (oi := { dst := some 53, op := Go.Op.move (Go.Operand.tmp 12), type := 3, pos := "law.go:60", after := #[], guard := none }) (v := ?v3a) rfl (by kernel_rfl) (by kernel_rfl) (by kernel_rfl) (fun _ _ _ h => h) (Or.inl ⟨by rfl, ?hy3a⟩) hHeld ?rest3a
  case hy3a => (intro W hSw; (try dsimp only at hSw); go_simp; try with_reducible rfl)
  try simp only [Act.put, List.setIfInBounds_toArray, List.set_cons_zero, List.set_cons_succ]
  refine wpAnyH_take (i := 4) (oi := { dst := some 54, op := Go.Op.binOp Go.BinOp.eql 3 (Go.Operand.tmp 52) (Go.Operand.tmp 53) 3, type := 4, pos := "law.go:60", after := #[{ on := 2, ground := Go.Ground.data }, { on := 3, ground := Go.Ground.data }], guard := none }) (v := .bool true) rfl (by kernel_rfl) (by kernel_rfl) (by kernel_rfl) (fun _ _ _ h => h) (Or.inl ⟨by rfl, ?hy4a⟩) hHeld ?rest4a
  case hy4a => (intro W hSw; (try dsimp only at hSw); go_simp; try with_reducible rfl)
  try simp only [Act.put, List.setIfInBounds_toArray, List.set_cons_zero, List.set_cons_succ]
  refine wpAnyH_take (i := 5) (oi := { dst := some 55, op := Go.Op.move (Go.Operand.tmp 54), type := 4, pos := "law.go:60", after := #[{ on := 4, ground := Go.Ground.data }], guard := none }) (v := .bool true) rfl (by kernel_rfl) (by kernel_rfl) (by kernel_rfl) (fun _ _ _ h => h) (Or.inl ⟨by rfl, ?hy5a⟩) hHeld ?rest5a
  case hy5a => (intro W hSw; (try dsimp only at hSw); go_simp; try with_reducible rfl)
  try simp only [Act.put, List.setIfInBounds_toArray, List.set_cons_zero, List.set_cons_succ]
  refine wpAnyH_take (i := 6) (oi := { dst := some 56, op := Go.Op.move (Go.Operand.tmp 15), type := 26, pos := "law.go:60", after := #[{ on := 5, ground := Go.Ground.guard }], guard := some (5, true) }) (v := ?v6a) rfl (by kernel_rfl) (by kernel_rfl) (by kernel_rfl) (fun _ _ _ h => h) (Or.inl ⟨by rfl, ?hy6a⟩) hHeld ?rest6a
  case hy6a => (intro W hSw; (try dsimp only at hSw); go_simp; try with_reducible rfl)
  try simp only [Act.put, List.setIfInBounds_toArray, List.set_cons_zero, List.set_cons_succ]
  refine wpAnyH_take (i := 8) (oi := { dst := some 58, op := Go.Op.move (Go.Operand.tmp 13), type := 3, pos := "law.go:60", after := #[{ on := 5, ground := Go.Ground.guard }, { on := 12, ground := Go.Ground.gcOnly Go.Departure.lateStores }], guard := some (5, true) }) (v := ?v8a) rfl (by kernel_rfl) (by kernel_rfl) (by kernel_rfl) (fun _ _ _ h => h) (Or.inl ⟨by rfl, ?hy8a⟩) hHeld ?rest8a
  case hy8a => (intro W hSw; (try dsimp only at hSw); go_simp; try with_reducible rfl)
  try simp only [Act.put, List.setIfInBounds_toArray, List.set_cons_zero, List.set_cons_succ]
  refine wpAnyH_ready (rs := [7]) (by kernel_rfl) (by simp) ?_
  refine AllReadyH.cons (o := { dst := some 57, op := Go.Op.call { callee := Go.Callee.value (Go.Operand.func 9), args := #[Go.Operand.tmp 56], argTypes := #[26] }, type := 3, pos := "law.go:60", after := #[{ on := 6, ground := Go.Ground.data }, { on := 5, ground := Go.Ground.chain }, { on := 5, ground := Go.Ground.guard }], guard := some (5, true) }) rfl (fun K hK => ?_) AllReadyH.nil
  go_simp
  go_at_call 9
  refine (lnum10_any _ _).mono ?_
  rintro e wx ⟨rfl, rfl⟩
  refine hK.out _ _ (hHeld) (fun hHeld' => ?_)
  clear hK K hHeld
  have hHeld := hHeld'
  clear hHeld'
  try simp only [Act.put, List.setIfInBounds_toArray, List.set_cons_zero, List.set_cons_succ]
  refine wpAnyH_take (i := 9) (oi := { dst := some 59, op := Go.Op.binOp Go.BinOp.eql 3 (Go.Operand.tmp 57) (Go.Operand.tmp 58) 3, type := 4, pos := "law.go:60", after := #[{ on := 7, ground := Go.Ground.data }, { on := 8, ground := Go.Ground.data }, { on := 5, ground := Go.Ground.guard }, { on := 12, ground := Go.Ground.gcOnly Go.Departure.lateStores }], guard := some (5, true) }) (v := .bool true) rfl (by kernel_rfl) (by kernel_rfl) (by kernel_rfl) (fun _ _ _ h => h) (Or.inl ⟨by rfl, ?hy9a⟩) hHeld ?rest9a
  case hy9a => (intro W hSw; (try dsimp only at hSw); go_simp; try with_reducible rfl)
  try simp only [Act.put, List.setIfInBounds_toArray, List.set_cons_zero, List.set_cons_succ]
  refine wpAnyH_take (i := 10) (oi := { dst := some 60, op := Go.Op.pick (Go.Operand.tmp 55) (Go.Operand.tmp 59) (Go.Operand.const (Go.Value.bool false)), type := 4, pos := "law.go:60", after := #[{ on := 5, ground := Go.Ground.data }, { on := 9, ground := Go.Ground.data }, { on := 12, ground := Go.Ground.gcOnly Go.Departure.lateStores }], guard := none }) (v := .bool true) rfl (by kernel_rfl) (by kernel_rfl) (by kernel_rfl) (fun _ _ _ h => h) (Or.inl ⟨by rfl, ?hy10a⟩) hHeld ?rest10a
  case hy10a => (intro W hSw; (try dsimp only at hSw); go_simp; try with_reducible rfl)
  try simp only [Act.put, List.setIfInBounds_toArray, List.set_cons_zero, List.set_cons_succ]
  refine wpAnyH_take (i := 11) (oi := { dst := some 8, op := Go.Op.assign (Go.Operand.tmp 50), type := 29, pos := "law.go:60", after := #[{ on := 0, ground := Go.Ground.data }, { on := 7, ground := Go.Ground.chain }, { on := 0, ground := Go.Ground.phase }, { on := 1, ground := Go.Ground.textOnly Go.Departure.lateStores }, { on := 2, ground := Go.Ground.textOnly Go.Departure.lateStores }, { on := 3, ground := Go.Ground.textOnly Go.Departure.lateStores }, { on := 4, ground := Go.Ground.textOnly Go.Departure.lateStores }, { on := 5, ground := Go.Ground.textOnly Go.Departure.lateStores }, { on := 6, ground := Go.Ground.textOnly Go.Departure.lateStores }, { on := 7, ground := Go.Ground.textOnly Go.Departure.lateStoresUnsure }, { on := 8, ground := Go.Ground.textOnly Go.Departure.lateStores }, { on := 9, ground := Go.Ground.textOnly Go.Departure.lateStores }, { on := 10, ground := Go.Ground.textOnly Go.Departure.lateStores }], guard := none }) (v := ?v11a) rfl (by kernel_rfl) (by kernel_rfl) (by kernel_rfl) (fun _ _ _ h => h) (Or.inl ⟨by rfl, ?hy11a⟩) hHeld ?rest11a
  case hy11a => (intro W hSw; (try dsimp only at hSw); go_simp; try with_reducible rfl)
  try simp only [Act.put, List.setIfInBounds_toArray, List.set_cons_zero, List.set_cons_succ]
  refine wpAnyH_ready (rs := [12]) (by kernel_rfl) (by simp) ?_
  refine AllReadyH.cons (o := { dst := none, op := Go.Op.store 38 (Go.Operand.tmp 9) (Go.Operand.tmp 51), type := 0, pos := "law.go:60", after := #[{ on := 1, ground := Go.Ground.data }, { on := 11, ground := Go.Ground.chain }, { on := 0, ground := Go.Ground.phase }, { on := 1, ground := Go.Ground.phase }, { on := 2, ground := Go.Ground.textOnly Go.Departure.lateStores }, { on := 3, ground := Go.Ground.textOnly Go.Departure.lateStores }, { on := 4, ground := Go.Ground.textOnly Go.Departure.lateStores }, { on := 5, ground := Go.Ground.textOnly Go.Departure.lateStores }, { on := 6, ground := Go.Ground.textOnly Go.Departure.lateStores }, { on := 7, ground := Go.Ground.textOnly Go.Departure.lateStoresUnsure }, { on := 8, ground := Go.Ground.textOnly Go.Departure.lateStores }, { on := 9, ground := Go.Ground.textOnly Go.Departure.lateStores }, { on := 10, ground := Go.Ground.textOnly Go.Departure.lateStores }, { on := 11, ground := Go.Ground.phase }], guard := none }) rfl (fun K hK => ?_) AllReadyH.nil
  rw [if_pos (by rfl)]
  refine wp_store_mid 38 _ _ rfl _ _ cl' rfl rfl hHeld.2 hinf4s hone4 ?_
  refine hK.out _ _ (HST.out _ hHeld) (fun hHeld' => ?_)
  clear hK K hHeld
  have hHeld := hHeld'
  clear hHeld'
  try simp only [Act.put, List.setIfInBounds_toArray, List.set_cons_zero, List.set_cons_succ]
  refine wpAnyH_take (i := 13) (oi := { dst := some 10, op := Go.Op.assign (Go.Operand.tmp 60), type := 4, pos := "law.go:60", after := #[{ on := 10, ground := Go.Ground.data }, { on := 12, ground := Go.Ground.chain }, { on := 0, ground := Go.Ground.phase }, { on := 1, ground := Go.Ground.phase }, { on := 2, ground := Go.Ground.phase }, { on := 3, ground := Go.Ground.phase }, { on := 4, ground := Go.Ground.phase }, { on := 5, ground := Go.Ground.phase }, { on := 6, ground := Go.Ground.phase }, { on := 7, ground := Go.Ground.phase }, { on := 8, ground := Go.Ground.phase }, { on := 9, ground := Go.Ground.phase }, { on := 10, ground := Go.Ground.phase }, { on := 11, ground := Go.Ground.phase }, { on := 12, ground := Go.Ground.phase }], guard := none }) (v := ?v13a) rfl (by kernel_rfl) (by kernel_rfl) (by kernel_rfl) (fun _ _ _ h => h) (Or.inl ⟨by rfl, ?hy13a⟩) hHeld ?rest13a
  case hy13a => (intro W hSw; (try dsimp only at hSw); go_simp; try with_reducible rfl)
  try simp only [Act.put, List.setIfInBounds_toArray, List.set_cons_zero, List.set_cons_succ]
  refine wpAnyH_done (by kernel_rfl) ?_ _
  try dsimp only
  try simp only [Act.put, List.setIfInBounds_toArray, List.set_cons_zero, List.set_cons_succ]
  -- END hand_alA
  go_wp2_with fail
  have hE := (H7.out _ ((Below.refl _ w7).drew)).2
  refine bodyPost_ret (v := .tuple #[.pointer (some ⟨q, 0, none⟩), .agg cl', .bool true]) (by simp [results, Tryz.results12, asAddr, hE.1]) rfl ⟨q, cl', D', t, rfl, hE.2.1, hlen, hE.2.2⟩
end Go.Proofs.YtbhgcioeibhjeaaGreatDoor
