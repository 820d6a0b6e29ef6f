/-
  parts that belong together.
-/
import Derived.Test.YtbhgcioeibhjeaaGreatDoorLRZA
import Derived.Test.YtbhgcioeibhjeaaGreatDoorLrU
namespace Go.Proofs.YtbhgcioeibhjeaaGreatDoor
open Go.RowKit

theorem LK.lrun {Ψ : Nat → Prop} {V0 w W : World} {q p : Nat} {D : Dk} {f e t : Int} (h : LK Ψ V0 w W q p D f e t) : LRun w W q p D f e t := by
  obtain ⟨Φ, h1, h2, h3, h4, h5, h6, _⟩ := h
  exact ⟨Φ, h1, h2, h3, h4, h5, h6⟩
/-- what Read tells of a file's records -/
def rdO (lf : List UInt8) (p : Int) : List UInt8 × Int × Int := match findO lf p with
  | some b => (b, p + 8 + b.length, 0)
  | none => ([], 0, 4)
theorem rd_prog {w W : World} {q p : Nat} {D : Dk} {e t : Int} {f : Nat} (h : LRun w W q p D f e t) (hET : HasET w) (hf : f < 64) (i : Int) :
    Calls Tryz.prog 22 #[.pointer (some ⟨q, 0, none⟩), .int .i64 i] W fun x W' => ∃ v, x = .returned (.tuple #[v, .int .i64 (rdO (D.F f) i).2.1, .int .i64 (rdO (D.F f) i).2.2]) ∧ BtAt W' v (rdO (D.F f) i).1 ∧ Below W.heap.size W W' := by
  unfold rdO
  cases hb : findO (D.F f) i with
  | none =>
    refine (lRead_no h hET hf i hb).mono ?_
    rintro x W' ⟨rfl, h2⟩
    exact ⟨_, rfl, ⟨none, 0, rfl, fun j hj => absurd hj (Nat.not_lt_zero j)⟩, h2⟩
  | some b =>
    obtain ⟨k, hk, _⟩ := findO_piece hb
    subst hk
    refine (lRead_yes h hf k b hb).mono ?_
    rintro x W' ⟨⟨v, rfl, h1⟩, h2⟩
    exact ⟨v, by simp, h1, h2⟩
theorem rd_ref {w : World} {cl : Array Value} {D : Dk} {f : Nat} {t : Int} (h : RLg w cl D f t) (hi : D.Inv) (hf : f < 64) (hg : ∃ L, D.F f = catR L ∧ ∀ b ∈ L, b.length ≤ 60000) (p : Int) :
    Calls Tryz.prog 36 #[.agg cl, .int .i64 p] w fun e w' => e = .returned (.tuple #[.string ⟨(rdO (D.F f) p).1.toArray⟩, .int .i64 (rdO (D.F f) p).2.1, .int .i64 (rdO (D.F f) p).2.2]) ∧ Below w.heap.size w w' := by
  obtain ⟨L, h1, h2⟩ := hg
  have hz : RLz (D.F f) p = fromL (recsAt 0 (recsL (D.F f))) p := by rw [h1]; exact RLz_from L h2 p
  refine (rLRead_any h hi hf p).mono ?_
  rintro e w' ⟨h3, h4⟩
  refine ⟨?_, h4⟩
  rw [← hz] at h3
  unfold rdO
  cases hb : findO (D.F f) p with
  | none =>
    rw [RLz_none hb] at h3
    exact h3
  | some b =>
    obtain ⟨k, hk, hp⟩ := findO_piece hb
    subst hk
    have e2 : RLz (D.F f) (k : Int) = (k, b) :: walkW (D.F f).length (pieceO (D.F f)) (k + 8 + b.length) := by
      unfold RLz
      rw [hb]
      exact walkW_some (step_piece _) hp
    rw [e2] at h3
    simpa using h3
theorem zeroL_noU8 : Tryz.zeroCells38.toList.all (fun u => match u with | .int .u8 _ => false | _ => true) = true := by kernel_rfl
/-- bytes do not lie in a block that holds a log -/
theorem bt_far {V : World} {b : Nat} {v : Value} {l : List UInt8} (hz : LBox V b Tryz.zeroCells38) (h : BtAt V v l) (vs : List Value) : BtAt (V.setCells b 0 vs) v l := by
  obtain ⟨oa, cap, e, hc⟩ := h
  refine ⟨oa, cap, e, fun j hj => ?_⟩
  obtain ⟨a, ha, hcell⟩ := hc j hj
  refine ⟨a, ha, ?_⟩
  rw [World.cell?_setCells_out _ _ _ _ _ (fun e => ?_)]
  · exact hcell
  · exfalso
    unfold World.cell? at hcell
    rw [e, show V.heap[b]? = _ from hz] at hcell
    simp only at hcell
    split at hcell
    · cases hcell
    · have hm := List.all_eq_true.1 zeroL_noU8 _ (Array.mem_toList_iff.2 (Array.mem_of_getElem? hcell))
      simp at hm
/-- the end: the log's value in the result's box -/
theorem read_end {Ξ : Nat → Prop} {w W0 w3 : World} {q p : Nat} {cl : Array Value} {D : Dk} {f : Nat} {t : Int} (h : LS Ξ w W0 q p cl D f t) {wh kp tn : Int} {bs : Value} (hT : LB W0 w3 cl wh kp tn bs) :
    ∀ V, Below w3.heap.size w3 V → ∀ v l, BtAt V v l → (V.rangeAt W0.heap.size 0 cl.toList ∧ V.there (W0.heap.size + 2) 0 cl.size ∧ BtAt V v l) ∧ ((V.setCells (W0.heap.size + 2) 0 cl.toList).rangeAt W0.heap.size 0 cl.toList ∧ (V.setCells (W0.heap.size + 2) 0 cl.toList).there (W0.heap.size + 2) 0 cl.size ∧ BtAt (V.setCells (W0.heap.size + 2) 0 cl.toList) v l) ∧ (loadVar 38 ⟨W0.heap.size + 2, 0, none⟩).run Tryz.prog (V.setCells (W0.heap.size + 2) 0 cl.toList) = .ok (.agg cl) (V.setCells (W0.heap.size + 2) 0 cl.toList) ∧ LS Ξ w (V.setCells (W0.heap.size + 2) 0 cl.toList) q p cl D f t ∧ ∀ k, Ξ k → (V.setCells (W0.heap.size + 2) 0 cl.toList).heap[k]? = W0.heap[k]? := by
  intro V hV v l hbt
  have hwW := h.run.bel.size
  have hTV := hT.keep hV
  have hlt := hTV.b2.lt
  have hK : LK (fun k => (rowAt cl k ∨ Ξ k) ∨ W0.heap.size ≤ k ∧ k < V.heap.size) V w V q p D f ((D.F f).length : Nat) t := h.run.grow hTV.below (fun k hk => hk.elim (fun h0 => ⟨Nat.lt_of_lt_of_le (h.lt h0) hTV.below.size, .inl h0⟩) (fun h0 => ⟨h0.2, .inr h0.1⟩))
  have hr := hTV.b0.range
  have ht := hTV.b2.told zeroL_size h.ref.size
  exact ⟨⟨hr, ht.1, hbt⟩, ⟨World.rangeAt_setCells_apart hr _ _ _ (.inl (by omega)), World.there_setCells ht.1 _ _ _, bt_far hTV.b2 hbt _⟩, ht.2, LS.of hK (h.keep hTV.below).ref h.good (fun g hg' => .inl hg') (b := W0.heap.size + 2) (.inr ⟨by omega, by omega⟩) (by omega) hTV.b2 cl, fun k hk => (heap_setCellsr _ _ _ _ _ (by have := h.lt (.inr hk); omega)).trans (hTV.below.block k (h.lt (.inr hk)))⟩
set_option maxRecDepth 1000000 in
set_option maxHeartbeats 8000000 in
theorem act_read {Ξ : Nat → Prop} {w W0 : World} {q p : Nat} {cl : Array Value} {D : Dk} {f : Nat} {t : Int} (h : LS Ξ w W0 q p cl D f t) (hET : HasET w) (hf : f < 64) (wh kp tn : Int) (bs : Value) (hw : wh < 0 ∨ 5 < wh) :
    Calls Tryz.prog 12 #[.pointer (some ⟨q, 0, none⟩), .pointer (some ⟨p, 0, none⟩), .agg cl, .agg #[.int .i64 wh, .int .i64 kp, .int .i64 tn, bs]] W0 (ActPost Ξ w W0 p D f) := by
  have e0 : ¬ wh = 0 := by omega
  have e1 : ¬ wh = 1 := by omega
  have e2 : ¬ wh = 2 := by omega
  have e3 : ¬ wh = 3 := by omega
  have e4 : ¬ wh = 4 := by omega
  have e5 : ¬ wh = 5 := by omega
  obtain ⟨w3, hw3⟩ : ∃ w3, ((W0.alloc (.cells cl 38)).alloc (.cells #[.int .i64 wh, .int .i64 kp, .int .i64 tn, bs] 45)).alloc (.cells Tryz.zeroCells38 38) = w3 := ⟨_, rfl⟩
  have hT : LB W0 w3 cl wh kp tn bs := by rw [← hw3]; exact LB.start W0 cl wh kp tn bs
  have hx0 := hT.a0
  have hx1 := hT.a1
  have hu := Tryz.underlying38
  have hinf : (Tryz.prog.info? 38).map (·.size) = some cl.toList.length := by rw [Array.length_toList, h.ref.size]; exact info68
  have hinfs : (Tryz.prog.info? 38).map (·.size) = some cl.size := by rw [h.ref.size]; exact info68
  have hone := h.ref.one
  have HP := Lib.hid (rd_prog (h.keep hT.below).run.lrun hET hf kp)
  have HR := Lib.hid (fun V (hb : Below w3.heap.size w3 V) => rd_ref ((h.keep hT.below).keep hb).ref h.run.inv hf h.good kp)
  have HX := Lib.hid (fun V (hb : Below w3.heap.size w3 V) => And.intro (hT.keep hb).b0.range (hT.keep hb).a1)
  have HE := Lib.hid (read_end h hT)
  clear h hET
  generalize (rdO (D.F f) kp) = R at *
  obtain ⟨rb, rn, re⟩ := R
  simp only at HP HR
  go_enter Tryz.func12, Tryz.ntmps12
  go_upto_region 19 with (first | (go_at_call 22; refine HP.out.mono ?_; rintro e w4 ⟨v, rfl, hv4, hb4⟩; obtain ⟨ob, cb, hvf, _⟩ := id hv4; subst hvf; obtain ⟨hr4, hx4⟩ := HX.out w4 hb4; have HV4 := Lib.hid hv4; have HB4 := Lib.hid hb4; clear hv4 hb4) | (refine wpList_load_mid rfl 38 _ rfl _ _ rfl _ _ hr4 hu rfl hinf ?_; simp only [Act.put, Array.toArray_toList, List.setIfInBounds_toArray, List.set_cons_zero, List.set_cons_succ]) | (go_at_call 36; refine (HR.out w4 HB4.out).mono ?_; rintro e w5 ⟨rfl, hb5⟩; have HV5 := Lib.hid (HV4.out.keep hb5); have HB5 := Lib.hid (HB4.out.trans (hb5.mono HB4.out.size)); clear hb5))
  obtain ⟨hS8, hS9, hE1, hE2⟩ := HE.out w5.drew HB5.out.drew _ _ (HV5.out.keep ((Below.refl _ w5).drew))
  -- BEGIN hand_alC
  refine wp_region_held_drew (S := fun W => W.rangeAt W0.heap.size 0 cl.toList ∧ W.there (W0.heap.size + 2) 0 cl.size ∧ BtAt W (.slice ob rb.length cb) rb) (by kernel_rfl) ?_ (fun hHeld => ?_)
  · exact hS8
  refine wpAnyH_take (i := 0) (oi := { dst := some 128, op := Go.Op.move (Go.Operand.tmp 0), type := 29, pos := "law.go:72", after := #[], guard := none }) (v := ?v0c) rfl (by kernel_rfl) (by kernel_rfl) (by kernel_rfl) (fun _ _ _ h => h) (Or.inl ⟨by rfl, ?hy0c⟩) hHeld ?rest0c
  case hy0c => (intro W hSw; (try dsimp only at hSw); go_simp; try with_reducible rfl)
  try simp only [Act.put, List.setIfInBounds_toArray, List.set_cons_zero, List.set_cons_succ]
  refine wpAnyH_take (i := 1) (oi := { dst := some 129, op := Go.Op.load 38 (Go.Operand.tmp 6), type := 38, pos := "law.go:72", after := #[{ on := 17, ground := Go.Ground.gcOnly Go.Departure.lateStores }], guard := none }) (v := _) rfl (by kernel_rfl) (by kernel_rfl) (by kernel_rfl) (fun _ _ _ h => h) (yieldsIf_load_mid (by rfl) 38 _ rfl _ _ rfl _ _ (fun W hSw => hSw.1) hu rfl hinf) hHeld ?_
  try simp only [Array.toArray_toList, Act.put, List.setIfInBounds_toArray, List.set_cons_zero, List.set_cons_succ]
  refine wpAnyH_take (i := 2) (oi := { dst := some 130, op := Go.Op.move (Go.Operand.tmp 21), type := 43, pos := "law.go:72", after := #[], guard := none }) (v := ?v2c) rfl (by kernel_rfl) (by kernel_rfl) (by kernel_rfl) (fun _ _ _ h => h) (Or.inl ⟨by rfl, ?hy2c⟩) hHeld ?rest2c
  case hy2c => (intro W hSw; (try dsimp only at hSw); go_simp; try with_reducible rfl)
  try simp only [Act.put, List.setIfInBounds_toArray, List.set_cons_zero, List.set_cons_succ]
  refine wpAnyH_take (i := 3) (oi := { dst := some 131, op := Go.Op.convert 43 9 (Go.Operand.tmp 130), type := 9, pos := "law.go:72", after := #[{ on := 2, ground := Go.Ground.data }], guard := none }) (v := ?v3c) rfl (by kernel_rfl) (by kernel_rfl) (by kernel_rfl) (fun _ _ _ h => h) (Or.inl ⟨by rfl, ?hy3c⟩) hHeld ?rest3c
  case hy3c => (intro W hSw; (try dsimp only at hSw); (go_simp; rw [bt_string hSw.2.2]; rfl))
  try simp only [Act.put, List.setIfInBounds_toArray, List.set_cons_zero, List.set_cons_succ]
  refine wpAnyH_take (i := 4) (oi := { dst := some 132, op := Go.Op.move (Go.Operand.tmp 24), type := 9, pos := "law.go:72", after := #[], guard := none }) (v := ?v4c) rfl (by kernel_rfl) (by kernel_rfl) (by kernel_rfl) (fun _ _ _ h => h) (Or.inl ⟨by rfl, ?hy4c⟩) hHeld ?rest4c
  case hy4c => (intro W hSw; (try dsimp only at hSw); go_simp; try with_reducible rfl)
  try simp only [Act.put, List.setIfInBounds_toArray, List.set_cons_zero, List.set_cons_succ]
  refine wpAnyH_take (i := 5) (oi := { dst := some 133, op := Go.Op.binOp Go.BinOp.eql 9 (Go.Operand.tmp 131) (Go.Operand.tmp 132) 9, type := 4, pos := "law.go:72", after := #[{ on := 3, ground := Go.Ground.data }, { on := 4, ground := Go.Ground.data }], guard := none }) (v := .bool true) rfl (by kernel_rfl) (by kernel_rfl) (by kernel_rfl) (fun _ _ _ h => h) (Or.inl ⟨by rfl, ?hy5c⟩) hHeld ?rest5c
  case hy5c => (intro W hSw; (try dsimp only at hSw); go_simp; try with_reducible rfl)
  try simp only [Act.put, List.setIfInBounds_toArray, List.set_cons_zero, List.set_cons_succ]
  refine wpAnyH_take (i := 6) (oi := { dst := some 134, op := Go.Op.move (Go.Operand.tmp 133), type := 4, pos := "law.go:72", after := #[{ on := 5, ground := Go.Ground.data }], guard := none }) (v := .bool true) rfl (by kernel_rfl) (by kernel_rfl) (by kernel_rfl) (fun _ _ _ h => h) (Or.inl ⟨by rfl, ?hy6c⟩) hHeld ?rest6c
  case hy6c => (intro W hSw; (try dsimp only at hSw); go_simp; try with_reducible rfl)
  try simp only [Act.put, List.setIfInBounds_toArray, List.set_cons_zero, List.set_cons_succ]
  refine wpAnyH_take (i := 7) (oi := { dst := some 135, op := Go.Op.move (Go.Operand.tmp 22), type := 3, pos := "law.go:72", after := #[{ on := 6, ground := Go.Ground.guard }], guard := some (6, true) }) (v := ?v7c) rfl (by kernel_rfl) (by kernel_rfl) (by kernel_rfl) (fun _ _ _ h => h) (Or.inl ⟨by rfl, ?hy7c⟩) hHeld ?rest7c
  case hy7c => (intro W hSw; (try dsimp only at hSw); go_simp; try with_reducible rfl)
  try simp only [Act.put, List.setIfInBounds_toArray, List.set_cons_zero, List.set_cons_succ]
  refine wpAnyH_take (i := 8) (oi := { dst := some 136, op := Go.Op.move (Go.Operand.tmp 25), type := 3, pos := "law.go:72", after := #[{ on := 6, ground := Go.Ground.guard }], guard := some (6, true) }) (v := ?v8c) rfl (by kernel_rfl) (by kernel_rfl) (by kernel_rfl) (fun _ _ _ h => h) (Or.inl ⟨by rfl, ?hy8c⟩) hHeld ?rest8c
  case hy8c => (intro W hSw; (try dsimp only at hSw); go_simp; try with_reducible rfl)
  try simp only [Act.put, List.setIfInBounds_toArray, List.set_cons_zero, List.set_cons_succ]
  refine wpAnyH_take (i := 9) (oi := { dst := some 137, op := Go.Op.binOp Go.BinOp.eql 3 (Go.Operand.tmp 135) (Go.Operand.tmp 136) 3, type := 4, pos := "law.go:72", after := #[{ on := 7, ground := Go.Ground.data }, { on := 8, ground := Go.Ground.data }, { on := 6, ground := Go.Ground.guard }], guard := some (6, true) }) (v := .bool true) rfl (by kernel_rfl) (by kernel_rfl) (by kernel_rfl) (fun _ _ _ h => h) (Or.inl ⟨by rfl, ?hy9c⟩) hHeld ?rest9c
  case hy9c => (intro W hSw; (try dsimp only at hSw); go_simp; try with_reducible rfl)
  try simp only [Act.put, List.setIfInBounds_toArray, List.set_cons_zero, List.set_cons_succ]
  refine wpAnyH_take (i := 10) (oi := { dst := some 138, op := Go.Op.pick (Go.Operand.tmp 134) (Go.Operand.tmp 137) (Go.Operand.const (Go.Value.bool false)), type := 4, pos := "law.go:72", after := #[{ on := 6, ground := Go.Ground.data }, { on := 9, ground := Go.Ground.data }], guard := none }) (v := .bool true) rfl (by kernel_rfl) (by kernel_rfl) (by kernel_rfl) (fun _ _ _ h => h) (Or.inl ⟨by rfl, ?hy10c⟩) hHeld ?rest10c
  case hy10c => (intro W hSw; (try dsimp only at hSw); go_simp; try with_reducible rfl)
  try simp only [Act.put, List.setIfInBounds_toArray, List.set_cons_zero, List.set_cons_succ]
  refine wpAnyH_take (i := 11) (oi := { dst := some 139, op := Go.Op.move (Go.Operand.tmp 138), type := 4, pos := "law.go:72", after := #[{ on := 10, ground := Go.Ground.data }, { on := 6, ground := Go.Ground.chain }], guard := none }) (v := .bool true) rfl (by kernel_rfl) (by kernel_rfl) (by kernel_rfl) (fun _ _ _ h => h) (Or.inl ⟨by rfl, ?hy11c⟩) hHeld ?rest11c
  case hy11c => (intro W hSw; (try dsimp only at hSw); go_simp; try with_reducible rfl)
  try simp only [Act.put, List.setIfInBounds_toArray, List.set_cons_zero, List.set_cons_succ]
  refine wpAnyH_take (i := 12) (oi := { dst := some 140, op := Go.Op.move (Go.Operand.tmp 23), type := 26, pos := "law.go:72", after := #[{ on := 11, ground := Go.Ground.guard }], guard := some (11, true) }) (v := ?v12c) rfl (by kernel_rfl) (by kernel_rfl) (by kernel_rfl) (fun _ _ _ h => h) (Or.inl ⟨by rfl, ?hy12c⟩) hHeld ?rest12c
  case hy12c => (intro W hSw; (try dsimp only at hSw); go_simp; try with_reducible rfl)
  try simp only [Act.put, List.setIfInBounds_toArray, List.set_cons_zero, List.set_cons_succ]
  refine wpAnyH_take (i := 14) (oi := { dst := some 142, op := Go.Op.move (Go.Operand.tmp 26), type := 3, pos := "law.go:72", after := #[{ on := 11, ground := Go.Ground.guard }, { on := 18, ground := Go.Ground.gcOnly Go.Departure.lateStores }], guard := some (11, true) }) (v := ?v14c) rfl (by kernel_rfl) (by kernel_rfl) (by kernel_rfl) (fun _ _ _ h => h) (Or.inl ⟨by rfl, ?hy14c⟩) hHeld ?rest14c
  case hy14c => (intro W hSw; (try dsimp only at hSw); go_simp; try with_reducible rfl)
  try simp only [Act.put, List.setIfInBounds_toArray, List.set_cons_zero, List.set_cons_succ]
  refine wpAnyH_ready (rs := [13]) (by kernel_rfl) (by simp) ?_
  refine AllReadyH.cons (o := { dst := some 141, op := Go.Op.call { callee := Go.Callee.value (Go.Operand.func 9), args := #[Go.Operand.tmp 140], argTypes := #[26] }, type := 3, pos := "law.go:72", after := #[{ on := 12, ground := Go.Ground.data }, { on := 11, ground := Go.Ground.chain }, { on := 11, ground := Go.Ground.guard }], guard := some (11, true) }) rfl (fun K hK => ?_) AllReadyH.nil
  go_simp
  go_at_call 9
  refine (lnum10_any _ _).mono ?_
  rintro e wx ⟨rfl, rfl⟩
  refine hK.out _ _ (hHeld) (fun hHeld' => ?_)
  clear hK K hHeld
  have hHeld := hHeld'
  clear hHeld'
  try simp only [Act.put, List.setIfInBounds_toArray, List.set_cons_zero, List.set_cons_succ]
  refine wpAnyH_take (i := 15) (oi := { dst := some 143, op := Go.Op.binOp Go.BinOp.eql 3 (Go.Operand.tmp 141) (Go.Operand.tmp 142) 3, type := 4, pos := "law.go:72", after := #[{ on := 13, ground := Go.Ground.data }, { on := 14, ground := Go.Ground.data }, { on := 11, ground := Go.Ground.guard }, { on := 18, ground := Go.Ground.gcOnly Go.Departure.lateStores }], guard := some (11, true) }) (v := .bool true) rfl (by kernel_rfl) (by kernel_rfl) (by kernel_rfl) (fun _ _ _ h => h) (Or.inl ⟨by rfl, ?hy15c⟩) hHeld ?rest15c
  case hy15c => (intro W hSw; (try dsimp only at hSw); go_simp; try with_reducible rfl)
  try simp only [Act.put, List.setIfInBounds_toArray, List.set_cons_zero, List.set_cons_succ]
  refine wpAnyH_take (i := 16) (oi := { dst := some 144, op := Go.Op.pick (Go.Operand.tmp 139) (Go.Operand.tmp 143) (Go.Operand.const (Go.Value.bool false)), type := 4, pos := "law.go:72", after := #[{ on := 11, ground := Go.Ground.data }, { on := 15, ground := Go.Ground.data }, { on := 18, ground := Go.Ground.gcOnly Go.Departure.lateStores }], guard := none }) (v := .bool true) rfl (by kernel_rfl) (by kernel_rfl) (by kernel_rfl) (fun _ _ _ h => h) (Or.inl ⟨by rfl, ?hy16c⟩) hHeld ?rest16c
  case hy16c => (intro W hSw; (try dsimp only at hSw); go_simp; try with_reducible rfl)
  try simp only [Act.put, List.setIfInBounds_toArray, List.set_cons_zero, List.set_cons_succ]
  refine wpAnyH_take (i := 17) (oi := { dst := some 8, op := Go.Op.assign (Go.Operand.tmp 128), type := 29, pos := "law.go:72", after := #[{ on := 0, ground := Go.Ground.data }, { on := 13, ground := Go.Ground.chain }, { on := 0, ground := Go.Ground.phase }, { on := 1, ground := Go.Ground.textOnly Go.Departure.lateStores }, { on := 2, ground := Go.Ground.textOnly Go.Departure.lateStores }, { on := 3, ground := Go.Ground.textOnly Go.Departure.lateStores }, { on := 4, ground := Go.Ground.textOnly Go.Departure.lateStores }, { on := 5, ground := Go.Ground.textOnly Go.Departure.lateStores }, { on := 6, ground := Go.Ground.textOnly Go.Departure.lateStores }, { on := 7, ground := Go.Ground.textOnly Go.Departure.lateStores }, { on := 8, ground := Go.Ground.textOnly Go.Departure.lateStores }, { on := 9, ground := Go.Ground.textOnly Go.Departure.lateStores }, { on := 10, ground := Go.Ground.textOnly Go.Departure.lateStores }, { on := 11, ground := Go.Ground.textOnly Go.Departure.lateStores }, { on := 12, ground := Go.Ground.textOnly Go.Departure.lateStores }, { on := 13, ground := Go.Ground.textOnly Go.Departure.lateStoresUnsure }, { on := 14, ground := Go.Ground.textOnly Go.Departure.lateStores }, { on := 15, ground := Go.Ground.textOnly Go.Departure.lateStores }, { on := 16, ground := Go.Ground.textOnly Go.Departure.lateStores }], guard := none }) (v := ?v17c) rfl (by kernel_rfl) (by kernel_rfl) (by kernel_rfl) (fun _ _ _ h => h) (Or.inl ⟨by rfl, ?hy17c⟩) hHeld ?rest17c
  case hy17c => (intro W hSw; (try dsimp only at hSw); go_simp; try with_reducible rfl)
  try simp only [Act.put, List.setIfInBounds_toArray, List.set_cons_zero, List.set_cons_succ]
  refine wpAnyH_ready (rs := [18]) (by kernel_rfl) (by simp) ?_
  refine AllReadyH.cons (o := { dst := none, op := Go.Op.store 38 (Go.Operand.tmp 9) (Go.Operand.tmp 129), type := 0, pos := "law.go:72", after := #[{ on := 1, ground := Go.Ground.data }, { on := 17, ground := Go.Ground.chain }, { on := 0, ground := Go.Ground.phase }, { on := 1, ground := Go.Ground.phase }, { on := 2, ground := Go.Ground.textOnly Go.Departure.lateStores }, { on := 3, ground := Go.Ground.textOnly Go.Departure.lateStores }, { on := 4, ground := Go.Ground.textOnly Go.Departure.lateStores }, { on := 5, ground := Go.Ground.textOnly Go.Departure.lateStores }, { on := 6, ground := Go.Ground.textOnly Go.Departure.lateStores }, { on := 7, ground := Go.Ground.textOnly Go.Departure.lateStores }, { on := 8, ground := Go.Ground.textOnly Go.Departure.lateStores }, { on := 9, ground := Go.Ground.textOnly Go.Departure.lateStores }, { on := 10, ground := Go.Ground.textOnly Go.Departure.lateStores }, { on := 11, ground := Go.Ground.textOnly Go.Departure.lateStores }, { on := 12, ground := Go.Ground.textOnly Go.Departure.lateStores }, { on := 13, ground := Go.Ground.textOnly Go.Departure.lateStoresUnsure }, { on := 14, ground := Go.Ground.textOnly Go.Departure.lateStores }, { on := 15, ground := Go.Ground.textOnly Go.Departure.lateStores }, { on := 16, ground := Go.Ground.textOnly Go.Departure.lateStores }, { on := 17, ground := Go.Ground.phase }], guard := none }) rfl (fun K hK => ?_) AllReadyH.nil
  rw [if_pos (by rfl)]
  refine wp_store_mid 38 _ _ rfl _ _ cl rfl rfl hHeld.2.1 hinfs hone ?_
  refine hK.out _ _ (hS9) (fun hHeld' => ?_)
  clear hK K hHeld
  have hHeld := hHeld'
  clear hHeld'
  try simp only [Act.put, List.setIfInBounds_toArray, List.set_cons_zero, List.set_cons_succ]
  refine wpAnyH_take (i := 19) (oi := { dst := some 10, op := Go.Op.assign (Go.Operand.tmp 144), type := 4, pos := "law.go:72", after := #[{ on := 16, ground := Go.Ground.data }, { on := 18, ground := Go.Ground.chain }, { on := 0, ground := Go.Ground.phase }, { on := 1, ground := Go.Ground.phase }, { on := 2, ground := Go.Ground.phase }, { on := 3, ground := Go.Ground.phase }, { on := 4, ground := Go.Ground.phase }, { on := 5, ground := Go.Ground.phase }, { on := 6, ground := Go.Ground.phase }, { on := 7, ground := Go.Ground.phase }, { on := 8, ground := Go.Ground.phase }, { on := 9, ground := Go.Ground.phase }, { on := 10, ground := Go.Ground.phase }, { on := 11, ground := Go.Ground.phase }, { on := 12, ground := Go.Ground.phase }, { on := 13, ground := Go.Ground.phase }, { on := 14, ground := Go.Ground.phase }, { on := 15, ground := Go.Ground.phase }, { on := 16, ground := Go.Ground.phase }, { on := 17, ground := Go.Ground.phase }, { on := 18, ground := Go.Ground.phase }], guard := none }) (v := ?v19c) rfl (by kernel_rfl) (by kernel_rfl) (by kernel_rfl) (fun _ _ _ h => h) (Or.inl ⟨by rfl, ?hy19c⟩) hHeld ?rest19c
  case hy19c => (intro W hSw; (try dsimp only at hSw); go_simp; try with_reducible rfl)
  try simp only [Act.put, List.setIfInBounds_toArray, List.set_cons_zero, List.set_cons_succ]
  refine wpAnyH_done (by kernel_rfl) ?_ _
  try dsimp only
  try simp only [Act.put, List.setIfInBounds_toArray, List.set_cons_zero, List.set_cons_succ]
  -- END hand_alC
  go_wp2_with fail
  refine bodyPost_ret (v := .tuple #[.pointer (some ⟨q, 0, none⟩), .agg cl, .bool true]) (by simp [results, Tryz.results12, asAddr, hE1]) rfl ⟨q, cl, D, t, rfl, hE2.1, by omega, hE2.2⟩
end Go.Proofs.YtbhgcioeibhjeaaGreatDoor
namespace Go.Proofs.YtbhgcioeibhjeaaGreatDoor
open Go.RowKit

/-- a log whose disk is another one, without a thing to do -/
theorem log_put {W : World} {b : Nat} {cl c' : Array Value} {D D' : Dk} {f : Nat} {t : Int} (h : RLg W cl D f t) (hb : LBox W b cl) (hd : RDk W c' D' (.slice none 0 0)) : W.there b 0 c'.size ∧ ∃ d, d.size = 68 ∧ d.all (·.oneCell') = true ∧ LBox (W.setCells b 0 c'.toList) b d ∧ (∀ V, RLg V d D' f t) ∧ (∀ g, ¬ rowAt d g) ∧ d.extract 0 66 = c' := by
  obtain ⟨d1, d2, d3, d4, d5⟩ := setDisk h.size h.one hd.size hd.one
  refine ⟨there_ofr hb _ (by rw [hd.size, h.size]; decide), setAllr cl 0 c'.toList, d1, d2, setCells_heap b 38 (0, 0) c'.toList 0 W cl hb, fun V => ⟨d1, d2, ?_, by rw [d4]; exact h.file, by rw [d5]; exact h.torn⟩, fun g hg => ?_, d3⟩
  · rw [d3]
    have e0 : D'.L.length = 0 := by
      rcases hd.row.2 with h0 | ⟨g, cap, cur, e0, _⟩
      · exact h0.2
      · cases e0
    refine ⟨_, hd.size, hd.one, hd.room, hd.file, hd.things, ?_⟩
    have e1 : D'.L = [] := List.eq_nil_of_length_eq_zero e0
    rw [e1]
    exact World.ownsRow_nil _ _ _ _
  · have h1 := (rowAt_ext d1).2 hg
    rw [d3] at h1
    obtain ⟨u, hu, hg⟩ := h1
    rw [hd.things] at hu
    cases hu
    cases hg
/-- from the document's Sync on -/
theorem sync_boxes {Ξ : Nat → Prop} {w W0 w3 : World} {q p : Nat} {cl : Array Value} {D : Dk} {f : Nat} {t : Int} (h : LS Ξ w W0 q p cl D f t) {wh kp tn : Int} {bs : Value} (hT : LB W0 w3 cl wh kp tn bs) :
    ∀ w4 c', Below w3.heap.size w3 w4 → RDk w4 c' D.synced (.slice none 0 0) → w4.there W0.heap.size 0 c'.size ∧ (Tryz.prog.info? 36).map (·.size) = some c'.size ∧ c'.all (·.oneCell') = true ∧ ∃ d w5, w4.setCells W0.heap.size 0 c'.toList = w5 ∧ (Tryz.prog.info? 38).map (·.size) = some d.toList.length ∧ (Tryz.prog.info? 38).map (·.size) = some d.size ∧ d.all (·.oneCell') = true ∧ (w5.drew.rangeAt W0.heap.size 0 d.toList ∧ w5.drew.there (W0.heap.size + 2) 0 d.size) ∧ Hid (Calls Tryz.prog 27 #[.pointer (some ⟨p, 0, none⟩)] w5.drew fun x w6 => x = .returned (.int .i64 0) ∧ Hid (∀ V, Below w6.heap.size w6 V → (V.rangeAt W0.heap.size 0 d.toList ∧ V.there (W0.heap.size + 2) 0 d.size) ∧ ((V.setCells (W0.heap.size + 2) 0 d.toList).rangeAt W0.heap.size 0 d.toList ∧ (V.setCells (W0.heap.size + 2) 0 d.toList).there (W0.heap.size + 2) 0 d.size) ∧ (loadVar 38 ⟨W0.heap.size + 2, 0, none⟩).run Tryz.prog (V.setCells (W0.heap.size + 2) 0 d.toList) = .ok (.agg d) (V.setCells (W0.heap.size + 2) 0 d.toList) ∧ LS Ξ w (V.setCells (W0.heap.size + 2) 0 d.toList) q p d D.synced f t ∧ ∀ k, Ξ k → (V.setCells (W0.heap.size + 2) 0 d.toList).heap[k]? = W0.heap[k]?)) := by
  intro w4 c' hb4 hd4
  have hwW := h.run.bel.size
  have hT4 := hT.keep hb4
  obtain ⟨ht, d, d1, d2, d3, d4, d5, _⟩ := log_put (h.keep hT4.below).ref hT4.b0 hd4
  refine ⟨ht, by rw [hd4.size]; exact info66r, hd4.one, d, _, rfl, by rw [Array.length_toList, d1]; exact info68, by rw [d1]; exact info68, d2, ?_⟩
  have hZ5 : LBox (w4.setCells W0.heap.size 0 c'.toList) (W0.heap.size + 2) Tryz.zeroCells38 := hT4.b2.far (by omega)
  have hb5 : Below W0.heap.size W0 (w4.setCells W0.heap.size 0 c'.toList) := below_setCellsr (Nat.le_refl _) _ _ hT4.below
  generalize w4.setCells W0.heap.size 0 c'.toList = w5 at *
  have hbd := (Below.refl w5.heap.size w5).drew
  refine ⟨⟨(LBox.keep d3 hbd).range, ((hZ5.keep hbd).told zeroL_size d1).1⟩, Lib.hid ?_⟩
  have hb5d := hb5.trans (hbd.mono hb5.size)
  have hlt5 := (hZ5.keep hbd).lt
  have hK : LK (fun k => Ξ k ∨ W0.heap.size ≤ k ∧ k < w5.drew.heap.size) w5.drew w w5.drew q p D f ((D.F f).length : Nat) t := h.run.grow hb5d (fun k hk => hk.elim (fun h0 => ⟨Nat.lt_of_lt_of_le (h.lt (.inr h0)) hb5d.size, .inl (.inr h0)⟩) (fun h0 => ⟨h0.2, .inr h0.1⟩))
  refine (k_sync hK).mono ?_
  rintro x w6 ⟨rfl, hK6⟩
  refine ⟨rfl, Lib.hid fun V hV => ?_⟩
  have hf6 := hK6.frame
  have hL6 : LBox w6 W0.heap.size d := (hf6 _ (.inr ⟨by omega, by omega⟩)).2.trans (LBox.keep d3 hbd)
  have hZ6 : LBox w6 (W0.heap.size + 2) Tryz.zeroCells38 := (hf6 _ (.inr ⟨by omega, by omega⟩)).2.trans (hZ5.keep hbd)
  have hr := (hL6.keep hV).range
  have ht := (hZ6.keep hV).told zeroL_size d1
  exact ⟨⟨hr, ht.1⟩, ⟨World.rangeAt_setCells_apart hr _ _ _ (.inl (by omega)), World.there_setCells ht.1 _ _ _⟩, ht.2, LS.of (hK6.below hV) (d4 V) h.good (fun g hg => hg.elim (fun h0 => (d5 g h0).elim) .inl) (b := W0.heap.size + 2) (.inr ⟨by omega, by omega⟩) (by omega) (hZ6.keep hV) d, fun k hk => (heap_setCellsr _ _ _ _ _ (by have := h.lt (.inr hk); omega)).trans ((hV.block k (hf6 k (.inl hk)).1).trans ((hf6 k (.inl hk)).2.trans (hb5d.block k (h.lt (.inr hk)))))⟩
set_option maxRecDepth 1000000 in
set_option maxHeartbeats 8000000 in
theorem act_sync {Ξ : Nat → Prop} {w W0 : World} {q p : Nat} {cl : Array Value} {D : Dk} {f : Nat} {t : Int} (h : LS Ξ w W0 q p cl D f t) (kp tn : Int) (bs : Value) :
    Calls Tryz.prog 12 #[.pointer (some ⟨q, 0, none⟩), .pointer (some ⟨p, 0, none⟩), .agg cl, .agg #[.int .i64 4, .int .i64 kp, .int .i64 tn, bs]] W0 (ActPost Ξ w W0 p D f) := by
  obtain ⟨w3, hw3⟩ : ∃ w3, ((W0.alloc (.cells cl 38)).alloc (.cells #[.int .i64 4, .int .i64 kp, .int .i64 tn, bs] 45)).alloc (.cells Tryz.zeroCells38 38) = w3 := ⟨_, rfl⟩
  have hT : LB W0 w3 cl 4 kp tn bs := by rw [← hw3]; exact LB.start W0 cl 4 kp tn bs
  have hx0 := hT.a0
  have hr := hT.b0.disk
  have hu := Tryz.underlying38
  have huD := Tryz.underlying36
  have hinfD : (Tryz.prog.info? 36).map (·.size) = some (cl.extract 0 66).toList.length := by rw [disk_size h.ref.size]; exact info66r
  have HS : Hid (Calls Tryz.prog 34 #[.agg (cl.extract 0 66)] w3 fun e w' => ∃ c', e = .returned (.agg c') ∧ RDk w' c' D.synced (.slice none 0 0) ∧ Below w3.heap.size w3 w') := Lib.hid (by
    obtain ⟨v, hv⟩ := (h.keep hT.below).ref.disk
    exact rrSync_any hv h.run.inv)
  have HP := Lib.hid (sync_boxes h hT)
  clear h
  generalize cl.extract 0 66 = cx at *
  go_enter Tryz.func12, Tryz.ntmps12
  go_upto_region 11 with (first | (refine wpList_load_mid rfl 36 _ rfl _ _ rfl _ _ hr huD rfl hinfD ?_; simp only [Act.put, Array.toArray_toList, List.setIfInBounds_toArray, List.set_cons_zero, List.set_cons_succ]) | (go_at_call 34; refine HS.out.mono ?_; rintro e w4 ⟨c', rfl, hd4, hb4⟩; obtain ⟨ht4, hinf4, hone4, d, w5, hw5, hinf, hinfs, hone, hS8, H5⟩ := HP.out w4 c' hb4 hd4; clear hd4 hb4) | (refine wpList_store_mid rfl 36 _ _ rfl _ _ c' rfl rfl ht4 hinf4 hone4 ?_; simp only [Act.put]))
  try rw [hw5]
  clear hw5 hr hinfD HS HP
  -- BEGIN hand_alD
  refine wp_region_held_drew (S := fun W => W.rangeAt W0.heap.size 0 d.toList ∧ W.there (W0.heap.size + 2) 0 d.size) (by kernel_rfl) ?_ (fun hHeld => ?_)
  · exact hS8
  refine wpAnyH_take (i := 0) (oi := { dst := some 67, op := Go.Op.move (Go.Operand.tmp 0), type := 29, pos := "law.go:63", after := #[], guard := none }) (v := ?v0d) rfl (by kernel_rfl) (by kernel_rfl) (by kernel_rfl) (fun _ _ _ h => h) (Or.inl ⟨by rfl, ?hy0d⟩) hHeld ?rest0d
  case hy0d => (intro W hSw; (try dsimp only at hSw); go_simp; try with_reducible rfl)
  try simp only [Act.put, List.setIfInBounds_toArray, List.set_cons_zero, List.set_cons_succ]
  refine wpAnyH_take (i := 1) (oi := { dst := some 68, op := Go.Op.load 38 (Go.Operand.tmp 6), type := 38, pos := "law.go:63", after := #[{ on := 6, ground := Go.Ground.gcOnly Go.Departure.lateStores }], guard := none }) (v := _) rfl (by kernel_rfl) (by kernel_rfl) (by kernel_rfl) (fun _ _ _ h => h) (yieldsIf_load_mid (by rfl) 38 _ rfl _ _ rfl _ _ (fun W hSw => hSw.1) hu rfl hinf) hHeld ?_
  try simp only [Array.toArray_toList, Act.put, List.setIfInBounds_toArray, List.set_cons_zero, List.set_cons_succ]
  refine wpAnyH_take (i := 2) (oi := { dst := some 69, op := Go.Op.move (Go.Operand.tmp 1), type := 25, pos := "law.go:63", after := #[], guard := none }) (v := ?v2d) rfl (by kernel_rfl) (by kernel_rfl) (by kernel_rfl) (fun _ _ _ h => h) (Or.inl ⟨by rfl, ?hy2d⟩) hHeld ?rest2d
  case hy2d => (intro W hSw; (try dsimp only at hSw); go_simp; try with_reducible rfl)
  try simp only [Act.put, List.setIfInBounds_toArray, List.set_cons_zero, List.set_cons_succ]
  refine wpAnyH_ready (rs := [3]) (by kernel_rfl) (by simp) ?_
  refine AllReadyH.cons (o := { dst := some 70, op := Go.Op.call { callee := Go.Callee.value (Go.Operand.func 27), args := #[Go.Operand.tmp 69], argTypes := #[25] }, type := 26, pos := "law.go:63", after := #[{ on := 2, ground := Go.Ground.data }], guard := none }) rfl (fun K hK => ?_) AllReadyH.nil
  go_simp
  go_at_call 27
  refine (H5.out).mono ?_
  rintro e w6 ⟨rfl, H6⟩
  refine hK.out _ _ ((H6.out _ (Below.refl _ _)).1) (fun hHeld' => ?_)
  clear hK K hHeld
  have hHeld := hHeld'
  clear hHeld'
  try simp only [Act.put, List.setIfInBounds_toArray, List.set_cons_zero, List.set_cons_succ]
  refine wpAnyH_ready (rs := [4]) (by kernel_rfl) (by simp) ?_
  refine AllReadyH.cons (o := { dst := some 71, op := Go.Op.call { callee := Go.Callee.value (Go.Operand.func 9), args := #[Go.Operand.tmp 70], argTypes := #[26] }, type := 3, pos := "law.go:63", after := #[{ on := 3, ground := Go.Ground.data }, { on := 3, ground := Go.Ground.chain }], guard := none }) rfl (fun K hK => ?_) AllReadyH.nil
  go_simp
  go_at_call 9
  refine (lnum10_any _ _).mono ?_
  rintro e wx ⟨rfl, rfl⟩
  refine hK.out _ _ (hHeld) (fun hHeld' => ?_)
  clear hK K hHeld
  have hHeld := hHeld'
  clear hHeld'
  try simp only [Act.put, List.setIfInBounds_toArray, List.set_cons_zero, List.set_cons_succ]
  refine wpAnyH_take (i := 5) (oi := { dst := some 72, op := Go.Op.binOp Go.BinOp.eql 3 (Go.Operand.tmp 71) (Go.Operand.const (Go.Value.int Go.IntKind.i64 0)) 3, type := 4, pos := "law.go:63", after := #[{ on := 4, ground := Go.Ground.data }, { on := 7, ground := Go.Ground.gcOnly Go.Departure.lateStores }], guard := none }) (v := .bool true) rfl (by kernel_rfl) (by kernel_rfl) (by kernel_rfl) (fun _ _ _ h => h) (Or.inl ⟨by rfl, ?hy5d⟩) hHeld ?rest5d
  case hy5d => (intro W hSw; (try dsimp only at hSw); go_simp; try with_reducible rfl)
  try simp only [Act.put, List.setIfInBounds_toArray, List.set_cons_zero, List.set_cons_succ]
  refine wpAnyH_take (i := 6) (oi := { dst := some 8, op := Go.Op.assign (Go.Operand.tmp 67), type := 29, pos := "law.go:63", after := #[{ on := 0, ground := Go.Ground.data }, { on := 4, ground := Go.Ground.chain }, { on := 0, ground := Go.Ground.phase }, { on := 1, ground := Go.Ground.textOnly Go.Departure.lateStores }, { on := 2, ground := Go.Ground.textOnly Go.Departure.lateStores }, { on := 3, ground := Go.Ground.textOnly Go.Departure.lateStoresUnsure }, { on := 4, ground := Go.Ground.textOnly Go.Departure.lateStoresUnsure }, { on := 5, ground := Go.Ground.textOnly Go.Departure.lateStores }], guard := none }) (v := ?v6d) rfl (by kernel_rfl) (by kernel_rfl) (by kernel_rfl) (fun _ _ _ h => h) (Or.inl ⟨by rfl, ?hy6d⟩) hHeld ?rest6d
  case hy6d => (intro W hSw; (try dsimp only at hSw); go_simp; try with_reducible rfl)
  try simp only [Act.put, List.setIfInBounds_toArray, List.set_cons_zero, List.set_cons_succ]
  refine wpAnyH_ready (rs := [7]) (by kernel_rfl) (by simp) ?_
  refine AllReadyH.cons (o := { dst := none, op := Go.Op.store 38 (Go.Operand.tmp 9) (Go.Operand.tmp 68), type := 0, pos := "law.go:63", after := #[{ on := 1, ground := Go.Ground.data }, { on := 6, ground := Go.Ground.chain }, { on := 0, ground := Go.Ground.phase }, { on := 1, ground := Go.Ground.phase }, { on := 2, ground := Go.Ground.textOnly Go.Departure.lateStores }, { on := 3, ground := Go.Ground.textOnly Go.Departure.lateStoresUnsure }, { on := 4, ground := Go.Ground.textOnly Go.Departure.lateStoresUnsure }, { on := 5, ground := Go.Ground.textOnly Go.Departure.lateStores }, { on := 6, ground := Go.Ground.phase }], guard := none }) rfl (fun K hK => ?_) AllReadyH.nil
  rw [if_pos (by rfl)]
  refine wp_store_mid 38 _ _ rfl _ _ d rfl rfl hHeld.2 hinfs hone ?_
  refine hK.out _ _ ((H6.out _ (Below.refl _ _)).2.1) (fun hHeld' => ?_)
  clear hK K hHeld
  have hHeld := hHeld'
  clear hHeld'
  try simp only [Act.put, List.setIfInBounds_toArray, List.set_cons_zero, List.set_cons_succ]
  refine wpAnyH_take (i := 8) (oi := { dst := some 10, op := Go.Op.assign (Go.Operand.tmp 72), type := 4, pos := "law.go:63", after := #[{ on := 5, ground := Go.Ground.data }, { on := 7, ground := Go.Ground.chain }, { on := 0, ground := Go.Ground.phase }, { on := 1, ground := Go.Ground.phase }, { on := 2, ground := Go.Ground.phase }, { on := 3, ground := Go.Ground.phase }, { on := 4, ground := Go.Ground.phase }, { on := 5, ground := Go.Ground.phase }, { on := 6, ground := Go.Ground.phase }, { on := 7, ground := Go.Ground.phase }], guard := none }) (v := ?v8d) rfl (by kernel_rfl) (by kernel_rfl) (by kernel_rfl) (fun _ _ _ h => h) (Or.inl ⟨by rfl, ?hy8d⟩) hHeld ?rest8d
  case hy8d => (intro W hSw; (try dsimp only at hSw); go_simp; try with_reducible rfl)
  try simp only [Act.put, List.setIfInBounds_toArray, List.set_cons_zero, List.set_cons_succ]
  refine wpAnyH_done (by kernel_rfl) ?_ _
  try dsimp only
  try simp only [Act.put, List.setIfInBounds_toArray, List.set_cons_zero, List.set_cons_succ]
  -- END hand_alD
  go_wp2_with fail
  have hE := H6.out _ (Below.refl _ _)
  refine bodyPost_ret (v := .tuple #[.pointer (some ⟨q, 0, none⟩), .agg d, .bool true]) (by simp [results, Tryz.results12, asAddr, hE.2.2.1]) rfl ⟨q, d, D.synced, t, rfl, hE.2.2.2.1, by show 0 ≤ _; omega, hE.2.2.2.2⟩
end Go.Proofs.YtbhgcioeibhjeaaGreatDoor
