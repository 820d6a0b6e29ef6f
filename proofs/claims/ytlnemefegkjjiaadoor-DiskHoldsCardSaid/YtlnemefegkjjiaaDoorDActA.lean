/-
  swingbridgelaw09.act: Copy.
-/
import Derived.Test.YtlnemefegkjjiaaDoorDFrm
namespace Go.Proofs.YtlnemefegkjjiaaDoor
open Go.RowKit

/-- what act tells -/
def ActP (w : World) (D : Dk) (hv : Value) (H : List (List UInt8)) : Ending → World → Prop := fun e W' => ∃ (p' : Nat) (v : Value) (b : Bool), e = .returned (.tuple #[.pointer (some ⟨p', 0, none⟩), v, .bool b]) ∧ HRun w W' p' D hv H
/-- the three boxes of act -/
structure TB (W0 W : World) (c : Array Value) (wh fi nn tn : Int) (bs : Value) : Prop where
  c4 : W.heap[W0.heap.size]? = some (.cells c 37 (0, 0))
  c5 : W.heap[W0.heap.size + 1]? = some (.cells #[.int .i64 wh, .int .i64 fi, .int .i64 nn, .int .i64 tn, bs] 33 (0, 0))
  c7 : ∃ d, W.heap[W0.heap.size + 2]? = some (.cells d 37 (0, 0)) ∧ d.size = 66
  below : Below W0.heap.size W0 W
theorem TB.three {W0 W : World} {c : Array Value} {wh fi nn tn : Int} {bs : Value} (h : TB W0 W c wh fi nn tn bs) : W0.heap.size + 3 ≤ W.heap.size := by
  obtain ⟨d, h1, _⟩ := h.c7
  have := (Array.getElem?_eq_some_iff.1 h1).1
  omega
theorem TB.keep {W0 W W' : World} {c : Array Value} {wh fi nn tn : Int} {bs : Value} (h : TB W0 W c wh fi nn tn bs) (hb : Below W.heap.size W W') : TB W0 W' c wh fi nn tn bs := by
  have h3 := h.three
  obtain ⟨d, h1, h2⟩ := h.c7
  exact ⟨(hb.block _ (by omega)).trans h.c4, (hb.block _ (by omega)).trans h.c5, ⟨d, (hb.block _ (by omega)).trans h1, h2⟩, h.below.trans (hb.mono h.below.size)⟩
theorem TB.start (W0 : World) (c d : Array Value) (hd : d.size = 66) (wh fi nn tn : Int) (bs : Value) : TB W0 (((W0.alloc (.cells c 37)).alloc (.cells #[.int .i64 wh, .int .i64 fi, .int .i64 nn, .int .i64 tn, bs] 33)).alloc (.cells d 37)) c wh fi nn tn bs := by
  refine ⟨?_, ?_, ⟨d, ?_, hd⟩, (((Below.refl _ W0).alloc (Nat.le_refl _) _).alloc (by simp) _).alloc (by simp; omega) _⟩
  · rw [Below.heap_alloc _ _ _ (by simp; omega), Below.heap_alloc _ _ _ (by simp)]
    exact heap_alloc_at W0 _
  · rw [Below.heap_alloc _ _ _ (by simp)]
    have h := heap_alloc_at (W0.alloc (.cells c 37)) (.cells #[.int .i64 wh, .int .i64 fi, .int .i64 nn, .int .i64 tn, bs] 33)
    rwa [World.size_alloc] at h
  · have h := heap_alloc_at ((W0.alloc (.cells c 37)).alloc (.cells #[.int .i64 wh, .int .i64 fi, .int .i64 nn, .int .i64 tn, bs] 33)) (.cells d 37)
    simpa using h
theorem range_of {W : World} {b : Nat} {c : Array Value} {t : TypeId} {fz : Nat × Nat} (h : W.heap[b]? = some (.cells c t fz)) : W.rangeAt b 0 c.toList := fun j v hv => by
  rw [Nat.zero_add]
  simp only [World.cell?]
  rw [h]
  simpa using hv
theorem TB.facts {W0 W : World} {c : Array Value} {wh fi nn tn : Int} {bs : Value} (h : TB W0 W c wh fi nn tn bs) : W.rangeAt W0.heap.size 0 c.toList ∧ W.there (W0.heap.size + 2) 0 66 ∧ W.cell? ⟨W0.heap.size + 1, 0, none⟩ = some (.int .i64 wh) ∧ W.cell? ⟨W0.heap.size + 1, 1, none⟩ = some (.int .i64 fi) ∧ W.cell? ⟨W0.heap.size + 1, 2, none⟩ = some (.int .i64 nn) ∧ W.cell? ⟨W0.heap.size + 1, 4, none⟩ = some bs := by
  obtain ⟨d, h1, h2⟩ := h.c7
  exact ⟨range_of h.c4, there_of h1 _ (by omega), by simp [World.cell?, h.c5], by simp [World.cell?, h.c5], by simp [World.cell?, h.c5], by simp [World.cell?, h.c5]⟩
theorem range_kept {lo hi b : Nat} {W W' : World} {l : List Value} (h : W.rangeAt b 0 l) (hk : Kept lo hi W W') (h1 : lo ≤ b) (h2 : b < hi) : W'.rangeAt b 0 l := fun j v hv => (World.cell?_of_block (hk b h1 h2)).trans (h j v hv)
theorem there_kept {lo hi b n : Nat} {W W' : World} (h : W.there b 0 n) (hk : Kept lo hi W W') (h1 : lo ≤ b) (h2 : b < hi) : W'.there b 0 n := fun j hj => by
  rw [World.cell?_of_block (a := ⟨b, 0 + j, none⟩) (hk b h1 h2), World.frozen?_of_block (a := ⟨b, 0 + j, none⟩) (hk b h1 h2)]
  exact h j hj
theorem told66 {W : World} {b : Nat} {l : List Value} (h : W.there b 0 66) (hl : l.length = 66) : (loadVar 37 ⟨b, 0, none⟩).run Tryd.prog (W.setCells b 0 l) = .ok (.agg l.toArray) (W.setCells b 0 l) :=
  load66 (World.rangeAt_setCells_same W b 0 l (by rw [hl]; exact h)) hl
set_option maxRecDepth 1000000 in
set_option maxHeartbeats 4000000 in
theorem act_copy {w W0 : World} {p : Nat} {D : Dk} {hv : Value} {H : List (List UInt8)} (h : HRun w W0 p D hv H) (hET : HasET w) (hfew : D.L.length < 900) (c : Array Value) (hc : ZD c) (wh fi nn tn : Int) (bs : Value) (l0 : List UInt8) (hbt : BtAt W0 bs l0) (hw : wh < 0 ∨ 5 < wh) :
    Calls Tryd.prog 8 #[.pointer (some ⟨p, 0, none⟩), .agg c, .agg #[.int .i64 wh, .int .i64 fi, .int .i64 nn, .int .i64 tn, bs]] W0 (ActP w D hv H) := by
  have e0 : ¬ wh = 0 := by omega
  have e1 : ¬ wh = 1 := by omega
  have e2 : ¬ wh = 2 := by omega
  have e3 : ¬ wh = 3 := by omega
  have e4 : ¬ wh = 4 := by omega
  have e5 : ¬ wh = 5 := by omega
  obtain ⟨w1, hw1⟩ : ∃ w1, W0.alloc (.cells c 37) = w1 := ⟨_, rfl⟩
  have hz1 : w1.heap.size = W0.heap.size + 1 := by rw [← hw1]; simp
  obtain ⟨w2, hw2⟩ : ∃ w2, w1.alloc (.cells #[.int .i64 wh, .int .i64 fi, .int .i64 nn, .int .i64 tn, bs] 33) = w2 := ⟨_, rfl⟩
  have hz2 : w2.heap.size = W0.heap.size + 2 := by rw [← hw2, World.size_alloc, hz1]
  obtain ⟨w3, hw3⟩ : ∃ w3, w2.alloc (.cells Tryd.zeroCells37 37) = w3 := ⟨_, rfl⟩
  have hT := TB.start W0 c Tryd.zeroCells37 zeroC_size wh fi nn tn bs
  rw [hw1, hw2, hw3] at hT
  obtain ⟨hr, ht, x0, x1, x2, x4⟩ := hT.facts
  have hu := Tryd.underlying37
  have hinf : (Tryd.prog.info? 37).map (·.size) = some c.toList.length := by rw [Array.length_toList, hc.size]; exact info66
  have hcc : c.toList.toArray = c := Array.toArray_toList
  have hlen : c.toList.length = 66 := by rw [Array.length_toList]; exact hc.size
  have hone := hc.one
  have hinf2 : (Tryd.prog.info? 37).map (·.size) = some c.size := by rw [hc.size]; exact info66
  have hsz := hc.size
  have hF := h.frame (hT.below.drew)
  have h3 := hT.three
  have HC := Lib.hid (f_copy hF (by omega))
  have HS : Hid (∀ W : World, Kept W0.heap.size w3.heap.size w3.drew W → W.rangeAt W0.heap.size 0 c.toList ∧ W.there (W0.heap.size + 2) 0 66) := Lib.hid fun W hk => ⟨range_kept (W := w3.drew) hr hk (Nat.le_refl _) (by omega), there_kept (W := w3.drew) ht hk (by omega) (by omega)⟩
  have HT : Hid (∀ W : World, W.rangeAt W0.heap.size 0 c.toList ∧ W.there (W0.heap.size + 2) 0 66 → (W.setCells (W0.heap.size + 2) 0 c.toList).rangeAt W0.heap.size 0 c.toList ∧ (W.setCells (W0.heap.size + 2) 0 c.toList).there (W0.heap.size + 2) 0 66) := Lib.hid fun W hk => ⟨World.rangeAt_setCells_apart hk.1 _ _ _ (.inl (by omega)), World.there_setCells hk.2 _ _ _⟩
  have HE : Hid (∀ (W : World) (p' : Nat), HRunF w W p' D hv H W0.heap.size w3.heap.size → W.there (W0.heap.size + 2) 0 66 → HRun w (W.setCells (W0.heap.size + 2) 0 c.toList) p' D hv H ∧ (loadVar 37 ⟨W0.heap.size + 2, 0, none⟩).run Tryd.prog (W.setCells (W0.heap.size + 2) 0 c.toList) = .ok (.agg c) (W.setCells (W0.heap.size + 2) 0 c.toList)) := Lib.hid fun W p' h1 h2 => ⟨(h1.setCells (b := W0.heap.size + 2) (by omega) (by omega) c.toList).run, by
    have h4 := told66 h2 hlen
    rw [Array.toArray_toList] at h4
    exact h4⟩
  have hS0 := HS.out w3.drew (fun _ _ _ => rfl)
  clear h hET hfew hbt hT hF h3 hc
  go_enter Tryd.func8, Tryd.ntmps8
  go_upto_region 15 with fail
  -- BEGIN hand_actA
  refine wp_region_held_drew (S := fun W => W.rangeAt W0.heap.size 0 c.toList ∧ W.there (W0.heap.size + 2) 0 66) (by kernel_rfl) ?_ (fun hHeld => ?_)
  · exact hS0
  refine wpAnyH_take (i := 0) (oi := { dst := some 95, op := Go.Op.move (Go.Operand.tmp 0), type := 25, pos := "law.go:63", after := #[], guard := none }) (v := ?v0a) rfl (by kernel_rfl) (by kernel_rfl) (by kernel_rfl) (fun _ _ _ h => h) (Or.inl ⟨by rfl, ?hy0a⟩) hHeld ?rest0a
  case hy0a => (intro W hSw; (try dsimp only at hSw); go_simp; try with_reducible rfl)
  try simp only [Act.put, List.setIfInBounds_toArray, List.set_cons_zero, List.set_cons_succ]
  refine wpAnyH_take (i := 2) (oi := { dst := some 97, op := Go.Op.load 37 (Go.Operand.tmp 4), type := 37, pos := "law.go:63", after := #[{ on := 3, ground := Go.Ground.gcOnly Go.Departure.lateStores }], guard := none }) (v := _) rfl (by kernel_rfl) (by kernel_rfl) (by kernel_rfl) (fun _ _ _ h => h) (yieldsIf_load_mid (by rfl) 37 _ rfl _ _ rfl _ _ (fun W hSw => hSw.1) hu rfl hinf) hHeld ?_
  try simp only [hcc, Act.put, List.setIfInBounds_toArray, List.set_cons_zero, List.set_cons_succ]
  refine wpAnyH_ready (rs := [1]) (by kernel_rfl) (by simp) ?_
  refine AllReadyH.cons (o := { dst := some 96, op := Go.Op.call { callee := Go.Callee.value (Go.Operand.func 21), args := #[Go.Operand.tmp 95], argTypes := #[25] }, type := 25, pos := "law.go:63", after := #[{ on := 0, ground := Go.Ground.data }], guard := none }) rfl (fun K hK => ?_) AllReadyH.nil
  go_simp
  go_at_call 21
  refine (HC.out).mono ?_
  rintro e w4 ⟨p', rfl, hf4, hk4⟩
  refine hK.out _ _ (HS.out w4 hk4) (fun hHeld' => ?_)
  clear hK K hHeld
  have hHeld := hHeld'
  clear hHeld'
  try simp only [Act.put, List.setIfInBounds_toArray, List.set_cons_zero, List.set_cons_succ]
  have HF4 := Lib.hid hf4
  clear hf4 hk4
  have hHt := hHeld.2
  refine wpAnyH_take (i := 3) (oi := { dst := some 6, op := Go.Op.assign (Go.Operand.tmp 96), type := 25, pos := "law.go:63", after := #[{ on := 1, ground := Go.Ground.data }, { on := 1, ground := Go.Ground.chain }, { on := 0, ground := Go.Ground.phase }, { on := 1, ground := Go.Ground.phase }, { on := 2, ground := Go.Ground.textOnly Go.Departure.lateStores }], guard := none }) (v := ?v3a) rfl (by kernel_rfl) (by kernel_rfl) (by kernel_rfl) (fun _ _ _ h => h) (Or.inl ⟨by rfl, ?hy3a⟩) hHeld ?rest3a
  case hy3a => (intro W hSw; (try dsimp only at hSw); go_simp; try with_reducible rfl)
  try simp only [Act.put, List.setIfInBounds_toArray, List.set_cons_zero, List.set_cons_succ]
  refine wpAnyH_ready (rs := [4]) (by kernel_rfl) (by simp) ?_
  refine AllReadyH.cons (o := { dst := none, op := Go.Op.store 37 (Go.Operand.tmp 7) (Go.Operand.tmp 97), type := 0, pos := "law.go:63", after := #[{ on := 2, ground := Go.Ground.data }, { on := 3, ground := Go.Ground.chain }, { on := 0, ground := Go.Ground.phase }, { on := 1, ground := Go.Ground.phase }, { on := 2, ground := Go.Ground.phase }, { on := 3, ground := Go.Ground.phase }], guard := none }) rfl (fun K hK => ?_) AllReadyH.nil
  rw [if_pos (by rfl)]
  refine wp_store_mid 37 _ _ rfl _ _ c rfl rfl (by rw [hsz]; exact hHeld.2) hinf2 hone ?_
  refine hK.out _ _ (HT.out _ hHeld) (fun hHeld' => ?_)
  clear hK K hHeld
  have hHeld := hHeld'
  clear hHeld'
  try simp only [Act.put, List.setIfInBounds_toArray, List.set_cons_zero, List.set_cons_succ]
  refine wpAnyH_take (i := 5) (oi := { dst := some 8, op := Go.Op.assign (Go.Operand.const (Go.Value.bool true)), type := 4, pos := "law.go:63", after := #[{ on := 4, ground := Go.Ground.chain }, { on := 0, ground := Go.Ground.phase }, { on := 1, ground := Go.Ground.phase }, { on := 2, ground := Go.Ground.phase }, { on := 3, ground := Go.Ground.phase }, { on := 4, ground := Go.Ground.phase }], guard := none }) (v := ?v5a) rfl (by kernel_rfl) (by kernel_rfl) (by kernel_rfl) (fun _ _ _ h => h) (Or.inl ⟨by rfl, ?hy5a⟩) hHeld ?rest5a
  case hy5a => (intro W hSw; (try dsimp only at hSw); go_simp; try with_reducible rfl)
  try simp only [Act.put, List.setIfInBounds_toArray, List.set_cons_zero, List.set_cons_succ]
  refine wpAnyH_done (by kernel_rfl) ?_ _
  try dsimp only
  try simp only [Act.put, List.setIfInBounds_toArray, List.set_cons_zero, List.set_cons_succ]
  -- END hand_actA
  go_wp2_with fail
  obtain ⟨hE1, hE2⟩ := HE.out _ p' HF4.out hHt
  refine bodyPost_ret (v := .tuple #[.pointer (some ⟨p', 0, none⟩), .agg c, .bool true]) (by simp [results, Tryd.results8, asAddr, hE2]) rfl ⟨p', _, _, rfl, hE1⟩
end Go.Proofs.YtlnemefegkjjiaaDoor
