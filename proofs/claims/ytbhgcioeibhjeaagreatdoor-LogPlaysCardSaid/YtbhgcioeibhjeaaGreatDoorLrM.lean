/-
  swingbridgelaw10.is: a log stands as the document's.
-/
import Derived.Test.YtbhgcioeibhjeaaGreatDoorLROp
import Derived.Test.YtbhgcioeibhjeaaGreatDoorLEcT
namespace Go.Proofs.YtbhgcioeibhjeaaGreatDoor
open Go.RowKit Go.Shelf
attribute [local go_sem] Oper.semAt_some

/-- a step that ends in order, and no other way -/
theorem wp_normal {P : Program} {c : Code} {K : Act → World → Prop} {X : Exit → Act → World → Prop} {a : Act} {w : World} (h : c.wp P (Exit.then K (fun _ _ _ => False)) a w) : c.wp P (Exit.then K X) a w :=
  Code.wp_mono (fun e a w hq => by
    cases e with
    | normal => exact hq
    | _ => exact False.elim hq) h
theorem RwsIn.form {W : World} {v : Value} {R : List (Nat × List UInt8)} (h : RwsIn W v R) : ∃ oa cap, v = .slice oa R.length cap := by
  obtain ⟨oa, cap, e, _⟩ := h
  exact ⟨oa, cap, e⟩
theorem fromL_le (R : List (Nat × List UInt8)) (p : Int) : (fromL R p).length ≤ R.length := (List.dropWhile_suffix _).length_le
/-- the number's box, and what lies below it -/
structure IJ (w7 : World) (T n : Nat) (V : World) : Prop where
  n : V.cell? ⟨T, 0, none⟩ = some (.int .i64 (n : Nat))
  nf : V.frozen? ⟨T, 0, none⟩ = false
  b : Below T w7 V
  s : T + 1 ≤ V.heap.size
theorem IJ.below {w7 : World} {T n M : Nat} {V V' : World} (h : IJ w7 T n V) (hM : T + 1 ≤ M) (hb : Below M V V') : IJ w7 T n V' :=
  ⟨(hb.cell (by show T < M; omega)).trans h.n, (hb.frozen (by show T < M; omega)).trans h.nf, h.b.trans (hb.mono (by omega)), Nat.le_trans h.s hb.size⟩
theorem IJ.next {w7 : World} {T n : Nat} {V : World} (h : IJ w7 T n V) (m : Int) (k : Nat) (hm : m = k) : IJ w7 T k (V.setCell ⟨T, 0, none⟩ (.int .i64 m)) := by
  subst hm
  exact ⟨World.cell?_setCell_same' _ _ _ (by rw [h.n]; rfl), by rw [World.frozen?_setCell]; exact h.nf, h.b.setCell (p := ⟨T, 0, none⟩) (Nat.le_refl _) _, by simp [World.setCell]; exact h.s⟩
theorem pre_at {x : Value × (Nat × List UInt8)} {pre : List (Value × (Nat × List UInt8))} {R : List (Nat × List UInt8)} (h : (pre ++ [x]).map (·.2) <+: R) : ∃ hl : pre.length < R.length, R[pre.length] = x.2 := by
  obtain ⟨q, hq⟩ := h
  have hl : pre.length < R.length := by rw [← hq]; simp
  refine ⟨hl, ?_⟩
  have : R[pre.length]? = some x.2 := by
    rw [← hq, List.map_append, List.append_assoc, List.getElem?_append_right (by simp)]
    simp
  rw [List.getElem?_eq_getElem hl] at this
  exact Option.some.inj this
set_option maxRecDepth 1000000 in
set_option maxHeartbeats 8000000 in
theorem is_any {N : Nat} {W : World} {Φ : Nat → Prop} {q p : Nat} {D : Dk} {t : Int} {f : Nat} {cl : Array Value} (hD : DkAt N W Φ p D) (hi : D.Inv) (hlog : LogC W q p f ((D.F f).length : Nat) t) (hf : f < 64) (hR : RLg W cl D f t) (i0 : Nat) (hi0 : i0 ≤ (D.F f).length) (hRL : RL (D.F f) i0 = fromL (recsAt 0 (recsL (D.F f))) i0) (many : Int) :
    Calls Tryz.prog 13 #[.pointer (some ⟨q, 0, none⟩), .agg cl, .int .i64 i0, .int .i64 many] W fun x W' => x = .returned (.bool true) ∧ Below W.heap.size W W' := by
  obtain ⟨R, hRR⟩ : ∃ R, fromL (recsAt 0 (recsL (D.F f))) i0 = R := ⟨_, rfl⟩
  have hRl : R.length ≤ 100000000 := by
    rw [← hRR]
    have h0 := fromL_le (recsAt 0 (recsL (D.F f))) i0
    have h1 := recsL_few (D.F f)
    have h2 := hi.len f hf
    rw [recs_len] at h0
    omega
  rw [hRR] at hRL
  have HFROM := Lib.hid (fun V (hb : Below W.heap.size W V) => rFrom_any (hR.keep hb) hi hf i0)
  rw [hRR] at HFROM
  obtain ⟨lf, hlf⟩ : ∃ lf, D.F f = lf := ⟨_, rfl⟩
  have HRE0 := Lib.hid (fun V (hb : Below W.heap.size W V) => rEnd_any (hR.keep hb) hi hf)
  have hfl : lf.length ≤ 100000000 := by
    rw [← hlf]
    exact hi.len f hf
  have HLOG : Hid (∀ V, Below W.heap.size W V → LogC V q p f (lf.length : Nat) t) := Lib.hid fun V hb => by
    rw [← hlf]
    exact (hb.block q (Array.getElem?_eq_some_iff.1 hlog).1).trans hlog
  have HE := Lib.hid (fun V => Each_any (some ⟨q, 0, none⟩) i0 V)
  have huL := Tryz.underlying38
  have hinfL : (Tryz.prog.info? 38).map (·.size) = some cl.toList.length := by rw [Array.length_toList, hR.size]; exact info68
  rw [hlf] at HRE0 hi0 hRL
  refine (callsIn_wide (n := 8)).1 ?_
  refine callsIn_of_wp_marks Tryz.func13 rfl trivial ?_ rfl
  simp only [Tryz.ntmps13, List.size_toArray, List.length_cons, List.length_nil, Nat.reduceAdd, Nat.reduceSub, Array.replicate_succ, Array.replicate_zero, List.push_toArray, List.append_toArray, List.nil_append, List.cons_append]
  refine wpIn_wide.2 ?_
  go_upto_region 1 with fail
  obtain ⟨W1, hW1⟩ : ∃ W1, (((W.alloc (.cells cl 38)).alloc (.cells #[.int .i64 many] 3)).alloc (.cells #[.bool false] 4)) = W1 := ⟨_, rfl⟩
  have hb1 : Below W.heap.size W W1 := by rw [← hW1]; exact (((Below.refl _ _).alloc (Nat.le_refl _) _).alloc (by simp) _).alloc (by simp; omega) _
  have hz1 : W1.heap.size = W.heap.size + 3 := by rw [← hW1]; simp
  have hbx : LBox W1 W.heap.size cl := by
    rw [← hW1]
    exact (Below.heap_alloc _ _ _ (by simp; omega)).trans ((Below.heap_alloc _ _ _ (by simp)).trans (heap_alloc_at W _))
  have hmb : W1.heap[W.heap.size + 1]? = some (.cells #[.int .i64 many] 3 (0, 0)) := by
    rw [← hW1]
    have h := heap_alloc_at (W.alloc (.cells cl 38)) (.cells #[.int .i64 many] 3)
    rw [World.size_alloc] at h
    exact (Below.heap_alloc _ _ _ (by simp)).trans h
  have hob : W1.heap[W.heap.size + 1 + 1]? = some (.cells #[.bool false] 4 (0, 0)) := by
    rw [← hW1]
    have h := heap_alloc_at ((W.alloc (.cells cl 38)).alloc (.cells #[.int .i64 many] 3)) (.cells #[.bool false] 4)
    rw [World.size_alloc, World.size_alloc] at h
    exact h
  rw [hW1]
  clear hW1
  have hr := hbx.range
  have HFR := Lib.hid (HFROM.out W1 hb1)
  go_upto_region 2 with (first | (refine wpList_load_mid rfl 38 _ rfl _ _ rfl _ _ hr huL rfl hinfL ?_; simp only [Act.put, List.setIfInBounds_toArray, List.set_cons_zero, List.set_cons_succ, Array.toArray_toList]) | (go_at_call 37; refine HFR.out.mono ?_; rintro e w2 ⟨v, rfl, hv2, hb2⟩; obtain ⟨ov, cv, hvf⟩ := hv2.form; subst hvf))
  obtain ⟨W3, hW3⟩ : ∃ W3, w2.alloc (.cells #[.slice ov R.length cv] 81) = W3 := ⟨_, rfl⟩
  have hb23 : Below w2.heap.size w2 W3 := by rw [← hW3]; exact (Below.refl _ w2).alloc (Nat.le_refl _) _
  have hz3 : W3.heap.size = w2.heap.size + 1 := by rw [← hW3]; simp
  have hvb : W3.heap[w2.heap.size]? = some (.cells #[.slice ov R.length cv] 81 (0, 0)) := by rw [← hW3]; exact heap_alloc_at w2 _
  have hb13 : Below W1.heap.size W1 W3 := hb2.trans (hb23.mono hb2.size)
  try rw [hW3]
  have HV3 := Lib.hid (hv2.keep hb23)
  have H13 := Lib.hid hb13
  clear hW3 hv2 hb13 hb23 HFR hr
  go_wp2_with (first | (go_at_call 23; refine (HE.out _).mono ?_; rintro e w4 ⟨rfl, hc0, hc1, hb4⟩))
  have hbW4 : Below W.heap.size W w4 := hb1.trans ((H13.out.trans (hb4.mono H13.out.size)).mono hb1.size)
  have hb34 : Below W3.heap.size W3 w4 := hb4
  have hz4 : w2.heap.size + 3 ≤ w4.heap.size := by
    have := World.block_lt_of_cell? w4 _ hc0
    simp at this
    omega
  have hb14 : Below W1.heap.size W1 w4 := H13.out.trans (hb34.mono H13.out.size)
  have HBX4 := Lib.hid (hbx.keep hb14)
  have HMB4 : Hid (w4.heap[W.heap.size + 1]? = some (.cells #[.int .i64 many] 3 (0, 0))) := Lib.hid ((hb14.block _ (by omega)).trans hmb)
  have HOB4 : Hid (w4.heap[W.heap.size + 1 + 1]? = some (.cells #[.bool false] 4 (0, 0))) := Lib.hid ((hb14.block _ (by omega)).trans hob)
  have HVB4 : Hid (w4.heap[w2.heap.size]? = some (.cells #[.slice ov R.length cv] 81 (0, 0))) := Lib.hid ((hb34.block _ (by omega)).trans hvb)
  have HV4 := Lib.hid (HV3.out.keep hb34)
  have HC01 := Lib.hid (And.intro hc0 hc1)
  have HBW4 := Lib.hid hbW4
  have HRG : Hid (∀ V, Below w4.heap.size w4 V → V.rangeAt W.heap.size 0 cl.toList) := Lib.hid fun V hb => (HBX4.out.keep hb).range
  have HC67 : Hid (∀ V, Below w4.heap.size w4 V → V.cell? ⟨W.heap.size, 67, none⟩ = some (.int .i64 t)) := Lib.hid fun V hb => (HBX4.out.keep hb).cell hR.torn
  have HEND := Lib.hid (fun V (hb : Below w4.heap.size w4 V) => lEnd_ok q p f (lf.length : Nat) t V (HLOG.out V (HBW4.out.trans (hb.mono HBW4.out.size))))
  have HTORN := Lib.hid (fun V (hb : Below w4.heap.size w4 V) => lTorn_ok q p f (lf.length : Nat) t V (HLOG.out V (HBW4.out.trans (hb.mono HBW4.out.size))))
  have HRE := Lib.hid (fun V (hb : Below w4.heap.size w4 V) => HRE0.out V (HBW4.out.trans (hb.mono HBW4.out.size)))
  have hq : ∀ (g : Fn) (a b : Array Value) (V : World), (binOp .eql 61 (.func g a b) .nilFunc).run Tryz.prog V = .ok (.bool false) V := fun _ _ _ _ => rfl
  have hbne : ∀ a : Int, (a != a) = false := fun a => by simp
  clear hb1 hbx hmb hob hvb HV3 hc0 hc1 hb4 hbW4 hb34 hb14 H13 HFROM HE HRE0
  refine wp_normal ?_
  -- BEGIN hand_isA
  refine wp_region_held_drew (S := fun W => Below w4.heap.size w4 W) (by kernel_rfl) ?_ (fun hHeld => ?_)
  · exact (Below.refl _ w4).drew
  refine wpAnyH_take (i := 0) (oi := { dst := some 20, op := Go.Op.move (Go.Operand.tmp 10), type := 61, pos := "law.go:79", after := #[], guard := none }) (v := ?v0i) rfl (by kernel_rfl) (by kernel_rfl) (by kernel_rfl) (fun _ _ _ h => h) (Or.inl ⟨by rfl, ?hy0i⟩) hHeld ?rest0i
  case hy0i => (intro W hSw; (try dsimp only at hSw); go_simp; try with_reducible rfl)
  try simp only [Act.put, List.setIfInBounds_toArray, List.set_cons_zero, List.set_cons_succ]
  refine wpAnyH_take (i := 1) (oi := { dst := some 21, op := Go.Op.binOp Go.BinOp.eql 61 (Go.Operand.tmp 20) (Go.Operand.const Go.Value.nilFunc) 61, type := 4, pos := "law.go:79", after := #[{ on := 0, ground := Go.Ground.data }], guard := none }) (v := .bool false) rfl (by kernel_rfl) (by kernel_rfl) (by kernel_rfl) (fun _ _ _ h => h) (Or.inl ⟨by rfl, ?hy1i⟩) hHeld ?rest1i
  case hy1i => (intro W hSw; (try dsimp only at hSw); go_simp; try with_reducible rfl)
  try simp only [Act.put, List.setIfInBounds_toArray, List.set_cons_zero, List.set_cons_succ]
  refine wpAnyH_take (i := 2) (oi := { dst := some 22, op := Go.Op.move (Go.Operand.tmp 21), type := 4, pos := "law.go:79", after := #[{ on := 1, ground := Go.Ground.data }], guard := none }) (v := .bool false) rfl (by kernel_rfl) (by kernel_rfl) (by kernel_rfl) (fun _ _ _ h => h) (Or.inl ⟨by rfl, ?hy2i⟩) hHeld ?rest2i
  case hy2i => (intro W hSw; (try dsimp only at hSw); go_simp; try with_reducible rfl)
  try simp only [Act.put, List.setIfInBounds_toArray, List.set_cons_zero, List.set_cons_succ]
  refine wpAnyH_take (i := 3) (oi := { dst := some 23, op := Go.Op.move (Go.Operand.tmp 0), type := 29, pos := "law.go:79", after := #[{ on := 2, ground := Go.Ground.guard }], guard := some (2, false) }) (v := ?v3i) rfl (by kernel_rfl) (by kernel_rfl) (by kernel_rfl) (fun _ _ _ h => h) (Or.inl ⟨by rfl, ?hy3i⟩) hHeld ?rest3i
  case hy3i => (intro W hSw; (try dsimp only at hSw); go_simp; try with_reducible rfl)
  try simp only [Act.put, List.setIfInBounds_toArray, List.set_cons_zero, List.set_cons_succ]
  refine wpAnyH_take (i := 5) (oi := { dst := some 25, op := Go.Op.load 38 (Go.Operand.tmp 5), type := 38, pos := "law.go:79", after := #[{ on := 2, ground := Go.Ground.guard }], guard := some (2, false) }) (v := _) rfl (by kernel_rfl) (by kernel_rfl) (by kernel_rfl) (fun _ _ _ h => h) (yieldsIf_load_mid (by rfl) 38 _ rfl _ _ rfl _ _ (fun W hSw => HRG.out W hSw) huL rfl hinfL) hHeld ?_
  try simp only [Act.put, List.setIfInBounds_toArray, List.set_cons_zero, List.set_cons_succ]
  refine wpAnyH_ready (rs := [4]) (by kernel_rfl) (by simp) ?_
  refine AllReadyH.cons (o := { dst := some 24, op := Go.Op.call { callee := Go.Callee.value (Go.Operand.func 24), args := #[Go.Operand.tmp 23], argTypes := #[29] }, type := 3, pos := "law.go:79", after := #[{ on := 3, ground := Go.Ground.data }, { on := 2, ground := Go.Ground.chain }, { on := 2, ground := Go.Ground.guard }], guard := some (2, false) }) rfl (fun K hK => ?_) AllReadyH.nil
  go_simp
  go_at_call 24
  refine (HEND.out _ hHeld).mono ?_
  rintro e w5 ⟨rfl, rfl⟩
  refine hK.out _ _ (hHeld) (fun hHeld' => ?_)
  clear hK K hHeld
  have hHeld := hHeld'
  clear hHeld'
  try simp only [Act.put, List.setIfInBounds_toArray, List.set_cons_zero, List.set_cons_succ]
  refine wpAnyH_ready (rs := [6]) (by kernel_rfl) (by simp) ?_
  refine AllReadyH.cons (o := { dst := some 26, op := Go.Op.call { callee := Go.Callee.value (Go.Operand.func 38), args := #[Go.Operand.tmp 25], argTypes := #[38] }, type := 3, pos := "law.go:79", after := #[{ on := 5, ground := Go.Ground.data }, { on := 4, ground := Go.Ground.chain }, { on := 2, ground := Go.Ground.guard }], guard := some (2, false) }) rfl (fun K hK => ?_) AllReadyH.nil
  go_simp
  go_at_call 38
  refine (HRE.out _ hHeld).mono ?_
  rintro e w6 ⟨rfl, hb6⟩
  refine hK.out _ _ (hHeld.trans (hb6.mono hHeld.size)) (fun hHeld' => ?_)
  clear hK K hHeld
  have hHeld := hHeld'
  clear hHeld'
  try simp only [Act.put, List.setIfInBounds_toArray, List.set_cons_zero, List.set_cons_succ]
  refine wpAnyH_take (i := 7) (oi := { dst := some 27, op := Go.Op.binOp Go.BinOp.neq 3 (Go.Operand.tmp 24) (Go.Operand.tmp 26) 3, type := 4, pos := "law.go:79", after := #[{ on := 4, ground := Go.Ground.data }, { on := 6, ground := Go.Ground.data }, { on := 2, ground := Go.Ground.guard }], guard := some (2, false) }) (v := .bool false) rfl (by kernel_rfl) (by kernel_rfl) (by kernel_rfl) (fun _ _ _ h => h) (Or.inl ⟨by rfl, ?hy7i⟩) hHeld ?rest7i
  case hy7i => (intro W hSw; (try dsimp only at hSw); go_simp; try with_reducible rfl)
  try simp only [Act.put, List.setIfInBounds_toArray, List.set_cons_zero, List.set_cons_succ]
  refine wpAnyH_take (i := 8) (oi := { dst := some 28, op := Go.Op.pick (Go.Operand.tmp 22) (Go.Operand.const (Go.Value.bool true)) (Go.Operand.tmp 27), type := 4, pos := "law.go:79", after := #[{ on := 2, ground := Go.Ground.data }, { on := 7, ground := Go.Ground.data }], guard := none }) (v := .bool false) rfl (by kernel_rfl) (by kernel_rfl) (by kernel_rfl) (fun _ _ _ h => h) (Or.inl ⟨by rfl, ?hy8i⟩) hHeld ?rest8i
  case hy8i => (intro W hSw; (try dsimp only at hSw); go_simp; try with_reducible rfl)
  try simp only [Act.put, List.setIfInBounds_toArray, List.set_cons_zero, List.set_cons_succ]
  refine wpAnyH_take (i := 9) (oi := { dst := some 29, op := Go.Op.move (Go.Operand.tmp 28), type := 4, pos := "law.go:79", after := #[{ on := 8, ground := Go.Ground.data }, { on := 6, ground := Go.Ground.chain }], guard := none }) (v := .bool false) rfl (by kernel_rfl) (by kernel_rfl) (by kernel_rfl) (fun _ _ _ h => h) (Or.inl ⟨by rfl, ?hy9i⟩) hHeld ?rest9i
  case hy9i => (intro W hSw; (try dsimp only at hSw); go_simp; try with_reducible rfl)
  try simp only [Act.put, List.setIfInBounds_toArray, List.set_cons_zero, List.set_cons_succ]
  refine wpAnyH_take (i := 10) (oi := { dst := some 30, op := Go.Op.move (Go.Operand.tmp 0), type := 29, pos := "law.go:79", after := #[{ on := 9, ground := Go.Ground.guard }], guard := some (9, false) }) (v := ?v10i) rfl (by kernel_rfl) (by kernel_rfl) (by kernel_rfl) (fun _ _ _ h => h) (Or.inl ⟨by rfl, ?hy10i⟩) hHeld ?rest10i
  case hy10i => (intro W hSw; (try dsimp only at hSw); go_simp; try with_reducible rfl)
  try simp only [Act.put, List.setIfInBounds_toArray, List.set_cons_zero, List.set_cons_succ]
  refine wpAnyH_take (i := 12) (oi := { dst := some 32, op := Go.Op.fieldAddr 38 (Go.Operand.tmp 5) 2, type := 0, pos := "law.go:79", after := #[{ on := 9, ground := Go.Ground.guard }], guard := some (9, false) }) (v := ?v12i) rfl (by kernel_rfl) (by kernel_rfl) (by kernel_rfl) (fun _ _ _ h => h) (Or.inl ⟨by rfl, ?hy12i⟩) hHeld ?rest12i
  case hy12i => (intro W hSw; (try dsimp only at hSw); go_simp; try with_reducible rfl)
  try simp only [Act.put, List.setIfInBounds_toArray, List.set_cons_zero, List.set_cons_succ]
  refine wpAnyH_take (i := 13) (oi := { dst := some 33, op := Go.Op.load 3 (Go.Operand.tmp 32), type := 3, pos := "law.go:79", after := #[{ on := 12, ground := Go.Ground.data }, { on := 9, ground := Go.Ground.guard }], guard := some (9, false) }) (v := ?v13i) rfl (by kernel_rfl) (by kernel_rfl) (by kernel_rfl) (fun _ _ _ h => h) (Or.inl ⟨by rfl, ?hy13i⟩) hHeld ?rest13i
  case hy13i => (intro W hSw; (try dsimp only at hSw); have hc67 := HC67.out W hSw; go_simp; try with_reducible rfl)
  try simp only [Act.put, List.setIfInBounds_toArray, List.set_cons_zero, List.set_cons_succ]
  refine wpAnyH_ready (rs := [11]) (by kernel_rfl) (by simp) ?_
  refine AllReadyH.cons (o := { dst := some 31, op := Go.Op.call { callee := Go.Callee.value (Go.Operand.func 25), args := #[Go.Operand.tmp 30], argTypes := #[29] }, type := 3, pos := "law.go:79", after := #[{ on := 10, ground := Go.Ground.data }, { on := 9, ground := Go.Ground.chain }, { on := 9, ground := Go.Ground.guard }], guard := some (9, false) }) rfl (fun K hK => ?_) AllReadyH.nil
  go_simp
  go_at_call 25
  refine (HTORN.out _ hHeld).mono ?_
  rintro e w7 ⟨rfl, rfl⟩
  refine hK.out _ _ (hHeld) (fun hHeld' => ?_)
  clear hK K hHeld
  have hHeld := hHeld'
  clear hHeld'
  try simp only [Act.put, List.setIfInBounds_toArray, List.set_cons_zero, List.set_cons_succ]
  refine wpAnyH_take (i := 14) (oi := { dst := some 34, op := Go.Op.binOp Go.BinOp.neq 3 (Go.Operand.tmp 31) (Go.Operand.tmp 33) 3, type := 4, pos := "law.go:79", after := #[{ on := 11, ground := Go.Ground.data }, { on := 13, ground := Go.Ground.data }, { on := 9, ground := Go.Ground.guard }], guard := some (9, false) }) (v := .bool false) rfl (by kernel_rfl) (by kernel_rfl) (by kernel_rfl) (fun _ _ _ h => h) (Or.inl ⟨by rfl, ?hy14i⟩) hHeld ?rest14i
  case hy14i => (intro W hSw; (try dsimp only at hSw); go_simp; try with_reducible rfl)
  try simp only [Act.put, List.setIfInBounds_toArray, List.set_cons_zero, List.set_cons_succ]
  refine wpAnyH_take (i := 15) (oi := { dst := some 35, op := Go.Op.pick (Go.Operand.tmp 29) (Go.Operand.const (Go.Value.bool true)) (Go.Operand.tmp 34), type := 4, pos := "law.go:79", after := #[{ on := 9, ground := Go.Ground.data }, { on := 14, ground := Go.Ground.data }], guard := none }) (v := .bool false) rfl (by kernel_rfl) (by kernel_rfl) (by kernel_rfl) (fun _ _ _ h => h) (Or.inl ⟨by rfl, ?hy15i⟩) hHeld ?rest15i
  case hy15i => (intro W hSw; (try dsimp only at hSw); go_simp; try with_reducible rfl)
  try simp only [Act.put, List.setIfInBounds_toArray, List.set_cons_zero, List.set_cons_succ]
  refine wpAnyH_done (by kernel_rfl) ?_ _
  try dsimp only
  try simp only [Act.put, List.setIfInBounds_toArray, List.set_cons_zero, List.set_cons_succ]
  -- END hand_isA
  have HB6 := Lib.hid hHeld
  clear hHeld
  have hz6 : w4.heap.size ≤ w6.heap.size := HB6.out.size
  go_wp2_with fail
  obtain ⟨w7, hw7⟩ : ∃ w7, w6.alloc (.cells #[.int .i64 0] 3) = w7 := ⟨_, rfl⟩
  have hb67 : Below w6.heap.size w6 w7 := by rw [← hw7]; exact (Below.refl _ w6).alloc (Nat.le_refl _) _
  have hz7 : w7.heap.size = w6.heap.size + 1 := by rw [← hw7]; simp
  have hblk : w7.heap[w6.heap.size]? = some (.cells #[.int .i64 0] 3 (0, 0)) := by rw [← hw7]; exact heap_alloc_at w6 _
  have HB47 : Hid (Below w4.heap.size w4 w7) := Lib.hid (HB6.out.trans (hb67.mono hz6))
  have HIJ0 : Hid (IJ w7 w6.heap.size 0 w7) := Lib.hid ⟨by simp only [World.cell?]; rw [hblk]; rfl, by simp only [World.frozen?]; rw [hblk]; rfl, Below.refl _ _, by omega⟩
  have hW4 : W.heap.size ≤ w4.heap.size := HBW4.out.size
  have HGV : Hid (∀ V : World, w4.heap.size ≤ V.heap.size → (∀ k, k < w4.heap.size → V.heap[k]? = w7.heap[k]?) → Calls Tryz.prog 53 #[.pointer (some ⟨q, 0, none⟩)] V (OctP lf V)) := Lib.hid fun V hs hk => by
    rw [← hlf]
    have hold : ∀ k, k < W.heap.size → V.heap[k]? = W.heap[k]? := fun k hk' => (hk k (by omega)).trans ((HB47.out.block k (by omega)).trans (HBW4.out.block k hk'))
    obtain ⟨mf, ms, V1, U, lv, B, h1⟩ := hD
    exact loctets_at (N := N) ⟨mf, ms, V1, U, lv, B, h1.keep (by omega) (fun k hp => hold k (h1.lt k hp).2)⟩ hi ((hold q (Array.getElem?_eq_some_iff.1 hlog).1).trans hlog) hf
  have HT := Lib.hid (eachL_turns 7 (by decide) (w2.heap.size + 1 + 1) (w2.heap.size + 1) (.pointer (some ⟨q, 0, none⟩)) lf i0 w7 ((HB47.out.cell (by show w2.heap.size + 1 + 1 < w4.heap.size; omega)).trans (by have := HC01.out.1; rwa [hz3] at this)) ((HB47.out.cell (by show w2.heap.size + 1 < w4.heap.size; omega)).trans (by have := HC01.out.2; rwa [hz3] at this)) hfl hi0 (fun k => k < w4.heap.size) (fun k hk => by omega) (by omega) (by omega)
    (fun V hs hk => HGV.out V (by omega) hk))
  rw [hRL] at HT
  have HALL : Hid (∀ V, Below w6.heap.size w7 V → V.cell? ⟨w2.heap.size, 0, none⟩ = some (.slice ov R.length cv) ∧ V.cell? ⟨W.heap.size + 1, 0, none⟩ = some (.int .i64 many) ∧ V.cell? ⟨W.heap.size + 1 + 1, 0, none⟩ = some (.bool false) ∧ V.frozen? ⟨W.heap.size + 1 + 1, 0, none⟩ = false ∧ RwsIn V (.slice ov R.length cv) R ∧ Below W.heap.size W V) := Lib.hid fun V hb => by
    have hb4 : Below w4.heap.size w4 V := HB47.out.trans (hb.mono hz6)
    have hwlt : W.heap.size + 1 + 1 < w4.heap.size := (Array.getElem?_eq_some_iff.1 HOB4.out).1
    refine ⟨?_, ?_, ?_, ?_, HV4.out.keep hb4, HBW4.out.trans (hb4.mono hW4)⟩
    · simp only [World.cell?]; rw [hb4.block _ (by omega), HVB4.out]; rfl
    · simp only [World.cell?]; rw [hb4.block _ (by omega), HMB4.out]; rfl
    · simp only [World.cell?]; rw [hb4.block _ (by omega), HOB4.out]; rfl
    · simp only [World.frozen?]; rw [hb4.block _ (by omega), HOB4.out]; rfl
  have hwlt : W.heap.size + 1 + 1 < w4.heap.size := (Array.getElem?_eq_some_iff.1 HOB4.out).1
  have hn1 : ¬ (W.heap.size + 1 = w6.heap.size) := by omega
  have hn2 : ¬ (w6.heap.size = W.heap.size + 1) := by omega
  have hn3 : ¬ (w2.heap.size = w6.heap.size) := by omega
  have hn4 : ¬ (w6.heap.size = w2.heap.size) := by omega
  rw [hw7]
  clear hD hi hlog hf hR hb67 hblk HGV HB6 HRG HC67 HEND HTORN HRE HC01 HLOG hRL hRR hw7 HB47 HBX4 HMB4 HOB4 HVB4 HV4 hbne
  refine (wpIn_wide (n := 8)).1 ?_
  refine wpIn_turnsF (F := Fence.wide) (G := fun k => k < w4.heap.size) rfl (by decide) (gf := 52) (lb := #[.pointer (some ⟨w2.heap.size + 1 + 1, 0, none⟩), .pointer (some ⟨w2.heap.size + 1, 0, none⟩)]) rfl trivial (enters_of Tryz.func52 (by kernel_rfl) rfl)
    HT.out (fun k hk => by omega) (fun x => rfl)
    (fun (pre : List (Value × (Nat × List UInt8))) V => IJ w7 w6.heap.size pre.length V ∧ (pre = [] ∨ (pre.length : Int) < many))
    (fun c (pre : List (Value × (Nat × List UInt8))) V => c = .exit 0 ∧ IJ w7 w6.heap.size pre.length V ∧ (1 ≤ pre.length ∧ many ≤ pre.length ∧ (pre.length = 1 ∨ (pre.length : Int) - 1 < many)))
    (fun s A A' h hb => ⟨h.1.below (by omega) hb, h.2⟩)
    (fun c s A A' h hb => ⟨h.1, h.2.1.below (by omega) hb, h.2.2⟩)
    (fun x V l r o h hl => h.loop hl o)
    ⟨HIJ0.out, .inl rfl⟩
    (fun x => { tmps := #[.pointer (some ⟨q, 0, none⟩), .agg cl, .int .i64 i0, .int .i64 many, undef, .pointer (some ⟨W.heap.size, 0, none⟩), undef, .pointer (some ⟨W.heap.size + 1, 0, none⟩), .pointer (some ⟨W.heap.size + 1 + 1, 0, none⟩), .pointer (some ⟨w2.heap.size, 0, none⟩), .func (.func 52) #[] #[.pointer (some ⟨w2.heap.size + 1 + 1, 0, none⟩), .pointer (some ⟨w2.heap.size + 1, 0, none⟩)], .pointer (some ⟨w6.heap.size, 0, none⟩), .int .i64 x.2.1, x.1, .agg cl, .int .i64 i0, .slice ov R.length cv, .pointer (some ⟨q, 0, none⟩), .int .i64 i0, .func (.func 52) #[] #[.pointer (some ⟨w2.heap.size + 1 + 1, 0, none⟩), .pointer (some ⟨w2.heap.size + 1, 0, none⟩)], .func (.func 52) #[] #[.pointer (some ⟨w2.heap.size + 1 + 1, 0, none⟩), .pointer (some ⟨w2.heap.size + 1, 0, none⟩)], .bool false, .bool false, .pointer (some ⟨q, 0, none⟩), .int .i64 lf.length, .agg cl, .int .i64 lf.length, .bool false, .bool false, .bool false, .pointer (some ⟨q, 0, none⟩), .int .i64 t, .pointer (some ⟨W.heap.size, 67, none⟩), .int .i64 t, .bool false, .bool false, .func (.func 52) #[] #[.pointer (some ⟨w2.heap.size + 1 + 1, 0, none⟩), .pointer (some ⟨w2.heap.size + 1, 0, none⟩)], .int .i64 x.2.1, x.1, undef, undef, undef, undef, undef, undef, undef, undef, undef, undef, undef, undef, undef, undef, undef, undef, undef, undef, undef, undef, undef, undef, undef, undef, undef, undef, undef, undef, undef, undef, undef, undef, undef, undef, undef], defers := [] }) ?assign ?body ?done ?stop
  case assign =>
    intro lp x V K hK
    simp only [encE]
    gi_wp2
    exact hK
  case body =>
    rintro lp pre x V ⟨hij, hq⟩ hsp hbt hszV
    obtain ⟨hl, hxR⟩ := pre_at hsp
    obtain ⟨xv, xi, xb⟩ := x
    simp only at hbt hxR
    have hbd : Below V.heap.size V V.drew := (Below.refl _ V).drew
    have hs1 := bt_string (hbt.keep hbd)
    have hijd := hij.below (M := V.heap.size) hij.s hbd
    obtain ⟨k1, k2, k3, k4, k5, k6⟩ := HALL.out V.drew hijd.b
    obtain ⟨ov', cv', e5, k5c⟩ := k5
    cases e5
    obtain ⟨a, ha, r1, r2⟩ := k5c pre.length hl
    rw [hxR] at r1 r2
    subst ha
    have hN := hijd.n
    have HQ := Lib.hid hq
    have HIJ := Lib.hid hijd
    have hlt2 : (pre.length : Int) < (R.length : Int) := by omega
    have hfn := hijd.nf
    have HKV : Hid (Keep w7.heap.size (fun k => k < w4.heap.size) V V.drew) := Lib.hid ⟨Nat.le_refl _, fun _ _ _ => rfl⟩
    dsimp only
    gi_wp2_with fail
    refine wpIn_region_Y (S := fun V => V.cell? ⟨w6.heap.size, 0, none⟩ = some (.int .i64 (pre.length : Int)) ∧ V.cell? ⟨w2.heap.size, 0, none⟩ = some (.slice (some a) R.length cv) ∧ V.cell? (a.add (pre.length * 2)) = some (.int .i64 xi) ∧ V.cell? ⟨(a.add (pre.length * 2)).block, (a.add (pre.length * 2)).off + 1, none⟩ = some (.string ⟨xb.toArray⟩) ∧ (convert 43 9 xv).run Tryz.prog V = .ok (.string ⟨xb.toArray⟩) V) (by kernel_rfl) ?_
    generalize V.drew = Vd at *
    have hS := And.intro hN (And.intro k1 (And.intro r1 (And.intro r2 hs1)))
    refine wpAnyY_take (i := 0) (oi := { dst := some 39, op := Go.Op.load 3 (Go.Operand.tmp 11), type := 3, pos := "law.go:84", after := #[], guard := none }) (v := .int .i64 (pre.length : Int)) rfl (by kernel_rfl) (by kernel_rfl) (by kernel_rfl) (by kernel_rfl) (fun _ _ _ h => h) (by intro w; first | rfl | (simp [Oper.about, resolve, Target.leads]; done)) (Or.inl ⟨by rfl, ?hyis0⟩) hS ?_
    case hyis0 => (rintro V ⟨s1, s2, s3, s4, s5⟩; go_simp; try with_reducible rfl)
    try simp only [Act.put, List.setIfInBounds_toArray, List.set_cons_zero, List.set_cons_succ]
    refine wpAnyY_take (i := 1) (oi := { dst := some 40, op := Go.Op.load 81 (Go.Operand.tmp 9), type := 81, pos := "law.go:84", after := #[], guard := none }) (v := .slice (some a) R.length cv) rfl (by kernel_rfl) (by kernel_rfl) (by kernel_rfl) (by kernel_rfl) (fun _ _ _ h => h) (by intro w; first | rfl | (simp [Oper.about, resolve, Target.leads]; done)) (Or.inl ⟨by rfl, ?hyis1⟩) hS ?_
    case hyis1 => (rintro V ⟨s1, s2, s3, s4, s5⟩; go_simp; try with_reducible rfl)
    try simp only [Act.put, List.setIfInBounds_toArray, List.set_cons_zero, List.set_cons_succ]
    refine wpAnyY_take (i := 2) (oi := { dst := some 41, op := Go.Op.call { callee := Go.Callee.builtin Go.Builtin.len, args := #[Go.Operand.tmp 40], argTypes := #[81] }, type := 3, pos := "law.go:84", after := #[{ on := 1, ground := Go.Ground.data }], guard := none }) (v := .int .i64 (R.length : Int)) rfl (by kernel_rfl) (by kernel_rfl) (by kernel_rfl) (by kernel_rfl) (fun _ _ _ h => h) (by intro w; first | rfl | (simp [Oper.about, resolve, Target.leads]; done)) (Or.inl ⟨by rfl, ?hyis2⟩) hS ?_
    case hyis2 => (rintro V ⟨s1, s2, s3, s4, s5⟩; go_simp; try with_reducible rfl)
    try simp only [Act.put, List.setIfInBounds_toArray, List.set_cons_zero, List.set_cons_succ]
    refine wpAnyY_take (i := 3) (oi := { dst := some 42, op := Go.Op.binOp Go.BinOp.geq 3 (Go.Operand.tmp 39) (Go.Operand.tmp 41) 3, type := 4, pos := "law.go:84", after := #[{ on := 0, ground := Go.Ground.data }, { on := 2, ground := Go.Ground.data }], guard := none }) (v := .bool false) rfl (by kernel_rfl) (by kernel_rfl) (by kernel_rfl) (by kernel_rfl) (fun _ _ _ h => h) (by intro w; first | rfl | (simp [Oper.about, resolve, Target.leads]; done)) (Or.inl ⟨by rfl, ?hyis3⟩) hS ?_
    case hyis3 => (rintro V ⟨s1, s2, s3, s4, s5⟩; go_simp; try with_reducible rfl)
    try simp only [Act.put, List.setIfInBounds_toArray, List.set_cons_zero, List.set_cons_succ]
    refine wpAnyY_take (i := 4) (oi := { dst := some 43, op := Go.Op.move (Go.Operand.tmp 42), type := 4, pos := "law.go:84", after := #[{ on := 3, ground := Go.Ground.data }], guard := none }) (v := .bool false) rfl (by kernel_rfl) (by kernel_rfl) (by kernel_rfl) (by kernel_rfl) (fun _ _ _ h => h) (by intro w; first | rfl | (simp [Oper.about, resolve, Target.leads]; done)) (Or.inl ⟨by rfl, ?hyis4⟩) hS ?_
    case hyis4 => (rintro V ⟨s1, s2, s3, s4, s5⟩; go_simp; try with_reducible rfl)
    try simp only [Act.put, List.setIfInBounds_toArray, List.set_cons_zero, List.set_cons_succ]
    refine wpAnyY_take (i := 5) (oi := { dst := some 44, op := Go.Op.move (Go.Operand.tmp 12), type := 3, pos := "law.go:84", after := #[{ on := 4, ground := Go.Ground.guard }], guard := some (4, false) }) (v := .int .i64 (xi : Int)) rfl (by kernel_rfl) (by kernel_rfl) (by kernel_rfl) (by kernel_rfl) (fun _ _ _ h => h) (by intro w; first | rfl | (simp [Oper.about, resolve, Target.leads]; done)) (Or.inl ⟨by rfl, ?hyis5⟩) hS ?_
    case hyis5 => (rintro V ⟨s1, s2, s3, s4, s5⟩; go_simp; try with_reducible rfl)
    try simp only [Act.put, List.setIfInBounds_toArray, List.set_cons_zero, List.set_cons_succ]
    refine wpAnyY_take (i := 6) (oi := { dst := some 45, op := Go.Op.load 81 (Go.Operand.tmp 9), type := 81, pos := "law.go:84", after := #[{ on := 4, ground := Go.Ground.guard }], guard := some (4, false) }) (v := .slice (some a) R.length cv) rfl (by kernel_rfl) (by kernel_rfl) (by kernel_rfl) (by kernel_rfl) (fun _ _ _ h => h) (by intro w; first | rfl | (simp [Oper.about, resolve, Target.leads]; done)) (Or.inl ⟨by rfl, ?hyis6⟩) hS ?_
    case hyis6 => (rintro V ⟨s1, s2, s3, s4, s5⟩; go_simp; try with_reducible rfl)
    try simp only [Act.put, List.setIfInBounds_toArray, List.set_cons_zero, List.set_cons_succ]
    refine wpAnyY_take (i := 7) (oi := { dst := some 46, op := Go.Op.load 3 (Go.Operand.tmp 11), type := 3, pos := "law.go:84", after := #[{ on := 4, ground := Go.Ground.guard }], guard := some (4, false) }) (v := .int .i64 (pre.length : Int)) rfl (by kernel_rfl) (by kernel_rfl) (by kernel_rfl) (by kernel_rfl) (fun _ _ _ h => h) (by intro w; first | rfl | (simp [Oper.about, resolve, Target.leads]; done)) (Or.inl ⟨by rfl, ?hyis7⟩) hS ?_
    case hyis7 => (rintro V ⟨s1, s2, s3, s4, s5⟩; go_simp; try with_reducible rfl)
    try simp only [Act.put, List.setIfInBounds_toArray, List.set_cons_zero, List.set_cons_succ]
    refine wpAnyY_take (i := 8) (oi := { dst := some 47, op := Go.Op.indexAddr 81 (Go.Operand.tmp 45) (Go.Operand.tmp 46), type := 0, pos := "law.go:84", after := #[{ on := 6, ground := Go.Ground.data }, { on := 7, ground := Go.Ground.data }, { on := 4, ground := Go.Ground.guard }], guard := some (4, false) }) (v := .pointer (some (a.add (pre.length * 2)))) rfl (by kernel_rfl) (by kernel_rfl) (by kernel_rfl) (by kernel_rfl) (fun _ _ _ h => h) (by intro w; first | rfl | (simp [Oper.about, resolve, Target.leads]; done)) (Or.inl ⟨by rfl, ?hyis8⟩) hS ?_
    case hyis8 => (rintro V ⟨s1, s2, s3, s4, s5⟩; go_simp; try with_reducible rfl)
    try simp only [Act.put, List.setIfInBounds_toArray, List.set_cons_zero, List.set_cons_succ]
    refine wpAnyY_take (i := 9) (oi := { dst := some 48, op := Go.Op.fieldAddr 84 (Go.Operand.tmp 47) 0, type := 0, pos := "law.go:84", after := #[{ on := 8, ground := Go.Ground.data }, { on := 4, ground := Go.Ground.guard }], guard := some (4, false) }) (v := .pointer (some (a.add (pre.length * 2)))) rfl (by kernel_rfl) (by kernel_rfl) (by kernel_rfl) (by kernel_rfl) (fun _ _ _ h => h) (by intro w; first | rfl | (simp [Oper.about, resolve, Target.leads]; done)) (Or.inl ⟨by rfl, ?hyis9⟩) hS ?_
    case hyis9 => (rintro V ⟨s1, s2, s3, s4, s5⟩; go_simp; try with_reducible rfl)
    try simp only [Act.put, List.setIfInBounds_toArray, List.set_cons_zero, List.set_cons_succ]
    refine wpAnyY_take (i := 10) (oi := { dst := some 49, op := Go.Op.load 3 (Go.Operand.tmp 48), type := 3, pos := "law.go:84", after := #[{ on := 9, ground := Go.Ground.data }, { on := 4, ground := Go.Ground.guard }], guard := some (4, false) }) (v := .int .i64 (xi : Int)) rfl (by kernel_rfl) (by kernel_rfl) (by kernel_rfl) (by kernel_rfl) (fun _ _ _ h => h) (by intro w; first | rfl | (simp [Oper.about, resolve, Target.leads]; done)) (Or.inl ⟨by rfl, ?hyis10⟩) hS ?_
    case hyis10 => (rintro V ⟨s1, s2, s3, s4, s5⟩; go_simp; try with_reducible rfl)
    try simp only [Act.put, List.setIfInBounds_toArray, List.set_cons_zero, List.set_cons_succ]
    refine wpAnyY_take (i := 11) (oi := { dst := some 50, op := Go.Op.binOp Go.BinOp.neq 3 (Go.Operand.tmp 44) (Go.Operand.tmp 49) 3, type := 4, pos := "law.go:84", after := #[{ on := 5, ground := Go.Ground.data }, { on := 10, ground := Go.Ground.data }, { on := 4, ground := Go.Ground.guard }], guard := some (4, false) }) (v := .bool false) rfl (by kernel_rfl) (by kernel_rfl) (by kernel_rfl) (by kernel_rfl) (fun _ _ _ h => h) (by intro w; first | rfl | (simp [Oper.about, resolve, Target.leads]; done)) (Or.inl ⟨by rfl, ?hyis11⟩) hS ?_
    case hyis11 => (rintro V ⟨s1, s2, s3, s4, s5⟩; go_simp; try with_reducible rfl)
    try simp only [Act.put, List.setIfInBounds_toArray, List.set_cons_zero, List.set_cons_succ]
    refine wpAnyY_take (i := 12) (oi := { dst := some 51, op := Go.Op.pick (Go.Operand.tmp 43) (Go.Operand.const (Go.Value.bool true)) (Go.Operand.tmp 50), type := 4, pos := "law.go:84", after := #[{ on := 4, ground := Go.Ground.data }, { on := 11, ground := Go.Ground.data }], guard := none }) (v := .bool false) rfl (by kernel_rfl) (by kernel_rfl) (by kernel_rfl) (by kernel_rfl) (fun _ _ _ h => h) (by intro w; first | rfl | (simp [Oper.about, resolve, Target.leads]; done)) (Or.inl ⟨by rfl, ?hyis12⟩) hS ?_
    case hyis12 => (rintro V ⟨s1, s2, s3, s4, s5⟩; go_simp; try with_reducible rfl)
    try simp only [Act.put, List.setIfInBounds_toArray, List.set_cons_zero, List.set_cons_succ]
    refine wpAnyY_take (i := 13) (oi := { dst := some 52, op := Go.Op.move (Go.Operand.tmp 51), type := 4, pos := "law.go:84", after := #[{ on := 12, ground := Go.Ground.data }, { on := 4, ground := Go.Ground.chain }], guard := none }) (v := .bool false) rfl (by kernel_rfl) (by kernel_rfl) (by kernel_rfl) (by kernel_rfl) (fun _ _ _ h => h) (by intro w; first | rfl | (simp [Oper.about, resolve, Target.leads]; done)) (Or.inl ⟨by rfl, ?hyis13⟩) hS ?_
    case hyis13 => (rintro V ⟨s1, s2, s3, s4, s5⟩; go_simp; try with_reducible rfl)
    try simp only [Act.put, List.setIfInBounds_toArray, List.set_cons_zero, List.set_cons_succ]
    refine wpAnyY_take (i := 14) (oi := { dst := some 53, op := Go.Op.move (Go.Operand.tmp 13), type := 43, pos := "law.go:84", after := #[{ on := 13, ground := Go.Ground.guard }], guard := some (13, false) }) (v := xv) rfl (by kernel_rfl) (by kernel_rfl) (by kernel_rfl) (by kernel_rfl) (fun _ _ _ h => h) (by intro w; first | rfl | (simp [Oper.about, resolve, Target.leads]; done)) (Or.inl ⟨by rfl, ?hyis14⟩) hS ?_
    case hyis14 => (rintro V ⟨s1, s2, s3, s4, s5⟩; go_simp; try with_reducible rfl)
    try simp only [Act.put, List.setIfInBounds_toArray, List.set_cons_zero, List.set_cons_succ]
    refine wpAnyY_take (i := 15) (oi := { dst := some 54, op := Go.Op.convert 43 9 (Go.Operand.tmp 53), type := 9, pos := "law.go:84", after := #[{ on := 14, ground := Go.Ground.data }, { on := 13, ground := Go.Ground.guard }], guard := some (13, false) }) (v := .string ⟨xb.toArray⟩) rfl (by kernel_rfl) (by kernel_rfl) (by kernel_rfl) (by kernel_rfl) (fun _ _ _ h => h) (by intro w; first | rfl | (simp [Oper.about, resolve, Target.leads]; done)) (Or.inl ⟨by rfl, ?hyis15⟩) hS ?_
    case hyis15 => (rintro V ⟨s1, s2, s3, s4, s5⟩; go_simp; try with_reducible rfl)
    try simp only [Act.put, List.setIfInBounds_toArray, List.set_cons_zero, List.set_cons_succ]
    refine wpAnyY_take (i := 16) (oi := { dst := some 55, op := Go.Op.load 81 (Go.Operand.tmp 9), type := 81, pos := "law.go:84", after := #[{ on := 13, ground := Go.Ground.guard }], guard := some (13, false) }) (v := .slice (some a) R.length cv) rfl (by kernel_rfl) (by kernel_rfl) (by kernel_rfl) (by kernel_rfl) (fun _ _ _ h => h) (by intro w; first | rfl | (simp [Oper.about, resolve, Target.leads]; done)) (Or.inl ⟨by rfl, ?hyis16⟩) hS ?_
    case hyis16 => (rintro V ⟨s1, s2, s3, s4, s5⟩; go_simp; try with_reducible rfl)
    try simp only [Act.put, List.setIfInBounds_toArray, List.set_cons_zero, List.set_cons_succ]
    refine wpAnyY_take (i := 17) (oi := { dst := some 56, op := Go.Op.load 3 (Go.Operand.tmp 11), type := 3, pos := "law.go:84", after := #[{ on := 13, ground := Go.Ground.guard }], guard := some (13, false) }) (v := .int .i64 (pre.length : Int)) rfl (by kernel_rfl) (by kernel_rfl) (by kernel_rfl) (by kernel_rfl) (fun _ _ _ h => h) (by intro w; first | rfl | (simp [Oper.about, resolve, Target.leads]; done)) (Or.inl ⟨by rfl, ?hyis17⟩) hS ?_
    case hyis17 => (rintro V ⟨s1, s2, s3, s4, s5⟩; go_simp; try with_reducible rfl)
    try simp only [Act.put, List.setIfInBounds_toArray, List.set_cons_zero, List.set_cons_succ]
    refine wpAnyY_take (i := 18) (oi := { dst := some 57, op := Go.Op.indexAddr 81 (Go.Operand.tmp 55) (Go.Operand.tmp 56), type := 0, pos := "law.go:84", after := #[{ on := 16, ground := Go.Ground.data }, { on := 17, ground := Go.Ground.data }, { on := 13, ground := Go.Ground.guard }], guard := some (13, false) }) (v := .pointer (some (a.add (pre.length * 2)))) rfl (by kernel_rfl) (by kernel_rfl) (by kernel_rfl) (by kernel_rfl) (fun _ _ _ h => h) (by intro w; first | rfl | (simp [Oper.about, resolve, Target.leads]; done)) (Or.inl ⟨by rfl, ?hyis18⟩) hS ?_
    case hyis18 => (rintro V ⟨s1, s2, s3, s4, s5⟩; go_simp; try with_reducible rfl)
    try simp only [Act.put, List.setIfInBounds_toArray, List.set_cons_zero, List.set_cons_succ]
    refine wpAnyY_take (i := 19) (oi := { dst := some 58, op := Go.Op.fieldAddr 84 (Go.Operand.tmp 57) 1, type := 0, pos := "law.go:84", after := #[{ on := 18, ground := Go.Ground.data }, { on := 13, ground := Go.Ground.guard }], guard := some (13, false) }) (v := .pointer (some ⟨(a.add (pre.length * 2)).block, (a.add (pre.length * 2)).off + 1, none⟩)) rfl (by kernel_rfl) (by kernel_rfl) (by kernel_rfl) (by kernel_rfl) (fun _ _ _ h => h) (by intro w; first | rfl | (simp [Oper.about, resolve, Target.leads]; done)) (Or.inl ⟨by rfl, ?hyis19⟩) hS ?_
    case hyis19 => (rintro V ⟨s1, s2, s3, s4, s5⟩; go_simp; try with_reducible rfl)
    try simp only [Act.put, List.setIfInBounds_toArray, List.set_cons_zero, List.set_cons_succ]
    refine wpAnyY_take (i := 20) (oi := { dst := some 59, op := Go.Op.load 9 (Go.Operand.tmp 58), type := 9, pos := "law.go:84", after := #[{ on := 19, ground := Go.Ground.data }, { on := 13, ground := Go.Ground.guard }], guard := some (13, false) }) (v := .string ⟨xb.toArray⟩) rfl (by kernel_rfl) (by kernel_rfl) (by kernel_rfl) (by kernel_rfl) (fun _ _ _ h => h) (by intro w; first | rfl | (simp [Oper.about, resolve, Target.leads]; done)) (Or.inl ⟨by rfl, ?hyis20⟩) hS ?_
    case hyis20 => (rintro V ⟨s1, s2, s3, s4, s5⟩; go_simp; try with_reducible rfl)
    try simp only [Act.put, List.setIfInBounds_toArray, List.set_cons_zero, List.set_cons_succ]
    refine wpAnyY_take (i := 21) (oi := { dst := some 60, op := Go.Op.binOp Go.BinOp.neq 9 (Go.Operand.tmp 54) (Go.Operand.tmp 59) 9, type := 4, pos := "law.go:84", after := #[{ on := 15, ground := Go.Ground.data }, { on := 20, ground := Go.Ground.data }, { on := 13, ground := Go.Ground.guard }], guard := some (13, false) }) (v := .bool false) rfl (by kernel_rfl) (by kernel_rfl) (by kernel_rfl) (by kernel_rfl) (fun _ _ _ h => h) (by intro w; first | rfl | (simp [Oper.about, resolve, Target.leads]; done)) (Or.inl ⟨by rfl, ?hyis21⟩) hS ?_
    case hyis21 => (rintro V ⟨s1, s2, s3, s4, s5⟩; go_simp; try with_reducible rfl)
    try simp only [Act.put, List.setIfInBounds_toArray, List.set_cons_zero, List.set_cons_succ]
    refine wpAnyY_take (i := 22) (oi := { dst := some 61, op := Go.Op.pick (Go.Operand.tmp 52) (Go.Operand.const (Go.Value.bool true)) (Go.Operand.tmp 60), type := 4, pos := "law.go:84", after := #[{ on := 13, ground := Go.Ground.data }, { on := 21, ground := Go.Ground.data }], guard := none }) (v := .bool false) rfl (by kernel_rfl) (by kernel_rfl) (by kernel_rfl) (by kernel_rfl) (fun _ _ _ h => h) (by intro w; first | rfl | (simp [Oper.about, resolve, Target.leads]; done)) (Or.inl ⟨by rfl, ?hyis22⟩) hS ?_
    case hyis22 => (rintro V ⟨s1, s2, s3, s4, s5⟩; go_simp; try with_reducible rfl)
    try simp only [Act.put, List.setIfInBounds_toArray, List.set_cons_zero, List.set_cons_succ]
    refine wpAnyY_done (by kernel_rfl) ?_ _
    have hKS : Hid (∀ u, Keep w7.heap.size (fun k => k < w4.heap.size) V (Vd.setCell ⟨w6.heap.size, 0, none⟩ u)) := Lib.hid fun u => HKV.out.setCell (p := ⟨w6.heap.size, 0, none⟩) (by show w6.heap.size < w7.heap.size; omega) (fun h => by simp at h; omega) _
    rw [hz7] at hKS
    have HLEN : Hid ((pre ++ [((xv, xi, xb) : Value × (Nat × List UInt8))]).length = pre.length + 1) := Lib.hid (by simp)
    by_cases hmb : many ≤ (pre.length : Int) + 1
    · gi_wp2_with fail
      first | (refine ⟨hKS.out _, rfl, by rw [HLEN.out]; exact HIJ.out.next _ _ (by omega), by rw [HLEN.out]; omega, by rw [HLEN.out]; omega, by rw [HLEN.out]; rcases HQ.out with h | h; (· left; rw [h]; rfl); (· right; omega)⟩) | (rw [hz7]; refine ⟨hKS.out _, rfl, by rw [HLEN.out]; exact HIJ.out.next _ _ (by omega), by rw [HLEN.out]; omega, by rw [HLEN.out]; omega, by rw [HLEN.out]; rcases HQ.out with h | h; (· left; rw [h]; rfl); (· right; omega)⟩)
    · gi_wp2_with fail
      first | exact ⟨hKS.out _, by rw [HLEN.out]; exact HIJ.out.next _ _ (by omega), .inr (by rw [HLEN.out]; omega)⟩ | (rw [hz7]; exact ⟨hKS.out _, by rw [HLEN.out]; exact HIJ.out.next _ _ (by omega), .inr (by rw [HLEN.out]; omega)⟩)
  case done =>
    rintro xs V hxs ⟨hij, hq⟩ hD
    have hxl : xs.length = R.length := by rw [← hxs, List.length_map]
    rw [hxl] at hij
    have hq2 : R.length = 0 ∨ (R.length : Int) < many := by rcases hq with h | h; (· left; subst h; simpa using hxl.symm); (· right; omega)
    obtain ⟨k1, k2, k3, k4, k5, k6⟩ := HALL.out V hij.b
    have hN := hij.n
    obtain ⟨M, hM⟩ : ∃ M, max (1 : Int) many = M := ⟨_, rfl⟩
    have hmn : min (R.length : Int) M = R.length := by omega
    have HD := Lib.hid hD
    have HB := Lib.hid k6
    clear hq hxs hq2 hij k5 k6
    go_wp2_with fail
    have hne5 : w7.heap.size ≠ W.heap.size + 1 + 1 := by omega
    have hD' : (V.setCell ⟨W.heap.size + 1 + 1, 0, none⟩ (.bool true)).heap[w7.heap.size]? = some (.deferred (some [])) := (Below.heap_setCell _ _ _ _ hne5).trans HD.out
    rw [hz7] at hD'
    have kc := cell_putL (World.cell?_setCell_same' V ⟨W.heap.size + 1 + 1, 0, none⟩ (.bool true) (by rw [k3]; rfl)) hD' (.deferred none)
    refine ⟨by simp, .inl ⟨_, _, rfl, run_takeDeferred hD', ?_⟩⟩
    exact ⟨.bool true, by simp [results, Tryz.results13, go_sem, kc], rfl, below_putL (HB.out.setCell (p := ⟨W.heap.size + 1 + 1, 0, none⟩) (by show W.heap.size ≤ W.heap.size + 1 + 1; omega) _) (by omega) _⟩
  case stop =>
    rintro c pre V hsp ⟨rfl, hij, h1, h2, h3⟩ hD
    have hple : pre.length ≤ R.length := by
      have := hsp.length_le
      simpa using this
    obtain ⟨k1, k2, k3, k4, k5, k6⟩ := HALL.out V hij.b
    have hN := hij.n
    obtain ⟨M, hM⟩ : ∃ M, max (1 : Int) many = M := ⟨_, rfl⟩
    have hmn : min (R.length : Int) M = pre.length := by omega
    have HD := Lib.hid hD
    have HB := Lib.hid k6
    clear h1 h2 h3 hij k5 k6
    refine wpIn_wide.2 ?_
    go_wp2_with fail
    have hne5 : w7.heap.size ≠ W.heap.size + 1 + 1 := by omega
    have hD' : (V.setCell ⟨W.heap.size + 1 + 1, 0, none⟩ (.bool true)).heap[w7.heap.size]? = some (.deferred (some [])) := (Below.heap_setCell _ _ _ _ hne5).trans HD.out
    rw [hz7] at hD'
    have kc := cell_putL (World.cell?_setCell_same' V ⟨W.heap.size + 1 + 1, 0, none⟩ (.bool true) (by rw [k3]; rfl)) hD' (.deferred none)
    refine ⟨by simp, .inl ⟨_, _, rfl, run_takeDeferred hD', ?_⟩⟩
    exact ⟨.bool true, by simp [results, Tryz.results13, go_sem, kc], rfl, below_putL (HB.out.setCell (p := ⟨W.heap.size + 1 + 1, 0, none⟩) (by show W.heap.size ≤ W.heap.size + 1 + 1; omega) _) (by omega) _⟩
end Go.Proofs.YtbhgcioeibhjeaaGreatDoor
