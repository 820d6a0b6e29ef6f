/-
  swingbridgelaw05.KeyEach: its walk (under way).
-/
import Derived.Test.YtcedeipmboekaaaGreatDoorKEai
import Derived.Test.YtcedeipmboekaaaGreatDoorKSqs
namespace Go.Proofs.YtcedeipmboekaaaGreatDoor
open Go.RowKit Go.Shelf
attribute [local go_sem] Oper.semAt_some

theorem row_sliceV {W : World} {B e z n : Nat} {v : Value} {xs : List Value} (h : W.ownsRow B e z v n xs) : ∃ a c, v = .slice a n c := by
  rcases h.2 with ⟨e0, h0⟩ | ⟨g, cap, cur, e0, _⟩
  · exact ⟨none, 0, by rw [e0, h0]⟩
  · exact ⟨_, _, e0⟩
set_option maxRecDepth 100000 in
set_option maxHeartbeats 8000000 in
theorem keach_deep (s : ByteArray) (many : Int) (w : World) (hg : HasET w) (hs : s.size ≤ 2400) (hm0 : -9223372036854775808 ≤ many) (hm1 : many ≤ 9223372036854775807) :
    Calls Tryz.prog 5 #[.string s, .int .i64 many] w fun e w' => e = .returned (.bool true) ∧ Below w.heap.size w w' := by
  have HW : Hid (∀ W, Below w.heap.size w W → Calls Tryz.prog 9 #[] W fun e w' => e = .returned (.bool true) ∧ Below W.heap.size W w') := Lib.hid (fun W hb => qworks_true W (hg.below hb hg.lt))
  clear hg
  obtain ⟨i3, hi3, hz30, hz31, hz32⟩ := info_parts infoI3
  obtain ⟨i6, hi6, hz60, hz61, hz62⟩ := info_parts infoVK
  have HI3 := Lib.hid hi3
  have HI6 := Lib.hid hi6
  have HZ3 := Lib.hid (And.intro hz30 (And.intro hz31 hz32))
  have HZ6 := Lib.hid (And.intro hz60 (And.intro hz61 hz62))
  clear hi3 hi6 hz30 hz31 hz32 hz60 hz61 hz62
  refine (callsIn_wide (n := 6)).1 ?_
  refine callsIn_of_wp_marks Tryz.func5 rfl trivial ?_ rfl
  simp only [Tryz.ntmps5, List.size_toArray, List.length_cons, List.length_nil, Nat.reduceAdd, Nat.reduceSub, Array.replicate_succ, Array.replicate_zero, List.push_toArray, List.append_toArray, List.nil_append, List.cons_append]
  refine wpIn_wide.2 ?_
  go_wp2
  obtain ⟨W0, hW0⟩ : ∃ W0, ((((w.alloc (.cells #[.int .i64 many] 3)).alloc (.cells #[.bool false] 4)).alloc (.cells #[.slice none 0 0] 38)).alloc (.cells #[.slice none 0 0] 22)) = W0 := ⟨_, rfl⟩
  have hS0 : StK w many W0 (.slice none 0 0) (.slice none 0 0) (.slice none 0 0) (.slice none 0 0) [] [] := by
    subst hW0
    exact ⟨by simp [go_sem], by simp [go_sem], by simp [go_sem], by simp [go_sem], by simp [go_sem], by simp [go_sem], by simp [go_sem], World.ownsRow_nil _ _ _ _, World.ownsRow_nil _ _ _ _, ((((Below.refl _ w).alloc (by simp) _).alloc (by simp) _).alloc (by simp; omega) _).alloc (by simp; omega) _⟩
  rw [hW0]
  have HS0 := Lib.hid hS0
  clear hS0 hW0
  go_loopw [7] (fun p wr => ∃ (pre : List (Nat × Vl)) (i : Nat) (v5 v6 : Value), p = .int .i64 i ∧ i ≤ s.size ∧ Hid (ERel s i pre) ∧ Hid (StK w many wr v5 v6 v5 v6 (kl5 pre) (kl6 pre))) (fun p _ => s.size + 1 - (intOf p).toNat)
  case atStart => exact ⟨[], 0, _, _, rfl, by omega, Lib.hid rfl, HS0⟩
  case round =>
    obtain ⟨pre, i, v5, v6, rfl, hi, HP, HS⟩ := hrel
    have HC0 := Lib.hid (fun W => rqRead_any (s.extract i s.size) W (by show (s.extract i s.size).data.size ≤ _; rw [← Array.length_toList, rest_of s i hi, List.length_drop, Array.length_toList]; show s.size - i ≤ _; omega))
    rw [rest_of s i hi] at HC0
    cases hr : readKey (s.data.toList.drop i) with
    | none =>
      rw [hr] at HC0
      unfold KRPost keyRes at HC0
      have HE := Lib.hid (EA_end HP.out hr)
      clear hr
      go_wp2_with fail
      refine (HC0.out _).mono ?_
      rintro e w1 ⟨rfl, hb1⟩
      have HS1 := Lib.hid ((HS.out.keep hb1).alloc (vObj val0))
      clear hb1 HS
      go_wp2_with fail
      refine (qEach_any s (w1.alloc (vObj val0))).mono ?_
      rintro e w2 ⟨rfl, hw2⟩
      obtain ⟨wz, hwz⟩ : ∃ wz, w1.alloc (vObj val0) = wz := ⟨_, rfl⟩
      rw [hwz] at HS1 hw2
      rw [hwz]
      obtain ⟨cb, hcb⟩ : ∃ cb, wz.heap.size = cb := ⟨_, rfl⟩
      rw [hcb]
      have hb2 : Below wz.heap.size wz w2 := by rw [← hw2]; exact (Below.refl _ _).alloc (Nat.le_refl _) _
      have hC2 : w2.cell? ⟨cb, 0, none⟩ = some (.string s) := by rw [← hw2, ← hcb]; simp [go_sem]
      have HS2 := Lib.hid (HS1.out.keep hb2)
      clear hw2 hwz hb2 hcb HP HS1
      have hE := HE.out
      subst hE
      have HSEQ := Lib.hid (fun W (h : Below w2.heap.size w2 W) => each_turns 5 (by decide) cb s hs W ((h.cell (World.block_lt_of_cell? w2 _ hC2)).trans hC2))
      have hElen := EL_len s
      clear HE HC0 hC2
      generalize EL s = E at *
      have hnf : ∀ W, (binOp .eql 46 (.func (.func 34) #[] #[.pointer (some ⟨cb, 0, none⟩)]) .nilFunc).run Tryz.prog W = .ok (.bool false) W := fun W => rfl
      have h4 : w2.cell? ⟨w.heap.size, 0, none⟩ = some (.int .i64 many) := HS2.out.many
      go_wp2_with fail
      refine wp_loop_rounds 3 ?_
      rw [rounds_succ]
      go_wp2_with fail
      obtain ⟨W3, hW3⟩ : ∃ W3, (w2.alloc (.cells #[.int .i64 0] 3)).alloc (.cells #[.int .i64 0] 3) = W3 := ⟨_, rfl⟩
      have HB0 : Hid (Below w2.heap.size w2 W3) := Lib.hid (by rw [← hW3]; exact ((Below.refl _ _).alloc (Nat.le_refl _) _).alloc (by simp) _)
      have hz3 : W3.heap.size = w2.heap.size + 1 + 1 := by rw [← hW3]; simp
      have hz13 : w2.heap.size + 1 < W3.heap.size := by omega
      have hzw : w.heap.size ≤ W3.heap.size := by have := HS2.out.size; omega
      have hzw2 : w.heap.size ≤ w2.heap.size := by have := HS2.out.size; omega
      have HT0 : Hid (W3.cell? ⟨w2.heap.size, 0, none⟩ = some (.int .i64 0)) := Lib.hid (by rw [← hW3]; simp [go_sem])
      have HEI0 : Hid (EC w W3 (w2.heap.size + 1) 0 W3) := Lib.hid ⟨Nat.le_refl _, fun _ _ _ => rfl, HS2.out.below.trans (HB0.out.mono hzw2), by rw [← hW3]; simp [go_sem], by rw [← hW3]; simp [go_sem]⟩
      rw [hW3]
      clear hW3
      refine (wpIn_wide (n := 6)).1 ?_
      refine wpIn_turnsB (F := Fence.wide) (G := fun _ => False) rfl (by decide) (gf := 34) (lb := #[.pointer (some ⟨cb, 0, none⟩)]) rfl trivial (enters_of Tryz.func34 (by kernel_rfl) rfl)
        (HSEQ.out W3 HB0.out) (fun k hk => hk.elim) (fun x => rfl)
        (fun pre W => EC w W3 (w2.heap.size + 1) pre.length W ∧ (pre = [] ∨ (pre.length : Int) < many))
        (fun c pre W => c = .exit 4 ∧ EC w W3 (w2.heap.size + 1) pre.length W ∧ 1 ≤ pre.length ∧ many ≤ pre.length ∧ (pre.length = 1 ∨ (pre.length : Int) - 1 < many))
        (fun s A A' h hb => ⟨h.1.keep hb hz13 hzw, h.2⟩)
        (fun c s A A' h hb => ⟨h.1, h.2.1.keep hb hz13 hzw, h.2.2⟩)
        ⟨HEI0.out, .inl rfl⟩
        (fun b pre x V => ∃ g, b = ({ tmps := #[Value.string s, Value.int .i64 many, undef, Value.pointer (some { block := w.heap.size, off := 0 }), Value.pointer (some { block := w.heap.size + 1, off := 0 }), Value.pointer (some { block := w.heap.size + 1 + 1, off := 0 }), Value.pointer (some { block := w.heap.size + 1 + 1 + 1, off := 0 }), Value.int .i64 (i : Int), Value.pointer (some { block := w1.heap.size, off := 0 }), Value.int .i64 0, Value.func (.func 34) #[] #[Value.pointer (some { block := cb, off := 0 })], Value.pointer (some { block := w2.heap.size, off := 0 }), Value.pointer (some { block := w2.heap.size + 1, off := 0 }), .int .i64 (x.1 : Int), .pointer (some ⟨g, 0, none⟩), Value.string s, Value.int .i64 (s.size : Int), Value.bool (decide ((2400 : Int) < (s.size : Int))), undef, Value.int .i64 (i : Int), Value.string s, Value.int .i64 (s.size : Int), Value.bool true, Value.tuple #[Value.agg #[Value.int .i64 0, Value.int .i64 0, Value.int .u64 0, Value.string { data := #[] }], Value.int .i64 0], Value.string s, Value.int .i64 (i : Int), Value.string (s.extract i s.size), Value.tuple #[Value.agg #[Value.int .i64 0, Value.int .i64 0, Value.int .u64 0, Value.string { data := #[] }], Value.int .i64 0], Value.agg #[Value.int .i64 0, Value.int .i64 0, Value.int .u64 0, Value.string { data := #[] }], Value.int .i64 0, Value.int .i64 0, Value.bool true, u32, u33, u34, u35, u36, u37, u38, u39, u40, u41, u42, Value.string s, Value.func (.func 34) #[] #[Value.pointer (some { block := cb, off := 0 })], Value.func (.func 34) #[] #[Value.pointer (some { block := cb, off := 0 })], Value.bool false, Value.int .i64 0, Value.bool true, undef, undef, Value.func (.func 34) #[] #[Value.pointer (some { block := cb, off := 0 })], .int .i64 (x.1 : Int), .agg #[.int .i64 x.2.k, .int .i64 x.2.i, .int .u64 x.2.u, .string x.2.s], undef, undef, undef, undef, undef, undef, undef, undef, undef, undef, undef, undef, undef, undef, undef, undef, undef, undef, undef, undef, undef, undef, undef, undef, undef, undef, undef, undef, undef, undef, undef, undef, undef, undef, undef, undef, undef, undef, undef, undef, undef, undef, undef, undef, undef, undef, undef, undef, undef, undef, undef, undef], defers := [] } : Act) ∧ W3.heap.size + 2 ≤ g ∧ ValAt V ⟨g, 0, none⟩ x.2 ∧ EC w W3 (w2.heap.size + 1) pre.length V ∧ (pre = [] ∨ (pre.length : Int) < many))
        (fun b pre x V o hz h => by
          obtain ⟨g, h0, hg, ⟨q0, q1, q2, q3⟩, he, hq⟩ := h
          have hne : (V.putObj (W3.heap.size + 1) o).heap[g]? = V.heap[g]? := World.putObj_heap_other (by omega)
          exact ⟨g, h0, hg, ⟨(World.cell?_of_block (a := ⟨g, 0, none⟩) hne).trans q0, (World.cell?_of_block (a := ⟨g, 0 + 1, none⟩) hne).trans q1, (World.cell?_of_block (a := ⟨g, 0 + 2, none⟩) hne).trans q2, (World.cell?_of_block (a := ⟨g, 0 + 3, none⟩) hne).trans q3⟩, he.keep (below_putC (Below.refl _ V) (by omega) o) hz13 hzw, hq⟩)
        ?assign0 ?body0 ?done0 ?stop0
      case assign0 =>
        rintro l pre x W K ⟨hei, hq⟩ hsp hsz hK
        have HK := Lib.hid (hK _ (W.alloc (vObj x.2)) ⟨W.heap.size, rfl, hsz, litV0 W x.2, hei.keep ((Below.refl _ W).alloc (by omega) _) hz13 hzw, hq⟩ ((Below.refl _ W).alloc (Nat.le_refl _) _))
        clear hK hei hq hsp
        simp only [encE]
        gi_wp2
        exact HK.out
      case body0 =>
        rintro l b pre x W ⟨g, rfl, hg, hv, hei, hq⟩ hsp hszW
        obtain ⟨hlt, hx⟩ := pre_at hsp
        have r5 := (row_cell HS2.out.r5 (by simp [kl5]; omega))
        have r6 := (row_vals HS2.out.r6 rfl (by simp [kl6]; omega))
        obtain ⟨a5, c5, e5, h5lo, h5hi, h5⟩ := r5
        obtain ⟨a6, c6, e6, h6lo, h6hi, h6⟩ := r6
        have hsz := HB0.out.size
        have up : ∀ p : Addr, p.block < w2.heap.size → W.cell? p = w2.cell? p := fun p hp => (hei.cell (by omega) (by omega)).trans (HB0.out.cell hp)
        have g4 : W.cell? ⟨w.heap.size, 0, none⟩ = some (.int .i64 many) := (up _ (by have := HS2.out.size; simp; omega)).trans HS2.out.many
        have g5 : W.cell? ⟨w.heap.size + 1 + 1, 0, none⟩ = some v5 := (up _ (by have := HS2.out.size; simp; omega)).trans HS2.out.at5
        have g6 : W.cell? ⟨w.heap.size + 1 + 1 + 1, 0, none⟩ = some v6 := (up _ (by have := HS2.out.size; simp; omega)).trans HS2.out.at6
        have g12 : W.cell? ⟨w2.heap.size, 0, none⟩ = some (.int .i64 0) := (hei.cell (by simp; omega) (by simp)).trans HT0.out
        have g13 := hei.at13
        have g13F := hei.at13F
        have k5 : W.cell? (a5.add pre.length) = some (.int .i64 (x.1 : Int)) := by rw [up _ (by rw [Addr.add_block]; omega), h5 _ (by simp [kl5]; omega)]; simp [kl5, hlt, hx]
        have k6 : ValAt W (a6.add (pre.length * 4)) x.2 := by
          have h := h6 pre.length (by simp [kl6]; omega)
          rw [show (kl6 E)[pre.length]'(by simp [kl6]; omega) = x.2 by simp [kl6, hx]] at h
          obtain ⟨q0, q1, q2, q3⟩ := h
          have hbl : (a6.add (pre.length * 4)).block < w2.heap.size := by rw [Addr.add_block]; omega
          exact ⟨(up _ hbl).trans q0, (up ⟨_, _, none⟩ hbl).trans q1, (up ⟨_, _, none⟩ hbl).trans q2, (up ⟨_, _, none⟩ hbl).trans q3⟩
        obtain ⟨y0, y1, y2, y3⟩ := k6
        obtain ⟨x0, x1, x2, x3⟩ := hv
        rw [e5, show (kl5 E).length = E.length by simp [kl5]] at g5
        rw [e6, show (kl6 E).length = E.length by simp [kl6]] at g6
        have hd : decide ((E.length : Int) ≤ (pre.length : Int)) = false := by simp; omega
        have hlt2 : (pre.length : Int) < (E.length : Int) := by omega
        have hlen : (pre ++ [x]).length = pre.length + 1 := by simp
        have hvq : (binOp .neq 42 (.agg #[.int .i64 x.2.k, .int .i64 x.2.i, .int .u64 x.2.u, .string x.2.s]) (.agg #[.int .i64 x.2.k, .int .i64 x.2.i, .int .u64 x.2.u, .string x.2.s])).run Tryz.prog W = .ok (.bool false) W := by rw [run_neq_val]; simp [vEqB]
        have HQ := Lib.hid hq
        have HLEN := Lib.hid hlen
        clear hq up h5 h6 e5 e6 hx hsp hlen
        dsimp only
        gi_wp2_with fail
        have hS : (fun V => V.cell? ⟨w2.heap.size + 1, 0, none⟩ = some (.int .i64 (pre.length : Int)) ∧ V.cell? ⟨w.heap.size + 1 + 1, 0, none⟩ = some (.slice (some a5) E.length c5) ∧ V.cell? ⟨w.heap.size + 1 + 1 + 1, 0, none⟩ = some (.slice (some a6) E.length c6) ∧ V.cell? (a5.add pre.length) = some (.int .i64 (x.1 : Int)) ∧ ValAt V ⟨g, 0, none⟩ x.2 ∧ ValAt V (a6.add (pre.length * 4)) x.2) W.drew := ⟨g13, g5, g6, k5, ⟨x0, x1, x2, x3⟩, ⟨y0, y1, y2, y3⟩⟩
        have g4' : W.drew.cell? ⟨w.heap.size, 0, none⟩ = some (.int .i64 many) := g4
        have g12' : W.drew.cell? ⟨w2.heap.size, 0, none⟩ = some (.int .i64 0) := g12
        have g13' : W.drew.cell? ⟨w2.heap.size + 1, 0, none⟩ = some (.int .i64 (pre.length : Int)) := g13
        have g13F' : W.drew.frozen? ⟨w2.heap.size + 1, 0, none⟩ = false := g13F
        have hKW : Keep W3.heap.size (fun _ => False) W W.drew := ⟨Nat.le_refl _, fun _ _ _ => rfl⟩
        have hKX : Keep (w2.heap.size + 1 + 1) (fun _ => False) W W.drew := ⟨Nat.le_refl _, fun _ _ _ => rfl⟩
        have HEIB := Lib.hid (hei.keep ((Below.refl W3.heap.size W).drew) hz13 hzw)
        refine wpIn_region_Y (S := fun V => V.cell? ⟨w2.heap.size + 1, 0, none⟩ = some (.int .i64 (pre.length : Int)) ∧ V.cell? ⟨w.heap.size + 1 + 1, 0, none⟩ = some (.slice (some a5) E.length c5) ∧ V.cell? ⟨w.heap.size + 1 + 1 + 1, 0, none⟩ = some (.slice (some a6) E.length c6) ∧ V.cell? (a5.add pre.length) = some (.int .i64 (x.1 : Int)) ∧ ValAt V ⟨g, 0, none⟩ x.2 ∧ ValAt V (a6.add (pre.length * 4)) x.2) (by kernel_rfl) ?_
        obtain ⟨Wq, hWq⟩ : ∃ Wq, W.drew = Wq := ⟨_, rfl⟩
        rw [hWq] at hS g4' g12' g13' g13F' hKW hKX HEIB
        rw [hWq]
        clear hei g4 g5 g6 g12 g13 g13F k5 x0 x1 x2 x3 y0 y1 y2 y3 hWq
        refine wpAnyY_take (i := 0) (oi := { dst := some 54, op := Go.Op.load 3 (Go.Operand.tmp 12), type := 3, pos := "law.go:90", after := #[], guard := none }) (v := .int .i64 (pre.length : Int)) rfl (by kernel_rfl) (by kernel_rfl) (by kernel_rfl) (by kernel_rfl) (fun _ _ _ h => h) (by intro w; first | rfl | (simp [Oper.about, resolve, Target.leads]; done)) (Or.inl ⟨by rfl, ?hy0⟩) hS ?_
        case hy0 => (rintro V ⟨s1, s2, s3, s4, ⟨s5, s6, s7, s8⟩, ⟨t5, t6, t7, t8⟩⟩; go_simp; try with_reducible rfl)
        try simp only [Act.put, List.setIfInBounds_toArray, List.set_cons_zero, List.set_cons_succ]
        refine wpAnyY_take (i := 1) (oi := { dst := some 55, op := Go.Op.load 22 (Go.Operand.tmp 6), type := 22, pos := "law.go:90", after := #[], guard := none }) (v := .slice (some a6) E.length c6) rfl (by kernel_rfl) (by kernel_rfl) (by kernel_rfl) (by kernel_rfl) (fun _ _ _ h => h) (by intro w; first | rfl | (simp [Oper.about, resolve, Target.leads]; done)) (Or.inl ⟨by rfl, ?hy1⟩) hS ?_
        case hy1 => (rintro V ⟨s1, s2, s3, s4, ⟨s5, s6, s7, s8⟩, ⟨t5, t6, t7, t8⟩⟩; go_simp; try with_reducible rfl)
        try simp only [Act.put, List.setIfInBounds_toArray, List.set_cons_zero, List.set_cons_succ]
        refine wpAnyY_take (i := 2) (oi := { dst := some 56, op := Go.Op.call { callee := Go.Callee.builtin Go.Builtin.len, args := #[Go.Operand.tmp 55], argTypes := #[22] }, type := 3, pos := "law.go:90", after := #[{ on := 1, ground := Go.Ground.data }], guard := none }) (v := .int .i64 (E.length : Int)) rfl (by kernel_rfl) (by kernel_rfl) (by kernel_rfl) (by kernel_rfl) (fun _ _ _ h => h) (by intro w; first | rfl | (simp [Oper.about, resolve, Target.leads]; done)) (Or.inl ⟨by rfl, ?hy2⟩) hS ?_
        case hy2 => (rintro V ⟨s1, s2, s3, s4, ⟨s5, s6, s7, s8⟩, ⟨t5, t6, t7, t8⟩⟩; go_simp; try with_reducible rfl)
        try simp only [Act.put, List.setIfInBounds_toArray, List.set_cons_zero, List.set_cons_succ]
        refine wpAnyY_take (i := 3) (oi := { dst := some 57, op := Go.Op.binOp Go.BinOp.geq 3 (Go.Operand.tmp 54) (Go.Operand.tmp 56) 3, type := 4, pos := "law.go:90", after := #[{ on := 0, ground := Go.Ground.data }, { on := 2, ground := Go.Ground.data }], guard := none }) (v := .bool false) rfl (by kernel_rfl) (by kernel_rfl) (by kernel_rfl) (by kernel_rfl) (fun _ _ _ h => h) (by intro w; first | rfl | (simp [Oper.about, resolve, Target.leads]; done)) (Or.inl ⟨by rfl, ?hy3⟩) hS ?_
        case hy3 => (rintro V ⟨s1, s2, s3, s4, ⟨s5, s6, s7, s8⟩, ⟨t5, t6, t7, t8⟩⟩; go_simp; try with_reducible rfl)
        try simp only [Act.put, List.setIfInBounds_toArray, List.set_cons_zero, List.set_cons_succ]
        refine wpAnyY_take (i := 4) (oi := { dst := some 58, op := Go.Op.move (Go.Operand.tmp 57), type := 4, pos := "law.go:90", after := #[{ on := 3, ground := Go.Ground.data }], guard := none }) (v := .bool false) rfl (by kernel_rfl) (by kernel_rfl) (by kernel_rfl) (by kernel_rfl) (fun _ _ _ h => h) (by intro w; first | rfl | (simp [Oper.about, resolve, Target.leads]; done)) (Or.inl ⟨by rfl, ?hy4⟩) hS ?_
        case hy4 => (rintro V ⟨s1, s2, s3, s4, ⟨s5, s6, s7, s8⟩, ⟨t5, t6, t7, t8⟩⟩; go_simp; try with_reducible rfl)
        try simp only [Act.put, List.setIfInBounds_toArray, List.set_cons_zero, List.set_cons_succ]
        refine wpAnyY_take (i := 5) (oi := { dst := some 59, op := Go.Op.move (Go.Operand.tmp 13), type := 3, pos := "law.go:90", after := #[{ on := 4, ground := Go.Ground.guard }], guard := some (4, false) }) (v := .int .i64 (x.1 : Int)) rfl (by kernel_rfl) (by kernel_rfl) (by kernel_rfl) (by kernel_rfl) (fun _ _ _ h => h) (by intro w; first | rfl | (simp [Oper.about, resolve, Target.leads]; done)) (Or.inl ⟨by rfl, ?hy5⟩) hS ?_
        case hy5 => (rintro V ⟨s1, s2, s3, s4, ⟨s5, s6, s7, s8⟩, ⟨t5, t6, t7, t8⟩⟩; go_simp; try with_reducible rfl)
        try simp only [Act.put, List.setIfInBounds_toArray, List.set_cons_zero, List.set_cons_succ]
        refine wpAnyY_take (i := 6) (oi := { dst := some 60, op := Go.Op.load 38 (Go.Operand.tmp 5), type := 38, pos := "law.go:90", after := #[{ on := 4, ground := Go.Ground.guard }], guard := some (4, false) }) (v := .slice (some a5) E.length c5) rfl (by kernel_rfl) (by kernel_rfl) (by kernel_rfl) (by kernel_rfl) (fun _ _ _ h => h) (by intro w; first | rfl | (simp [Oper.about, resolve, Target.leads]; done)) (Or.inl ⟨by rfl, ?hy6⟩) hS ?_
        case hy6 => (rintro V ⟨s1, s2, s3, s4, ⟨s5, s6, s7, s8⟩, ⟨t5, t6, t7, t8⟩⟩; go_simp; try with_reducible rfl)
        try simp only [Act.put, List.setIfInBounds_toArray, List.set_cons_zero, List.set_cons_succ]
        refine wpAnyY_take (i := 7) (oi := { dst := some 61, op := Go.Op.load 3 (Go.Operand.tmp 12), type := 3, pos := "law.go:90", after := #[{ on := 4, ground := Go.Ground.guard }], guard := some (4, false) }) (v := .int .i64 (pre.length : Int)) rfl (by kernel_rfl) (by kernel_rfl) (by kernel_rfl) (by kernel_rfl) (fun _ _ _ h => h) (by intro w; first | rfl | (simp [Oper.about, resolve, Target.leads]; done)) (Or.inl ⟨by rfl, ?hy7⟩) hS ?_
        case hy7 => (rintro V ⟨s1, s2, s3, s4, ⟨s5, s6, s7, s8⟩, ⟨t5, t6, t7, t8⟩⟩; go_simp; try with_reducible rfl)
        try simp only [Act.put, List.setIfInBounds_toArray, List.set_cons_zero, List.set_cons_succ]
        refine wpAnyY_take (i := 8) (oi := { dst := some 62, op := Go.Op.indexAddr 38 (Go.Operand.tmp 60) (Go.Operand.tmp 61), type := 0, pos := "law.go:90", after := #[{ on := 6, ground := Go.Ground.data }, { on := 7, ground := Go.Ground.data }, { on := 4, ground := Go.Ground.guard }], guard := some (4, false) }) (v := .pointer (some (a5.add pre.length))) rfl (by kernel_rfl) (by kernel_rfl) (by kernel_rfl) (by kernel_rfl) (fun _ _ _ h => h) (by intro w; first | rfl | (simp [Oper.about, resolve, Target.leads]; done)) (Or.inl ⟨by rfl, ?hy8⟩) hS ?_
        case hy8 => (rintro V ⟨s1, s2, s3, s4, ⟨s5, s6, s7, s8⟩, ⟨t5, t6, t7, t8⟩⟩; go_simp; try with_reducible rfl)
        try simp only [Act.put, List.setIfInBounds_toArray, List.set_cons_zero, List.set_cons_succ]
        refine wpAnyY_take (i := 9) (oi := { dst := some 63, op := Go.Op.load 3 (Go.Operand.tmp 62), type := 3, pos := "law.go:90", after := #[{ on := 8, ground := Go.Ground.data }, { on := 4, ground := Go.Ground.guard }], guard := some (4, false) }) (v := .int .i64 (x.1 : Int)) rfl (by kernel_rfl) (by kernel_rfl) (by kernel_rfl) (by kernel_rfl) (fun _ _ _ h => h) (by intro w; first | rfl | (simp [Oper.about, resolve, Target.leads]; done)) (Or.inl ⟨by rfl, ?hy9⟩) hS ?_
        case hy9 => (rintro V ⟨s1, s2, s3, s4, ⟨s5, s6, s7, s8⟩, ⟨t5, t6, t7, t8⟩⟩; go_simp; try with_reducible rfl)
        try simp only [Act.put, List.setIfInBounds_toArray, List.set_cons_zero, List.set_cons_succ]
        refine wpAnyY_take (i := 10) (oi := { dst := some 64, op := Go.Op.binOp Go.BinOp.neq 3 (Go.Operand.tmp 59) (Go.Operand.tmp 63) 3, type := 4, pos := "law.go:90", after := #[{ on := 5, ground := Go.Ground.data }, { on := 9, ground := Go.Ground.data }, { on := 4, ground := Go.Ground.guard }], guard := some (4, false) }) (v := .bool false) rfl (by kernel_rfl) (by kernel_rfl) (by kernel_rfl) (by kernel_rfl) (fun _ _ _ h => h) (by intro w; first | rfl | (simp [Oper.about, resolve, Target.leads]; done)) (Or.inl ⟨by rfl, ?hy10⟩) hS ?_
        case hy10 => (rintro V ⟨s1, s2, s3, s4, ⟨s5, s6, s7, s8⟩, ⟨t5, t6, t7, t8⟩⟩; go_simp; try with_reducible rfl)
        try simp only [Act.put, List.setIfInBounds_toArray, List.set_cons_zero, List.set_cons_succ]
        refine wpAnyY_take (i := 11) (oi := { dst := some 65, op := Go.Op.pick (Go.Operand.tmp 58) (Go.Operand.const (Go.Value.bool true)) (Go.Operand.tmp 64), type := 4, pos := "law.go:90", after := #[{ on := 4, ground := Go.Ground.data }, { on := 10, ground := Go.Ground.data }], guard := none }) (v := .bool false) rfl (by kernel_rfl) (by kernel_rfl) (by kernel_rfl) (by kernel_rfl) (fun _ _ _ h => h) (by intro w; first | rfl | (simp [Oper.about, resolve, Target.leads]; done)) (Or.inl ⟨by rfl, ?hy11⟩) hS ?_
        case hy11 => (rintro V ⟨s1, s2, s3, s4, ⟨s5, s6, s7, s8⟩, ⟨t5, t6, t7, t8⟩⟩; go_simp; try with_reducible rfl)
        try simp only [Act.put, List.setIfInBounds_toArray, List.set_cons_zero, List.set_cons_succ]
        refine wpAnyY_take (i := 12) (oi := { dst := some 66, op := Go.Op.move (Go.Operand.tmp 65), type := 4, pos := "law.go:90", after := #[{ on := 11, ground := Go.Ground.data }, { on := 4, ground := Go.Ground.chain }], guard := none }) (v := .bool false) rfl (by kernel_rfl) (by kernel_rfl) (by kernel_rfl) (by kernel_rfl) (fun _ _ _ h => h) (by intro w; first | rfl | (simp [Oper.about, resolve, Target.leads]; done)) (Or.inl ⟨by rfl, ?hy12⟩) hS ?_
        case hy12 => (rintro V ⟨s1, s2, s3, s4, ⟨s5, s6, s7, s8⟩, ⟨t5, t6, t7, t8⟩⟩; go_simp; try with_reducible rfl)
        try simp only [Act.put, List.setIfInBounds_toArray, List.set_cons_zero, List.set_cons_succ]
        refine wpAnyY_take (i := 13) (oi := { dst := some 67, op := Go.Op.load 42 (Go.Operand.tmp 14), type := 42, pos := "law.go:90", after := #[{ on := 12, ground := Go.Ground.guard }], guard := some (12, false) }) (v := .agg #[.int .i64 x.2.k, .int .i64 x.2.i, .int .u64 x.2.u, .string x.2.s]) rfl (by kernel_rfl) (by kernel_rfl) (by kernel_rfl) (by kernel_rfl) (fun _ _ _ h => h) (by intro w; first | rfl | (simp [Oper.about, resolve, Target.leads]; done)) (Or.inl ⟨by rfl, ?hy13⟩) hS ?_
        case hy13 => (rintro V ⟨s1, s2, s3, s4, ⟨s5, s6, s7, s8⟩, ⟨t5, t6, t7, t8⟩⟩; go_simp; try with_reducible rfl)
        try simp only [Act.put, List.setIfInBounds_toArray, List.set_cons_zero, List.set_cons_succ]
        refine wpAnyY_take (i := 14) (oi := { dst := some 68, op := Go.Op.load 22 (Go.Operand.tmp 6), type := 22, pos := "law.go:90", after := #[{ on := 12, ground := Go.Ground.guard }], guard := some (12, false) }) (v := .slice (some a6) E.length c6) rfl (by kernel_rfl) (by kernel_rfl) (by kernel_rfl) (by kernel_rfl) (fun _ _ _ h => h) (by intro w; first | rfl | (simp [Oper.about, resolve, Target.leads]; done)) (Or.inl ⟨by rfl, ?hy14⟩) hS ?_
        case hy14 => (rintro V ⟨s1, s2, s3, s4, ⟨s5, s6, s7, s8⟩, ⟨t5, t6, t7, t8⟩⟩; go_simp; try with_reducible rfl)
        try simp only [Act.put, List.setIfInBounds_toArray, List.set_cons_zero, List.set_cons_succ]
        refine wpAnyY_take (i := 15) (oi := { dst := some 69, op := Go.Op.load 3 (Go.Operand.tmp 12), type := 3, pos := "law.go:90", after := #[{ on := 12, ground := Go.Ground.guard }], guard := some (12, false) }) (v := .int .i64 (pre.length : Int)) rfl (by kernel_rfl) (by kernel_rfl) (by kernel_rfl) (by kernel_rfl) (fun _ _ _ h => h) (by intro w; first | rfl | (simp [Oper.about, resolve, Target.leads]; done)) (Or.inl ⟨by rfl, ?hy15⟩) hS ?_
        case hy15 => (rintro V ⟨s1, s2, s3, s4, ⟨s5, s6, s7, s8⟩, ⟨t5, t6, t7, t8⟩⟩; go_simp; try with_reducible rfl)
        try simp only [Act.put, List.setIfInBounds_toArray, List.set_cons_zero, List.set_cons_succ]
        refine wpAnyY_take (i := 16) (oi := { dst := some 70, op := Go.Op.indexAddr 22 (Go.Operand.tmp 68) (Go.Operand.tmp 69), type := 0, pos := "law.go:90", after := #[{ on := 14, ground := Go.Ground.data }, { on := 15, ground := Go.Ground.data }, { on := 12, ground := Go.Ground.guard }], guard := some (12, false) }) (v := .pointer (some (a6.add (pre.length * 4)))) rfl (by kernel_rfl) (by kernel_rfl) (by kernel_rfl) (by kernel_rfl) (fun _ _ _ h => h) (by intro w; first | rfl | (simp [Oper.about, resolve, Target.leads]; done)) (Or.inl ⟨by rfl, ?hy16⟩) hS ?_
        case hy16 => (rintro V ⟨s1, s2, s3, s4, ⟨s5, s6, s7, s8⟩, ⟨t5, t6, t7, t8⟩⟩; go_simp; try with_reducible rfl)
        try simp only [Act.put, List.setIfInBounds_toArray, List.set_cons_zero, List.set_cons_succ]
        refine wpAnyY_take (i := 17) (oi := { dst := some 71, op := Go.Op.load 42 (Go.Operand.tmp 70), type := 42, pos := "law.go:90", after := #[{ on := 16, ground := Go.Ground.data }, { on := 12, ground := Go.Ground.guard }], guard := some (12, false) }) (v := .agg #[.int .i64 x.2.k, .int .i64 x.2.i, .int .u64 x.2.u, .string x.2.s]) rfl (by kernel_rfl) (by kernel_rfl) (by kernel_rfl) (by kernel_rfl) (fun _ _ _ h => h) (by intro w; first | rfl | (simp [Oper.about, resolve, Target.leads]; done)) (Or.inl ⟨by rfl, ?hy17⟩) hS ?_
        case hy17 => (rintro V ⟨s1, s2, s3, s4, ⟨s5, s6, s7, s8⟩, ⟨t5, t6, t7, t8⟩⟩; go_simp; try with_reducible rfl)
        try simp only [Act.put, List.setIfInBounds_toArray, List.set_cons_zero, List.set_cons_succ]
        refine wpAnyY_take (i := 18) (oi := { dst := some 72, op := Go.Op.binOp Go.BinOp.neq 42 (Go.Operand.tmp 67) (Go.Operand.tmp 71) 42, type := 4, pos := "law.go:90", after := #[{ on := 13, ground := Go.Ground.data }, { on := 17, ground := Go.Ground.data }, { on := 12, ground := Go.Ground.guard }], guard := some (12, false) }) (v := .bool false) rfl (by kernel_rfl) (by kernel_rfl) (by kernel_rfl) (by kernel_rfl) (fun _ _ _ h => h) (by intro w; first | rfl | (simp [Oper.about, resolve, Target.leads]; done)) (Or.inl ⟨by rfl, ?hy18⟩) hS ?_
        case hy18 => (rintro V ⟨s1, s2, s3, s4, ⟨s5, s6, s7, s8⟩, ⟨t5, t6, t7, t8⟩⟩; go_simp; try with_reducible rfl)
        try simp only [Act.put, List.setIfInBounds_toArray, List.set_cons_zero, List.set_cons_succ]
        refine wpAnyY_take (i := 19) (oi := { dst := some 73, op := Go.Op.pick (Go.Operand.tmp 66) (Go.Operand.const (Go.Value.bool true)) (Go.Operand.tmp 72), type := 4, pos := "law.go:90", after := #[{ on := 12, ground := Go.Ground.data }, { on := 18, ground := Go.Ground.data }], guard := none }) (v := .bool false) rfl (by kernel_rfl) (by kernel_rfl) (by kernel_rfl) (by kernel_rfl) (fun _ _ _ h => h) (by intro w; first | rfl | (simp [Oper.about, resolve, Target.leads]; done)) (Or.inl ⟨by rfl, ?hy19⟩) hS ?_
        case hy19 => (rintro V ⟨s1, s2, s3, s4, ⟨s5, s6, s7, s8⟩, ⟨t5, t6, t7, t8⟩⟩; go_simp; try with_reducible rfl)
        try simp only [Act.put, List.setIfInBounds_toArray, List.set_cons_zero, List.set_cons_succ]
        refine wpAnyY_done (by kernel_rfl) ?_ _
        by_cases hmb : many ≤ (pre.length : Int) + 1
        · gi_wp2_with fail
          exact ⟨(by first | exact hKW.setCell (p := ⟨w2.heap.size + 1, 0, none⟩) (show w2.heap.size + 1 < _ by omega) (fun h => h.elim) _ | exact hKX.setCell (p := ⟨w2.heap.size + 1, 0, none⟩) (show w2.heap.size + 1 < _ by omega) (fun h => h.elim) _), rfl, by rw [HLEN.out]; exact HEIB.out.next (by omega), by rw [HLEN.out]; omega, by rw [HLEN.out]; omega, by rw [HLEN.out]; rcases HQ.out with h | h; (· left; rw [h]; rfl); (· right; omega)⟩
        · gi_wp2_with fail
          exact ⟨(by first | exact hKW.setCell (p := ⟨w2.heap.size + 1, 0, none⟩) (show w2.heap.size + 1 < _ by omega) (fun h => h.elim) _ | exact hKX.setCell (p := ⟨w2.heap.size + 1, 0, none⟩) (show w2.heap.size + 1 < _ by omega) (fun h => h.elim) _), by rw [HLEN.out]; exact HEIB.out.next (by omega), .inr (by rw [HLEN.out]; omega)⟩
      case done0 =>
        rintro xs Wa hxs ⟨hei, hq⟩ hD
        rw [hxs] at hei hq
        clear hxs xs
        have hsz := HB0.out.size
        have up : ∀ p : Addr, p.block < w2.heap.size → Wa.cell? p = w2.cell? p := fun p hp => (hei.cell (by omega) (by omega)).trans (HB0.out.cell hp)
        have g4 : Wa.cell? ⟨w.heap.size, 0, none⟩ = some (.int .i64 many) := (up _ (by have := HS2.out.size; simp; omega)).trans HS2.out.many
        have g6 : Wa.cell? ⟨w.heap.size + 1 + 1 + 1, 0, none⟩ = some v6 := (up _ (by have := HS2.out.size; simp; omega)).trans HS2.out.at6
        have g12 : Wa.cell? ⟨w2.heap.size, 0, none⟩ = some (.int .i64 0) := (hei.cell (by simp; omega) (by simp)).trans HT0.out
        have g13 := hei.at13
        obtain ⟨a6, c6, e6⟩ := row_sliceV HS2.out.r6
        rw [show (kl6 E).length = E.length by simp [kl6]] at e6
        rw [e6] at g6
        clear e6
        have HEI := Lib.hid hei
        have HD := Lib.hid hD
        obtain ⟨M, hM⟩ : ∃ M, max (1 : Int) many = M := ⟨_, rfl⟩
        have hmn : min (E.length : Int) M = E.length := by rcases hq with h | h; (· subst h; simp; omega); (· omega)
        have hne : ((E.length : Int) != (E.length : Int)) = false := by simp
        clear up hei hD hq
        go_wp2_with fail
        have HUP := Lib.hid (HEI.out.up HS2.out.below HB0.out (by omega))
        rw [rounds_succ]
        go_wp2_with fail
        obtain ⟨W4, hW4⟩ : ∃ W4, (Wa.alloc (.cells #[.int .i64 1] 3)).alloc (.cells #[.int .i64 0] 3) = W4 := ⟨_, rfl⟩
        have hzW : w2.heap.size + 1 < Wa.heap.size := by have := HEI.out.size; omega
        have HB1 : Hid (Below w2.heap.size w2 W4) := Lib.hid (by rw [← hW4]; exact (HUP.out.alloc HUP.out.size _).alloc (by have := HUP.out.size; simp; omega) _)
        have hz4 : W4.heap.size = Wa.heap.size + 1 + 1 := by rw [← hW4]; simp
        have hz13 : Wa.heap.size + 1 < W4.heap.size := by omega
        have hzw : w.heap.size ≤ W4.heap.size := by omega
        have HT1 : Hid (W4.cell? ⟨Wa.heap.size, 0, none⟩ = some (.int .i64 1)) := Lib.hid (by rw [← hW4]; simp [go_sem])
        have HEI1 : Hid (EC w W4 (Wa.heap.size + 1) 0 W4) := Lib.hid ⟨Nat.le_refl _, fun _ _ _ => rfl, HS2.out.below.trans (HB1.out.mono hzw2), by rw [← hW4]; simp [go_sem], by rw [← hW4]; simp [go_sem]⟩
        have HD4 : Hid (W4.heap[W3.heap.size]? = some (.deferred (some []))) := Lib.hid (by rw [← hW4, Below.heap_alloc _ _ _ (by have := (Array.getElem?_eq_some_iff.1 HD.out).1; simp; omega), Below.heap_alloc _ _ _ (Array.getElem?_eq_some_iff.1 HD.out).1]; exact HD.out)
        try rw [hW4]
        refine (wpIn_wide (n := 6)).1 ?_
        refine wpIn_turnsB (F := Fence.wide) (G := fun _ => False) rfl (by decide) (gf := 34) (lb := #[.pointer (some ⟨cb, 0, none⟩)]) rfl trivial (enters_of Tryz.func34 (by kernel_rfl) rfl)
          (HSEQ.out W4 HB1.out) (fun k hk => hk.elim) (fun x => rfl)
          (fun pre W => EC w W4 (Wa.heap.size + 1) pre.length W ∧ True)
          (fun _ _ _ => False)
          (fun s A A' h hb => ⟨h.1.keep hb hz13 hzw, h.2⟩)
          (fun _ _ _ _ h _ => h)
          ⟨HEI1.out, trivial⟩
          (fun b pre x V => ∃ g, b = ({ tmps := #[Value.string s, Value.int .i64 many, undef, Value.pointer (some { block := w.heap.size, off := 0 }), Value.pointer (some { block := w.heap.size + 1, off := 0 }), Value.pointer (some { block := w.heap.size + 1 + 1, off := 0 }), Value.pointer (some { block := w.heap.size + 1 + 1 + 1, off := 0 }), Value.int .i64 (i : Int), Value.pointer (some { block := w1.heap.size, off := 0 }), Value.int .i64 0, Value.func (.func 34) #[] #[Value.pointer (some { block := cb, off := 0 })], Value.pointer (some { block := Wa.heap.size, off := 0 }), Value.pointer (some { block := Wa.heap.size + 1, off := 0 }), .int .i64 (x.1 : Int), .pointer (some ⟨g, 0, none⟩), Value.string s, Value.int .i64 (s.size : Int), Value.bool (decide ((2400 : Int) < (s.size : Int))), undef, Value.int .i64 (i : Int), Value.string s, Value.int .i64 (s.size : Int), Value.bool true, Value.tuple #[Value.agg #[Value.int .i64 0, Value.int .i64 0, Value.int .u64 0, Value.string { data := #[] }], Value.int .i64 0], Value.string s, Value.int .i64 (i : Int), Value.string (s.extract i s.size), Value.tuple #[Value.agg #[Value.int .i64 0, Value.int .i64 0, Value.int .u64 0, Value.string { data := #[] }], Value.int .i64 0], Value.agg #[Value.int .i64 0, Value.int .i64 0, Value.int .u64 0, Value.string { data := #[] }], Value.int .i64 0, Value.int .i64 0, Value.bool true, u32, u33, u34, u35, u36, u37, u38, u39, u40, u41, u42, Value.string s, Value.func (.func 34) #[] #[Value.pointer (some { block := cb, off := 0 })], Value.func (.func 34) #[] #[Value.pointer (some { block := cb, off := 0 })], Value.bool false, Value.int .i64 1, Value.bool true, Value.int .i64 0, Value.int .i64 1, Value.func (.func 34) #[] #[Value.pointer (some { block := cb, off := 0 })], .int .i64 (x.1 : Int), .agg #[.int .i64 x.2.k, .int .i64 x.2.i, .int .u64 x.2.u, .string x.2.s], undef, undef, undef, undef, undef, undef, undef, undef, undef, undef, undef, undef, undef, undef, undef, undef, undef, undef, undef, undef, undef, undef, undef, undef, undef, undef, undef, undef, undef, Value.int .i64 0, Value.bool true, Value.bool true, Value.int .i64 ↑E.length, Value.slice a6 E.length c6, Value.int .i64 ↑E.length, Value.int .i64 many, Value.int .i64 M, Value.int .i64 ↑E.length, Value.bool false, Value.bool false, Value.bool false, Value.int .i64 0, Value.bool false, Value.bool false, undef, undef, undef, undef, Value.bool false, Value.bool false, Value.int .i64 0, undef], defers := [] } : Act) ∧ W4.heap.size + 2 ≤ g ∧ ValAt V ⟨g, 0, none⟩ x.2 ∧ EC w W4 (Wa.heap.size + 1) pre.length V ∧ True)
          (fun b pre x V o hz h => by
            obtain ⟨g, h0, hg, ⟨q0, q1, q2, q3⟩, he, hq⟩ := h
            have hne : (V.putObj (W4.heap.size + 1) o).heap[g]? = V.heap[g]? := World.putObj_heap_other (by omega)
            exact ⟨g, h0, hg, ⟨(World.cell?_of_block (a := ⟨g, 0, none⟩) hne).trans q0, (World.cell?_of_block (a := ⟨g, 0 + 1, none⟩) hne).trans q1, (World.cell?_of_block (a := ⟨g, 0 + 2, none⟩) hne).trans q2, (World.cell?_of_block (a := ⟨g, 0 + 3, none⟩) hne).trans q3⟩, he.keep (below_putC (Below.refl _ V) (by omega) o) hz13 hzw, hq⟩)
          ?assign1 ?body1 ?done1 ?stop1
        case assign1 =>
          rintro l pre x W K ⟨hei, hq⟩ hsp hsz hK
          have HK := Lib.hid (hK _ (W.alloc (vObj x.2)) ⟨W.heap.size, rfl, hsz, litV0 W x.2, hei.keep ((Below.refl _ W).alloc (by omega) _) hz13 hzw, hq⟩ ((Below.refl _ W).alloc (Nat.le_refl _) _))
          clear hK hei hq hsp
          simp only [encE]
          gi_wp2
          exact HK.out
        case body1 =>
          rintro l b pre x W ⟨g, rfl, hg, hv, hei, hq⟩ hsp hszW
          obtain ⟨hlt, hx⟩ := pre_at hsp
          have r5 := (row_cell HS2.out.r5 (by simp [kl5]; omega))
          have r6 := (row_vals HS2.out.r6 rfl (by simp [kl6]; omega))
          obtain ⟨a5, c5, e5, h5lo, h5hi, h5⟩ := r5
          obtain ⟨a6, c6, e6, h6lo, h6hi, h6⟩ := r6
          have hsz := HB1.out.size
          have up : ∀ p : Addr, p.block < w2.heap.size → W.cell? p = w2.cell? p := fun p hp => (hei.cell (by omega) (by omega)).trans (HB1.out.cell hp)
          have g4 : W.cell? ⟨w.heap.size, 0, none⟩ = some (.int .i64 many) := (up _ (by have := HS2.out.size; simp; omega)).trans HS2.out.many
          have g5 : W.cell? ⟨w.heap.size + 1 + 1, 0, none⟩ = some v5 := (up _ (by have := HS2.out.size; simp; omega)).trans HS2.out.at5
          have g6 : W.cell? ⟨w.heap.size + 1 + 1 + 1, 0, none⟩ = some v6 := (up _ (by have := HS2.out.size; simp; omega)).trans HS2.out.at6
          have g12 : W.cell? ⟨Wa.heap.size, 0, none⟩ = some (.int .i64 1) := (hei.cell (by simp; omega) (by simp)).trans HT1.out
          have g13 := hei.at13
          have g13F := hei.at13F
          have k5 : W.cell? (a5.add pre.length) = some (.int .i64 (x.1 : Int)) := by rw [up _ (by rw [Addr.add_block]; omega), h5 _ (by simp [kl5]; omega)]; simp [kl5, hlt, hx]
          have k6 : ValAt W (a6.add (pre.length * 4)) x.2 := by
            have h := h6 pre.length (by simp [kl6]; omega)
            rw [show (kl6 E)[pre.length]'(by simp [kl6]; omega) = x.2 by simp [kl6, hx]] at h
            obtain ⟨q0, q1, q2, q3⟩ := h
            have hbl : (a6.add (pre.length * 4)).block < w2.heap.size := by rw [Addr.add_block]; omega
            exact ⟨(up _ hbl).trans q0, (up ⟨_, _, none⟩ hbl).trans q1, (up ⟨_, _, none⟩ hbl).trans q2, (up ⟨_, _, none⟩ hbl).trans q3⟩
          obtain ⟨y0, y1, y2, y3⟩ := k6
          obtain ⟨x0, x1, x2, x3⟩ := hv
          rw [e5, show (kl5 E).length = E.length by simp [kl5]] at g5
          rw [e6, show (kl6 E).length = E.length by simp [kl6]] at g6
          have hd : decide ((E.length : Int) ≤ (pre.length : Int)) = false := by simp; omega
          have hlt2 : (pre.length : Int) < (E.length : Int) := by omega
          have hlen : (pre ++ [x]).length = pre.length + 1 := by simp
          have hvq : (binOp .neq 42 (.agg #[.int .i64 x.2.k, .int .i64 x.2.i, .int .u64 x.2.u, .string x.2.s]) (.agg #[.int .i64 x.2.k, .int .i64 x.2.i, .int .u64 x.2.u, .string x.2.s])).run Tryz.prog W = .ok (.bool false) W := by rw [run_neq_val]; simp [vEqB]
          have HQ := Lib.hid hq
          have HLEN := Lib.hid hlen
          clear hq up h5 h6 e5 e6 hx hsp hlen
          dsimp only
          gi_wp2_with fail
          have hS : (fun V => V.cell? ⟨Wa.heap.size + 1, 0, none⟩ = some (.int .i64 (pre.length : Int)) ∧ V.cell? ⟨w.heap.size + 1 + 1, 0, none⟩ = some (.slice (some a5) E.length c5) ∧ V.cell? ⟨w.heap.size + 1 + 1 + 1, 0, none⟩ = some (.slice (some a6) E.length c6) ∧ V.cell? (a5.add pre.length) = some (.int .i64 (x.1 : Int)) ∧ ValAt V ⟨g, 0, none⟩ x.2 ∧ ValAt V (a6.add (pre.length * 4)) x.2) W.drew := ⟨g13, g5, g6, k5, ⟨x0, x1, x2, x3⟩, ⟨y0, y1, y2, y3⟩⟩
          have g4' : W.drew.cell? ⟨w.heap.size, 0, none⟩ = some (.int .i64 many) := g4
          have g12' : W.drew.cell? ⟨Wa.heap.size, 0, none⟩ = some (.int .i64 1) := g12
          have g13' : W.drew.cell? ⟨Wa.heap.size + 1, 0, none⟩ = some (.int .i64 (pre.length : Int)) := g13
          have g13F' : W.drew.frozen? ⟨Wa.heap.size + 1, 0, none⟩ = false := g13F
          have hKW : Keep W4.heap.size (fun _ => False) W W.drew := ⟨Nat.le_refl _, fun _ _ _ => rfl⟩
          have hKX : Keep (Wa.heap.size + 1 + 1) (fun _ => False) W W.drew := ⟨Nat.le_refl _, fun _ _ _ => rfl⟩
          have HEIB := Lib.hid (hei.keep ((Below.refl W4.heap.size W).drew) hz13 hzw)
          refine wpIn_region_Y (S := fun V => V.cell? ⟨Wa.heap.size + 1, 0, none⟩ = some (.int .i64 (pre.length : Int)) ∧ V.cell? ⟨w.heap.size + 1 + 1, 0, none⟩ = some (.slice (some a5) E.length c5) ∧ V.cell? ⟨w.heap.size + 1 + 1 + 1, 0, none⟩ = some (.slice (some a6) E.length c6) ∧ V.cell? (a5.add pre.length) = some (.int .i64 (x.1 : Int)) ∧ ValAt V ⟨g, 0, none⟩ x.2 ∧ ValAt V (a6.add (pre.length * 4)) x.2) (by kernel_rfl) ?_
          obtain ⟨Wq, hWq⟩ : ∃ Wq, W.drew = Wq := ⟨_, rfl⟩
          rw [hWq] at hS g4' g12' g13' g13F' hKW hKX HEIB
          rw [hWq]
          clear hei g4 g5 g6 g12 g13 g13F k5 x0 x1 x2 x3 y0 y1 y2 y3 hWq
          refine wpAnyY_take (i := 0) (oi := { dst := some 54, op := Go.Op.load 3 (Go.Operand.tmp 12), type := 3, pos := "law.go:90", after := #[], guard := none }) (v := .int .i64 (pre.length : Int)) rfl (by kernel_rfl) (by kernel_rfl) (by kernel_rfl) (by kernel_rfl) (fun _ _ _ h => h) (by intro w; first | rfl | (simp [Oper.about, resolve, Target.leads]; done)) (Or.inl ⟨by rfl, ?hy0⟩) hS ?_
          case hy0 => (rintro V ⟨s1, s2, s3, s4, ⟨s5, s6, s7, s8⟩, ⟨t5, t6, t7, t8⟩⟩; go_simp; try with_reducible rfl)
          try simp only [Act.put, List.setIfInBounds_toArray, List.set_cons_zero, List.set_cons_succ]
          refine wpAnyY_take (i := 1) (oi := { dst := some 55, op := Go.Op.load 22 (Go.Operand.tmp 6), type := 22, pos := "law.go:90", after := #[], guard := none }) (v := .slice (some a6) E.length c6) rfl (by kernel_rfl) (by kernel_rfl) (by kernel_rfl) (by kernel_rfl) (fun _ _ _ h => h) (by intro w; first | rfl | (simp [Oper.about, resolve, Target.leads]; done)) (Or.inl ⟨by rfl, ?hy1⟩) hS ?_
          case hy1 => (rintro V ⟨s1, s2, s3, s4, ⟨s5, s6, s7, s8⟩, ⟨t5, t6, t7, t8⟩⟩; go_simp; try with_reducible rfl)
          try simp only [Act.put, List.setIfInBounds_toArray, List.set_cons_zero, List.set_cons_succ]
          refine wpAnyY_take (i := 2) (oi := { dst := some 56, op := Go.Op.call { callee := Go.Callee.builtin Go.Builtin.len, args := #[Go.Operand.tmp 55], argTypes := #[22] }, type := 3, pos := "law.go:90", after := #[{ on := 1, ground := Go.Ground.data }], guard := none }) (v := .int .i64 (E.length : Int)) rfl (by kernel_rfl) (by kernel_rfl) (by kernel_rfl) (by kernel_rfl) (fun _ _ _ h => h) (by intro w; first | rfl | (simp [Oper.about, resolve, Target.leads]; done)) (Or.inl ⟨by rfl, ?hy2⟩) hS ?_
          case hy2 => (rintro V ⟨s1, s2, s3, s4, ⟨s5, s6, s7, s8⟩, ⟨t5, t6, t7, t8⟩⟩; go_simp; try with_reducible rfl)
          try simp only [Act.put, List.setIfInBounds_toArray, List.set_cons_zero, List.set_cons_succ]
          refine wpAnyY_take (i := 3) (oi := { dst := some 57, op := Go.Op.binOp Go.BinOp.geq 3 (Go.Operand.tmp 54) (Go.Operand.tmp 56) 3, type := 4, pos := "law.go:90", after := #[{ on := 0, ground := Go.Ground.data }, { on := 2, ground := Go.Ground.data }], guard := none }) (v := .bool false) rfl (by kernel_rfl) (by kernel_rfl) (by kernel_rfl) (by kernel_rfl) (fun _ _ _ h => h) (by intro w; first | rfl | (simp [Oper.about, resolve, Target.leads]; done)) (Or.inl ⟨by rfl, ?hy3⟩) hS ?_
          case hy3 => (rintro V ⟨s1, s2, s3, s4, ⟨s5, s6, s7, s8⟩, ⟨t5, t6, t7, t8⟩⟩; go_simp; try with_reducible rfl)
          try simp only [Act.put, List.setIfInBounds_toArray, List.set_cons_zero, List.set_cons_succ]
          refine wpAnyY_take (i := 4) (oi := { dst := some 58, op := Go.Op.move (Go.Operand.tmp 57), type := 4, pos := "law.go:90", after := #[{ on := 3, ground := Go.Ground.data }], guard := none }) (v := .bool false) rfl (by kernel_rfl) (by kernel_rfl) (by kernel_rfl) (by kernel_rfl) (fun _ _ _ h => h) (by intro w; first | rfl | (simp [Oper.about, resolve, Target.leads]; done)) (Or.inl ⟨by rfl, ?hy4⟩) hS ?_
          case hy4 => (rintro V ⟨s1, s2, s3, s4, ⟨s5, s6, s7, s8⟩, ⟨t5, t6, t7, t8⟩⟩; go_simp; try with_reducible rfl)
          try simp only [Act.put, List.setIfInBounds_toArray, List.set_cons_zero, List.set_cons_succ]
          refine wpAnyY_take (i := 5) (oi := { dst := some 59, op := Go.Op.move (Go.Operand.tmp 13), type := 3, pos := "law.go:90", after := #[{ on := 4, ground := Go.Ground.guard }], guard := some (4, false) }) (v := .int .i64 (x.1 : Int)) rfl (by kernel_rfl) (by kernel_rfl) (by kernel_rfl) (by kernel_rfl) (fun _ _ _ h => h) (by intro w; first | rfl | (simp [Oper.about, resolve, Target.leads]; done)) (Or.inl ⟨by rfl, ?hy5⟩) hS ?_
          case hy5 => (rintro V ⟨s1, s2, s3, s4, ⟨s5, s6, s7, s8⟩, ⟨t5, t6, t7, t8⟩⟩; go_simp; try with_reducible rfl)
          try simp only [Act.put, List.setIfInBounds_toArray, List.set_cons_zero, List.set_cons_succ]
          refine wpAnyY_take (i := 6) (oi := { dst := some 60, op := Go.Op.load 38 (Go.Operand.tmp 5), type := 38, pos := "law.go:90", after := #[{ on := 4, ground := Go.Ground.guard }], guard := some (4, false) }) (v := .slice (some a5) E.length c5) rfl (by kernel_rfl) (by kernel_rfl) (by kernel_rfl) (by kernel_rfl) (fun _ _ _ h => h) (by intro w; first | rfl | (simp [Oper.about, resolve, Target.leads]; done)) (Or.inl ⟨by rfl, ?hy6⟩) hS ?_
          case hy6 => (rintro V ⟨s1, s2, s3, s4, ⟨s5, s6, s7, s8⟩, ⟨t5, t6, t7, t8⟩⟩; go_simp; try with_reducible rfl)
          try simp only [Act.put, List.setIfInBounds_toArray, List.set_cons_zero, List.set_cons_succ]
          refine wpAnyY_take (i := 7) (oi := { dst := some 61, op := Go.Op.load 3 (Go.Operand.tmp 12), type := 3, pos := "law.go:90", after := #[{ on := 4, ground := Go.Ground.guard }], guard := some (4, false) }) (v := .int .i64 (pre.length : Int)) rfl (by kernel_rfl) (by kernel_rfl) (by kernel_rfl) (by kernel_rfl) (fun _ _ _ h => h) (by intro w; first | rfl | (simp [Oper.about, resolve, Target.leads]; done)) (Or.inl ⟨by rfl, ?hy7⟩) hS ?_
          case hy7 => (rintro V ⟨s1, s2, s3, s4, ⟨s5, s6, s7, s8⟩, ⟨t5, t6, t7, t8⟩⟩; go_simp; try with_reducible rfl)
          try simp only [Act.put, List.setIfInBounds_toArray, List.set_cons_zero, List.set_cons_succ]
          refine wpAnyY_take (i := 8) (oi := { dst := some 62, op := Go.Op.indexAddr 38 (Go.Operand.tmp 60) (Go.Operand.tmp 61), type := 0, pos := "law.go:90", after := #[{ on := 6, ground := Go.Ground.data }, { on := 7, ground := Go.Ground.data }, { on := 4, ground := Go.Ground.guard }], guard := some (4, false) }) (v := .pointer (some (a5.add pre.length))) rfl (by kernel_rfl) (by kernel_rfl) (by kernel_rfl) (by kernel_rfl) (fun _ _ _ h => h) (by intro w; first | rfl | (simp [Oper.about, resolve, Target.leads]; done)) (Or.inl ⟨by rfl, ?hy8⟩) hS ?_
          case hy8 => (rintro V ⟨s1, s2, s3, s4, ⟨s5, s6, s7, s8⟩, ⟨t5, t6, t7, t8⟩⟩; go_simp; try with_reducible rfl)
          try simp only [Act.put, List.setIfInBounds_toArray, List.set_cons_zero, List.set_cons_succ]
          refine wpAnyY_take (i := 9) (oi := { dst := some 63, op := Go.Op.load 3 (Go.Operand.tmp 62), type := 3, pos := "law.go:90", after := #[{ on := 8, ground := Go.Ground.data }, { on := 4, ground := Go.Ground.guard }], guard := some (4, false) }) (v := .int .i64 (x.1 : Int)) rfl (by kernel_rfl) (by kernel_rfl) (by kernel_rfl) (by kernel_rfl) (fun _ _ _ h => h) (by intro w; first | rfl | (simp [Oper.about, resolve, Target.leads]; done)) (Or.inl ⟨by rfl, ?hy9⟩) hS ?_
          case hy9 => (rintro V ⟨s1, s2, s3, s4, ⟨s5, s6, s7, s8⟩, ⟨t5, t6, t7, t8⟩⟩; go_simp; try with_reducible rfl)
          try simp only [Act.put, List.setIfInBounds_toArray, List.set_cons_zero, List.set_cons_succ]
          refine wpAnyY_take (i := 10) (oi := { dst := some 64, op := Go.Op.binOp Go.BinOp.neq 3 (Go.Operand.tmp 59) (Go.Operand.tmp 63) 3, type := 4, pos := "law.go:90", after := #[{ on := 5, ground := Go.Ground.data }, { on := 9, ground := Go.Ground.data }, { on := 4, ground := Go.Ground.guard }], guard := some (4, false) }) (v := .bool false) rfl (by kernel_rfl) (by kernel_rfl) (by kernel_rfl) (by kernel_rfl) (fun _ _ _ h => h) (by intro w; first | rfl | (simp [Oper.about, resolve, Target.leads]; done)) (Or.inl ⟨by rfl, ?hy10⟩) hS ?_
          case hy10 => (rintro V ⟨s1, s2, s3, s4, ⟨s5, s6, s7, s8⟩, ⟨t5, t6, t7, t8⟩⟩; go_simp; try with_reducible rfl)
          try simp only [Act.put, List.setIfInBounds_toArray, List.set_cons_zero, List.set_cons_succ]
          refine wpAnyY_take (i := 11) (oi := { dst := some 65, op := Go.Op.pick (Go.Operand.tmp 58) (Go.Operand.const (Go.Value.bool true)) (Go.Operand.tmp 64), type := 4, pos := "law.go:90", after := #[{ on := 4, ground := Go.Ground.data }, { on := 10, ground := Go.Ground.data }], guard := none }) (v := .bool false) rfl (by kernel_rfl) (by kernel_rfl) (by kernel_rfl) (by kernel_rfl) (fun _ _ _ h => h) (by intro w; first | rfl | (simp [Oper.about, resolve, Target.leads]; done)) (Or.inl ⟨by rfl, ?hy11⟩) hS ?_
          case hy11 => (rintro V ⟨s1, s2, s3, s4, ⟨s5, s6, s7, s8⟩, ⟨t5, t6, t7, t8⟩⟩; go_simp; try with_reducible rfl)
          try simp only [Act.put, List.setIfInBounds_toArray, List.set_cons_zero, List.set_cons_succ]
          refine wpAnyY_take (i := 12) (oi := { dst := some 66, op := Go.Op.move (Go.Operand.tmp 65), type := 4, pos := "law.go:90", after := #[{ on := 11, ground := Go.Ground.data }, { on := 4, ground := Go.Ground.chain }], guard := none }) (v := .bool false) rfl (by kernel_rfl) (by kernel_rfl) (by kernel_rfl) (by kernel_rfl) (fun _ _ _ h => h) (by intro w; first | rfl | (simp [Oper.about, resolve, Target.leads]; done)) (Or.inl ⟨by rfl, ?hy12⟩) hS ?_
          case hy12 => (rintro V ⟨s1, s2, s3, s4, ⟨s5, s6, s7, s8⟩, ⟨t5, t6, t7, t8⟩⟩; go_simp; try with_reducible rfl)
          try simp only [Act.put, List.setIfInBounds_toArray, List.set_cons_zero, List.set_cons_succ]
          refine wpAnyY_take (i := 13) (oi := { dst := some 67, op := Go.Op.load 42 (Go.Operand.tmp 14), type := 42, pos := "law.go:90", after := #[{ on := 12, ground := Go.Ground.guard }], guard := some (12, false) }) (v := .agg #[.int .i64 x.2.k, .int .i64 x.2.i, .int .u64 x.2.u, .string x.2.s]) rfl (by kernel_rfl) (by kernel_rfl) (by kernel_rfl) (by kernel_rfl) (fun _ _ _ h => h) (by intro w; first | rfl | (simp [Oper.about, resolve, Target.leads]; done)) (Or.inl ⟨by rfl, ?hy13⟩) hS ?_
          case hy13 => (rintro V ⟨s1, s2, s3, s4, ⟨s5, s6, s7, s8⟩, ⟨t5, t6, t7, t8⟩⟩; go_simp; try with_reducible rfl)
          try simp only [Act.put, List.setIfInBounds_toArray, List.set_cons_zero, List.set_cons_succ]
          refine wpAnyY_take (i := 14) (oi := { dst := some 68, op := Go.Op.load 22 (Go.Operand.tmp 6), type := 22, pos := "law.go:90", after := #[{ on := 12, ground := Go.Ground.guard }], guard := some (12, false) }) (v := .slice (some a6) E.length c6) rfl (by kernel_rfl) (by kernel_rfl) (by kernel_rfl) (by kernel_rfl) (fun _ _ _ h => h) (by intro w; first | rfl | (simp [Oper.about, resolve, Target.leads]; done)) (Or.inl ⟨by rfl, ?hy14⟩) hS ?_
          case hy14 => (rintro V ⟨s1, s2, s3, s4, ⟨s5, s6, s7, s8⟩, ⟨t5, t6, t7, t8⟩⟩; go_simp; try with_reducible rfl)
          try simp only [Act.put, List.setIfInBounds_toArray, List.set_cons_zero, List.set_cons_succ]
          refine wpAnyY_take (i := 15) (oi := { dst := some 69, op := Go.Op.load 3 (Go.Operand.tmp 12), type := 3, pos := "law.go:90", after := #[{ on := 12, ground := Go.Ground.guard }], guard := some (12, false) }) (v := .int .i64 (pre.length : Int)) rfl (by kernel_rfl) (by kernel_rfl) (by kernel_rfl) (by kernel_rfl) (fun _ _ _ h => h) (by intro w; first | rfl | (simp [Oper.about, resolve, Target.leads]; done)) (Or.inl ⟨by rfl, ?hy15⟩) hS ?_
          case hy15 => (rintro V ⟨s1, s2, s3, s4, ⟨s5, s6, s7, s8⟩, ⟨t5, t6, t7, t8⟩⟩; go_simp; try with_reducible rfl)
          try simp only [Act.put, List.setIfInBounds_toArray, List.set_cons_zero, List.set_cons_succ]
          refine wpAnyY_take (i := 16) (oi := { dst := some 70, op := Go.Op.indexAddr 22 (Go.Operand.tmp 68) (Go.Operand.tmp 69), type := 0, pos := "law.go:90", after := #[{ on := 14, ground := Go.Ground.data }, { on := 15, ground := Go.Ground.data }, { on := 12, ground := Go.Ground.guard }], guard := some (12, false) }) (v := .pointer (some (a6.add (pre.length * 4)))) rfl (by kernel_rfl) (by kernel_rfl) (by kernel_rfl) (by kernel_rfl) (fun _ _ _ h => h) (by intro w; first | rfl | (simp [Oper.about, resolve, Target.leads]; done)) (Or.inl ⟨by rfl, ?hy16⟩) hS ?_
          case hy16 => (rintro V ⟨s1, s2, s3, s4, ⟨s5, s6, s7, s8⟩, ⟨t5, t6, t7, t8⟩⟩; go_simp; try with_reducible rfl)
          try simp only [Act.put, List.setIfInBounds_toArray, List.set_cons_zero, List.set_cons_succ]
          refine wpAnyY_take (i := 17) (oi := { dst := some 71, op := Go.Op.load 42 (Go.Operand.tmp 70), type := 42, pos := "law.go:90", after := #[{ on := 16, ground := Go.Ground.data }, { on := 12, ground := Go.Ground.guard }], guard := some (12, false) }) (v := .agg #[.int .i64 x.2.k, .int .i64 x.2.i, .int .u64 x.2.u, .string x.2.s]) rfl (by kernel_rfl) (by kernel_rfl) (by kernel_rfl) (by kernel_rfl) (fun _ _ _ h => h) (by intro w; first | rfl | (simp [Oper.about, resolve, Target.leads]; done)) (Or.inl ⟨by rfl, ?hy17⟩) hS ?_
          case hy17 => (rintro V ⟨s1, s2, s3, s4, ⟨s5, s6, s7, s8⟩, ⟨t5, t6, t7, t8⟩⟩; go_simp; try with_reducible rfl)
          try simp only [Act.put, List.setIfInBounds_toArray, List.set_cons_zero, List.set_cons_succ]
          refine wpAnyY_take (i := 18) (oi := { dst := some 72, op := Go.Op.binOp Go.BinOp.neq 42 (Go.Operand.tmp 67) (Go.Operand.tmp 71) 42, type := 4, pos := "law.go:90", after := #[{ on := 13, ground := Go.Ground.data }, { on := 17, ground := Go.Ground.data }, { on := 12, ground := Go.Ground.guard }], guard := some (12, false) }) (v := .bool false) rfl (by kernel_rfl) (by kernel_rfl) (by kernel_rfl) (by kernel_rfl) (fun _ _ _ h => h) (by intro w; first | rfl | (simp [Oper.about, resolve, Target.leads]; done)) (Or.inl ⟨by rfl, ?hy18⟩) hS ?_
          case hy18 => (rintro V ⟨s1, s2, s3, s4, ⟨s5, s6, s7, s8⟩, ⟨t5, t6, t7, t8⟩⟩; go_simp; try with_reducible rfl)
          try simp only [Act.put, List.setIfInBounds_toArray, List.set_cons_zero, List.set_cons_succ]
          refine wpAnyY_take (i := 19) (oi := { dst := some 73, op := Go.Op.pick (Go.Operand.tmp 66) (Go.Operand.const (Go.Value.bool true)) (Go.Operand.tmp 72), type := 4, pos := "law.go:90", after := #[{ on := 12, ground := Go.Ground.data }, { on := 18, ground := Go.Ground.data }], guard := none }) (v := .bool false) rfl (by kernel_rfl) (by kernel_rfl) (by kernel_rfl) (by kernel_rfl) (fun _ _ _ h => h) (by intro w; first | rfl | (simp [Oper.about, resolve, Target.leads]; done)) (Or.inl ⟨by rfl, ?hy19⟩) hS ?_
          case hy19 => (rintro V ⟨s1, s2, s3, s4, ⟨s5, s6, s7, s8⟩, ⟨t5, t6, t7, t8⟩⟩; go_simp; try with_reducible rfl)
          try simp only [Act.put, List.setIfInBounds_toArray, List.set_cons_zero, List.set_cons_succ]
          refine wpAnyY_done (by kernel_rfl) ?_ _
          gi_wp2_with fail
          exact ⟨(by first | exact hKW.setCell (p := ⟨Wa.heap.size + 1, 0, none⟩) (show Wa.heap.size + 1 < _ by omega) (fun h => h.elim) _ | exact hKX.setCell (p := ⟨Wa.heap.size + 1, 0, none⟩) (show Wa.heap.size + 1 < _ by omega) (fun h => h.elim) _), by rw [HLEN.out]; exact HEIB.out.next (by omega), trivial⟩
        case done1 =>
          rintro xs Wb hxs ⟨hei, _⟩ hD
          rw [hxs] at hei
          clear hxs xs
          have hsz := HB1.out.size
          have up : ∀ p : Addr, p.block < w2.heap.size → Wb.cell? p = w2.cell? p := fun p hp => (hei.cell (by omega) (by omega)).trans (HB1.out.cell hp)
          have g4 : Wb.cell? ⟨w.heap.size, 0, none⟩ = some (.int .i64 many) := (up _ (by have := HS2.out.size; simp; omega)).trans HS2.out.many
          have g6 : Wb.cell? ⟨w.heap.size + 1 + 1 + 1, 0, none⟩ = some v6 := (up _ (by have := HS2.out.size; simp; omega)).trans HS2.out.at6
          have g12 : Wb.cell? ⟨Wa.heap.size, 0, none⟩ = some (.int .i64 1) := (hei.cell (by simp; omega) (by simp)).trans HT1.out
          have g13 := hei.at13
          obtain ⟨a6, c6, e6⟩ := row_sliceV HS2.out.r6
          rw [show (kl6 E).length = E.length by simp [kl6]] at e6
          rw [e6] at g6
          clear e6
          have HEIb := Lib.hid hei
          have HDb := Lib.hid hD
          have hne : ((E.length : Int) != (E.length : Int)) = false := by simp
          clear up hei hD
          go_wp2_with fail
          rw [rounds_succ]
          go_wp2_with fail
          have HUPb := Lib.hid (HEIb.out.up HS2.out.below HB1.out (by omega))
          refine (HW.out (Wb.alloc (.cells #[.int .i64 2] 3)) (HEIb.out.below.alloc (by have := HEIb.out.size; omega) _)).mono ?_
          rintro e w9 ⟨rfl, hb9⟩
          have HB9 := Lib.hid ((HUPb.out.alloc HUPb.out.size (.cells #[.int .i64 2] 3)).trans (hb9.mono (by have := HUPb.out.size; simp; omega)))
          have r0 : w9.cell? ⟨w.heap.size + 1, 0, none⟩ = some (.bool false) := by rw [HB9.out.cell (by have := HS2.out.size; simp; omega)]; exact HS2.out.res
          have r0F : w9.frozen? ⟨w.heap.size + 1, 0, none⟩ = false := by rw [HB9.out.frozen (by have := HS2.out.size; simp; omega)]; exact HS2.out.resF
          have hlb := (Array.getElem?_eq_some_iff.1 HDb.out).1
          have hla := (Array.getElem?_eq_some_iff.1 HD4.out).1
          have hl3 := (Array.getElem?_eq_some_iff.1 HD.out).1
          have D1 : w9.heap[W4.heap.size]? = some (.deferred (some [])) := (hb9.block _ (by simp; omega)).trans ((Below.heap_alloc _ _ _ hlb).trans HDb.out)
          have D0 : w9.heap[W3.heap.size]? = some (.deferred (some [])) := (hb9.block _ (by have := HEIb.out.size; simp; omega)).trans ((Below.heap_alloc _ _ _ (by have := HEIb.out.size; omega)).trans ((HEIb.out.same _ hla (by omega)).trans HD4.out))
          have HD1 := Lib.hid D1
          have HD0 := Lib.hid D0
          clear hb9 D1 D0
          go_wp2_with fail
          have e1 : (w9.setCell ⟨w.heap.size + 1, 0, none⟩ (.bool true)).heap[W4.heap.size]? = some (.deferred (some [])) := (Below.heap_setCell _ _ _ _ (by simp; omega)).trans HD1.out
          have e0 : (w9.setCell ⟨w.heap.size + 1, 0, none⟩ (.bool true)).heap[W3.heap.size]? = some (.deferred (some [])) := (Below.heap_setCell _ _ _ _ (by simp; omega)).trans HD0.out
          rw [hz4] at e1
          rw [hz3] at e0
          refine ⟨by simp, .inl ⟨_, _, rfl, run_takeDeferred e1, ?_⟩⟩
          have e2 : ((w9.setCell ⟨w.heap.size + 1, 0, none⟩ (.bool true)).putObj (Wa.heap.size + 1 + 1) (.deferred none)).heap[w2.heap.size + 1 + 1]? = some (.deferred (some [])) := (World.putObj_heap_other (by omega)).trans e0
          refine ⟨by simp, .inl ⟨_, _, rfl, run_takeDeferred e2, ?_⟩⟩
          have hcell : (((w9.setCell ⟨w.heap.size + 1, 0, none⟩ (.bool true)).putObj (Wa.heap.size + 1 + 1) (.deferred none)).putObj (w2.heap.size + 1 + 1) (.deferred none)).cell? ⟨w.heap.size + 1, 0, none⟩ = some (.bool true) := cell_put (cell_put (World.cell?_setCell_same' _ _ _ (by rw [r0]; rfl)) e1 _) e2 _
          exact ⟨.bool true, by simp [results, Tryz.results5, go_sem, hcell], rfl, below_putC (below_putC ((HS2.out.below.trans (HB9.out.mono hzw2)).setCell (p := ⟨w.heap.size + 1, 0, none⟩) (by simp) _) (by omega) _) (by omega) _⟩
        case stop1 =>
          intro c pre W _ hix
          exact hix.elim
      case stop0 =>
        rintro c pr0 Wa hsp ⟨rfl, hei, q1, q2, q3⟩ hD
        have hpl := pre_le hsp
        have hsz := HB0.out.size
        have up : ∀ p : Addr, p.block < w2.heap.size → Wa.cell? p = w2.cell? p := fun p hp => (hei.cell (by omega) (by omega)).trans (HB0.out.cell hp)
        have g4 : Wa.cell? ⟨w.heap.size, 0, none⟩ = some (.int .i64 many) := (up _ (by have := HS2.out.size; simp; omega)).trans HS2.out.many
        have g6 : Wa.cell? ⟨w.heap.size + 1 + 1 + 1, 0, none⟩ = some v6 := (up _ (by have := HS2.out.size; simp; omega)).trans HS2.out.at6
        have g12 : Wa.cell? ⟨w2.heap.size, 0, none⟩ = some (.int .i64 0) := (hei.cell (by simp; omega) (by simp)).trans HT0.out
        have g13 := hei.at13
        obtain ⟨a6, c6, e6⟩ := row_sliceV HS2.out.r6
        rw [show (kl6 E).length = E.length by simp [kl6]] at e6
        rw [e6] at g6
        clear e6
        have HEI := Lib.hid hei
        have HD := Lib.hid hD
        obtain ⟨M, hM⟩ : ∃ M, max (1 : Int) many = M := ⟨_, rfl⟩
        have hmn : min (E.length : Int) M = (pr0.length : Int) := by omega
        have hne : ((pr0.length : Int) != (pr0.length : Int)) = false := by simp
        clear up hei hD hsp q1 q2 q3
        refine wpIn_wide.2 ?_
        go_wp2_with fail
        have HUP := Lib.hid (HEI.out.up HS2.out.below HB0.out (by omega))
        rw [rounds_succ]
        go_wp2_with fail
        obtain ⟨W4, hW4⟩ : ∃ W4, (Wa.alloc (.cells #[.int .i64 1] 3)).alloc (.cells #[.int .i64 0] 3) = W4 := ⟨_, rfl⟩
        have hzW : w2.heap.size + 1 < Wa.heap.size := by have := HEI.out.size; omega
        have HB1 : Hid (Below w2.heap.size w2 W4) := Lib.hid (by rw [← hW4]; exact (HUP.out.alloc HUP.out.size _).alloc (by have := HUP.out.size; simp; omega) _)
        have hz4 : W4.heap.size = Wa.heap.size + 1 + 1 := by rw [← hW4]; simp
        have hz13 : Wa.heap.size + 1 < W4.heap.size := by omega
        have hzw : w.heap.size ≤ W4.heap.size := by omega
        have HT1 : Hid (W4.cell? ⟨Wa.heap.size, 0, none⟩ = some (.int .i64 1)) := Lib.hid (by rw [← hW4]; simp [go_sem])
        have HEI1 : Hid (EC w W4 (Wa.heap.size + 1) 0 W4) := Lib.hid ⟨Nat.le_refl _, fun _ _ _ => rfl, HS2.out.below.trans (HB1.out.mono hzw2), by rw [← hW4]; simp [go_sem], by rw [← hW4]; simp [go_sem]⟩
        have HD4 : Hid (W4.heap[W3.heap.size]? = some (.deferred (some []))) := Lib.hid (by rw [← hW4, Below.heap_alloc _ _ _ (by have := (Array.getElem?_eq_some_iff.1 HD.out).1; simp; omega), Below.heap_alloc _ _ _ (Array.getElem?_eq_some_iff.1 HD.out).1]; exact HD.out)
        try rw [hW4]
        refine (wpIn_wide (n := 6)).1 ?_
        refine wpIn_turnsB (F := Fence.wide) (G := fun _ => False) rfl (by decide) (gf := 34) (lb := #[.pointer (some ⟨cb, 0, none⟩)]) rfl trivial (enters_of Tryz.func34 (by kernel_rfl) rfl)
          (HSEQ.out W4 HB1.out) (fun k hk => hk.elim) (fun x => rfl)
          (fun pre W => EC w W4 (Wa.heap.size + 1) pre.length W ∧ True)
          (fun _ _ _ => False)
          (fun s A A' h hb => ⟨h.1.keep hb hz13 hzw, h.2⟩)
          (fun _ _ _ _ h _ => h)
          ⟨HEI1.out, trivial⟩
          (fun b pre x V => ∃ g, b = ({ tmps := #[Value.string s, Value.int .i64 many, undef, Value.pointer (some { block := w.heap.size, off := 0 }), Value.pointer (some { block := w.heap.size + 1, off := 0 }), Value.pointer (some { block := w.heap.size + 1 + 1, off := 0 }), Value.pointer (some { block := w.heap.size + 1 + 1 + 1, off := 0 }), Value.int .i64 (i : Int), Value.pointer (some { block := w1.heap.size, off := 0 }), Value.int .i64 0, Value.func (.func 34) #[] #[Value.pointer (some { block := cb, off := 0 })], Value.pointer (some { block := Wa.heap.size, off := 0 }), Value.pointer (some { block := Wa.heap.size + 1, off := 0 }), .int .i64 (x.1 : Int), .pointer (some ⟨g, 0, none⟩), Value.string s, Value.int .i64 (s.size : Int), Value.bool (decide ((2400 : Int) < (s.size : Int))), undef, Value.int .i64 (i : Int), Value.string s, Value.int .i64 (s.size : Int), Value.bool true, Value.tuple #[Value.agg #[Value.int .i64 0, Value.int .i64 0, Value.int .u64 0, Value.string { data := #[] }], Value.int .i64 0], Value.string s, Value.int .i64 (i : Int), Value.string (s.extract i s.size), Value.tuple #[Value.agg #[Value.int .i64 0, Value.int .i64 0, Value.int .u64 0, Value.string { data := #[] }], Value.int .i64 0], Value.agg #[Value.int .i64 0, Value.int .i64 0, Value.int .u64 0, Value.string { data := #[] }], Value.int .i64 0, Value.int .i64 0, Value.bool true, u32, u33, u34, u35, u36, u37, u38, u39, u40, u41, u42, Value.string s, Value.func (.func 34) #[] #[Value.pointer (some { block := cb, off := 0 })], Value.func (.func 34) #[] #[Value.pointer (some { block := cb, off := 0 })], Value.bool false, Value.int .i64 1, Value.bool true, Value.int .i64 0, Value.int .i64 1, Value.func (.func 34) #[] #[Value.pointer (some { block := cb, off := 0 })], .int .i64 (x.1 : Int), .agg #[.int .i64 x.2.k, .int .i64 x.2.i, .int .u64 x.2.u, .string x.2.s], undef, undef, undef, undef, undef, undef, undef, undef, undef, undef, undef, undef, undef, undef, undef, undef, undef, undef, undef, undef, undef, undef, undef, undef, undef, undef, undef, undef, undef, Value.int .i64 0, Value.bool true, Value.bool true, Value.int .i64 ↑pr0.length, Value.slice a6 E.length c6, Value.int .i64 ↑E.length, Value.int .i64 many, Value.int .i64 M, Value.int .i64 ↑pr0.length, Value.bool false, Value.bool false, Value.bool false, Value.int .i64 0, Value.bool false, Value.bool false, undef, undef, undef, undef, Value.bool false, Value.bool false, Value.int .i64 0, undef], defers := [] } : Act) ∧ W4.heap.size + 2 ≤ g ∧ ValAt V ⟨g, 0, none⟩ x.2 ∧ EC w W4 (Wa.heap.size + 1) pre.length V ∧ True)
          (fun b pre x V o hz h => by
            obtain ⟨g, h0, hg, ⟨q0, q1, q2, q3⟩, he, hq⟩ := h
            have hne : (V.putObj (W4.heap.size + 1) o).heap[g]? = V.heap[g]? := World.putObj_heap_other (by omega)
            exact ⟨g, h0, hg, ⟨(World.cell?_of_block (a := ⟨g, 0, none⟩) hne).trans q0, (World.cell?_of_block (a := ⟨g, 0 + 1, none⟩) hne).trans q1, (World.cell?_of_block (a := ⟨g, 0 + 2, none⟩) hne).trans q2, (World.cell?_of_block (a := ⟨g, 0 + 3, none⟩) hne).trans q3⟩, he.keep (below_putC (Below.refl _ V) (by omega) o) hz13 hzw, hq⟩)
          ?assign1 ?body1 ?done1 ?stop1
        case assign1 =>
          rintro l pre x W K ⟨hei, hq⟩ hsp hsz hK
          have HK := Lib.hid (hK _ (W.alloc (vObj x.2)) ⟨W.heap.size, rfl, hsz, litV0 W x.2, hei.keep ((Below.refl _ W).alloc (by omega) _) hz13 hzw, hq⟩ ((Below.refl _ W).alloc (Nat.le_refl _) _))
          clear hK hei hq hsp
          simp only [encE]
          gi_wp2
          exact HK.out
        case body1 =>
          rintro l b pre x W ⟨g, rfl, hg, hv, hei, hq⟩ hsp hszW
          obtain ⟨hlt, hx⟩ := pre_at hsp
          have r5 := (row_cell HS2.out.r5 (by simp [kl5]; omega))
          have r6 := (row_vals HS2.out.r6 rfl (by simp [kl6]; omega))
          obtain ⟨a5, c5, e5, h5lo, h5hi, h5⟩ := r5
          obtain ⟨a6, c6, e6, h6lo, h6hi, h6⟩ := r6
          have hsz := HB1.out.size
          have up : ∀ p : Addr, p.block < w2.heap.size → W.cell? p = w2.cell? p := fun p hp => (hei.cell (by omega) (by omega)).trans (HB1.out.cell hp)
          have g4 : W.cell? ⟨w.heap.size, 0, none⟩ = some (.int .i64 many) := (up _ (by have := HS2.out.size; simp; omega)).trans HS2.out.many
          have g5 : W.cell? ⟨w.heap.size + 1 + 1, 0, none⟩ = some v5 := (up _ (by have := HS2.out.size; simp; omega)).trans HS2.out.at5
          have g6 : W.cell? ⟨w.heap.size + 1 + 1 + 1, 0, none⟩ = some v6 := (up _ (by have := HS2.out.size; simp; omega)).trans HS2.out.at6
          have g12 : W.cell? ⟨Wa.heap.size, 0, none⟩ = some (.int .i64 1) := (hei.cell (by simp; omega) (by simp)).trans HT1.out
          have g13 := hei.at13
          have g13F := hei.at13F
          have k5 : W.cell? (a5.add pre.length) = some (.int .i64 (x.1 : Int)) := by rw [up _ (by rw [Addr.add_block]; omega), h5 _ (by simp [kl5]; omega)]; simp [kl5, hlt, hx]
          have k6 : ValAt W (a6.add (pre.length * 4)) x.2 := by
            have h := h6 pre.length (by simp [kl6]; omega)
            rw [show (kl6 E)[pre.length]'(by simp [kl6]; omega) = x.2 by simp [kl6, hx]] at h
            obtain ⟨q0, q1, q2, q3⟩ := h
            have hbl : (a6.add (pre.length * 4)).block < w2.heap.size := by rw [Addr.add_block]; omega
            exact ⟨(up _ hbl).trans q0, (up ⟨_, _, none⟩ hbl).trans q1, (up ⟨_, _, none⟩ hbl).trans q2, (up ⟨_, _, none⟩ hbl).trans q3⟩
          obtain ⟨y0, y1, y2, y3⟩ := k6
          obtain ⟨x0, x1, x2, x3⟩ := hv
          rw [e5, show (kl5 E).length = E.length by simp [kl5]] at g5
          rw [e6, show (kl6 E).length = E.length by simp [kl6]] at g6
          have hd : decide ((E.length : Int) ≤ (pre.length : Int)) = false := by simp; omega
          have hlt2 : (pre.length : Int) < (E.length : Int) := by omega
          have hlen : (pre ++ [x]).length = pre.length + 1 := by simp
          have hvq : (binOp .neq 42 (.agg #[.int .i64 x.2.k, .int .i64 x.2.i, .int .u64 x.2.u, .string x.2.s]) (.agg #[.int .i64 x.2.k, .int .i64 x.2.i, .int .u64 x.2.u, .string x.2.s])).run Tryz.prog W = .ok (.bool false) W := by rw [run_neq_val]; simp [vEqB]
          have HQ := Lib.hid hq
          have HLEN := Lib.hid hlen
          clear hq up h5 h6 e5 e6 hx hsp hlen
          dsimp only
          gi_wp2_with fail
          have hS : (fun V => V.cell? ⟨Wa.heap.size + 1, 0, none⟩ = some (.int .i64 (pre.length : Int)) ∧ V.cell? ⟨w.heap.size + 1 + 1, 0, none⟩ = some (.slice (some a5) E.length c5) ∧ V.cell? ⟨w.heap.size + 1 + 1 + 1, 0, none⟩ = some (.slice (some a6) E.length c6) ∧ V.cell? (a5.add pre.length) = some (.int .i64 (x.1 : Int)) ∧ ValAt V ⟨g, 0, none⟩ x.2 ∧ ValAt V (a6.add (pre.length * 4)) x.2) W.drew := ⟨g13, g5, g6, k5, ⟨x0, x1, x2, x3⟩, ⟨y0, y1, y2, y3⟩⟩
          have g4' : W.drew.cell? ⟨w.heap.size, 0, none⟩ = some (.int .i64 many) := g4
          have g12' : W.drew.cell? ⟨Wa.heap.size, 0, none⟩ = some (.int .i64 1) := g12
          have g13' : W.drew.cell? ⟨Wa.heap.size + 1, 0, none⟩ = some (.int .i64 (pre.length : Int)) := g13
          have g13F' : W.drew.frozen? ⟨Wa.heap.size + 1, 0, none⟩ = false := g13F
          have hKW : Keep W4.heap.size (fun _ => False) W W.drew := ⟨Nat.le_refl _, fun _ _ _ => rfl⟩
          have hKX : Keep (Wa.heap.size + 1 + 1) (fun _ => False) W W.drew := ⟨Nat.le_refl _, fun _ _ _ => rfl⟩
          have HEIB := Lib.hid (hei.keep ((Below.refl W4.heap.size W).drew) hz13 hzw)
          refine wpIn_region_Y (S := fun V => V.cell? ⟨Wa.heap.size + 1, 0, none⟩ = some (.int .i64 (pre.length : Int)) ∧ V.cell? ⟨w.heap.size + 1 + 1, 0, none⟩ = some (.slice (some a5) E.length c5) ∧ V.cell? ⟨w.heap.size + 1 + 1 + 1, 0, none⟩ = some (.slice (some a6) E.length c6) ∧ V.cell? (a5.add pre.length) = some (.int .i64 (x.1 : Int)) ∧ ValAt V ⟨g, 0, none⟩ x.2 ∧ ValAt V (a6.add (pre.length * 4)) x.2) (by kernel_rfl) ?_
          obtain ⟨Wq, hWq⟩ : ∃ Wq, W.drew = Wq := ⟨_, rfl⟩
          rw [hWq] at hS g4' g12' g13' g13F' hKW hKX HEIB
          rw [hWq]
          clear hei g4 g5 g6 g12 g13 g13F k5 x0 x1 x2 x3 y0 y1 y2 y3 hWq
          refine wpAnyY_take (i := 0) (oi := { dst := some 54, op := Go.Op.load 3 (Go.Operand.tmp 12), type := 3, pos := "law.go:90", after := #[], guard := none }) (v := .int .i64 (pre.length : Int)) rfl (by kernel_rfl) (by kernel_rfl) (by kernel_rfl) (by kernel_rfl) (fun _ _ _ h => h) (by intro w; first | rfl | (simp [Oper.about, resolve, Target.leads]; done)) (Or.inl ⟨by rfl, ?hy0⟩) hS ?_
          case hy0 => (rintro V ⟨s1, s2, s3, s4, ⟨s5, s6, s7, s8⟩, ⟨t5, t6, t7, t8⟩⟩; go_simp; try with_reducible rfl)
          try simp only [Act.put, List.setIfInBounds_toArray, List.set_cons_zero, List.set_cons_succ]
          refine wpAnyY_take (i := 1) (oi := { dst := some 55, op := Go.Op.load 22 (Go.Operand.tmp 6), type := 22, pos := "law.go:90", after := #[], guard := none }) (v := .slice (some a6) E.length c6) rfl (by kernel_rfl) (by kernel_rfl) (by kernel_rfl) (by kernel_rfl) (fun _ _ _ h => h) (by intro w; first | rfl | (simp [Oper.about, resolve, Target.leads]; done)) (Or.inl ⟨by rfl, ?hy1⟩) hS ?_
          case hy1 => (rintro V ⟨s1, s2, s3, s4, ⟨s5, s6, s7, s8⟩, ⟨t5, t6, t7, t8⟩⟩; go_simp; try with_reducible rfl)
          try simp only [Act.put, List.setIfInBounds_toArray, List.set_cons_zero, List.set_cons_succ]
          refine wpAnyY_take (i := 2) (oi := { dst := some 56, op := Go.Op.call { callee := Go.Callee.builtin Go.Builtin.len, args := #[Go.Operand.tmp 55], argTypes := #[22] }, type := 3, pos := "law.go:90", after := #[{ on := 1, ground := Go.Ground.data }], guard := none }) (v := .int .i64 (E.length : Int)) rfl (by kernel_rfl) (by kernel_rfl) (by kernel_rfl) (by kernel_rfl) (fun _ _ _ h => h) (by intro w; first | rfl | (simp [Oper.about, resolve, Target.leads]; done)) (Or.inl ⟨by rfl, ?hy2⟩) hS ?_
          case hy2 => (rintro V ⟨s1, s2, s3, s4, ⟨s5, s6, s7, s8⟩, ⟨t5, t6, t7, t8⟩⟩; go_simp; try with_reducible rfl)
          try simp only [Act.put, List.setIfInBounds_toArray, List.set_cons_zero, List.set_cons_succ]
          refine wpAnyY_take (i := 3) (oi := { dst := some 57, op := Go.Op.binOp Go.BinOp.geq 3 (Go.Operand.tmp 54) (Go.Operand.tmp 56) 3, type := 4, pos := "law.go:90", after := #[{ on := 0, ground := Go.Ground.data }, { on := 2, ground := Go.Ground.data }], guard := none }) (v := .bool false) rfl (by kernel_rfl) (by kernel_rfl) (by kernel_rfl) (by kernel_rfl) (fun _ _ _ h => h) (by intro w; first | rfl | (simp [Oper.about, resolve, Target.leads]; done)) (Or.inl ⟨by rfl, ?hy3⟩) hS ?_
          case hy3 => (rintro V ⟨s1, s2, s3, s4, ⟨s5, s6, s7, s8⟩, ⟨t5, t6, t7, t8⟩⟩; go_simp; try with_reducible rfl)
          try simp only [Act.put, List.setIfInBounds_toArray, List.set_cons_zero, List.set_cons_succ]
          refine wpAnyY_take (i := 4) (oi := { dst := some 58, op := Go.Op.move (Go.Operand.tmp 57), type := 4, pos := "law.go:90", after := #[{ on := 3, ground := Go.Ground.data }], guard := none }) (v := .bool false) rfl (by kernel_rfl) (by kernel_rfl) (by kernel_rfl) (by kernel_rfl) (fun _ _ _ h => h) (by intro w; first | rfl | (simp [Oper.about, resolve, Target.leads]; done)) (Or.inl ⟨by rfl, ?hy4⟩) hS ?_
          case hy4 => (rintro V ⟨s1, s2, s3, s4, ⟨s5, s6, s7, s8⟩, ⟨t5, t6, t7, t8⟩⟩; go_simp; try with_reducible rfl)
          try simp only [Act.put, List.setIfInBounds_toArray, List.set_cons_zero, List.set_cons_succ]
          refine wpAnyY_take (i := 5) (oi := { dst := some 59, op := Go.Op.move (Go.Operand.tmp 13), type := 3, pos := "law.go:90", after := #[{ on := 4, ground := Go.Ground.guard }], guard := some (4, false) }) (v := .int .i64 (x.1 : Int)) rfl (by kernel_rfl) (by kernel_rfl) (by kernel_rfl) (by kernel_rfl) (fun _ _ _ h => h) (by intro w; first | rfl | (simp [Oper.about, resolve, Target.leads]; done)) (Or.inl ⟨by rfl, ?hy5⟩) hS ?_
          case hy5 => (rintro V ⟨s1, s2, s3, s4, ⟨s5, s6, s7, s8⟩, ⟨t5, t6, t7, t8⟩⟩; go_simp; try with_reducible rfl)
          try simp only [Act.put, List.setIfInBounds_toArray, List.set_cons_zero, List.set_cons_succ]
          refine wpAnyY_take (i := 6) (oi := { dst := some 60, op := Go.Op.load 38 (Go.Operand.tmp 5), type := 38, pos := "law.go:90", after := #[{ on := 4, ground := Go.Ground.guard }], guard := some (4, false) }) (v := .slice (some a5) E.length c5) rfl (by kernel_rfl) (by kernel_rfl) (by kernel_rfl) (by kernel_rfl) (fun _ _ _ h => h) (by intro w; first | rfl | (simp [Oper.about, resolve, Target.leads]; done)) (Or.inl ⟨by rfl, ?hy6⟩) hS ?_
          case hy6 => (rintro V ⟨s1, s2, s3, s4, ⟨s5, s6, s7, s8⟩, ⟨t5, t6, t7, t8⟩⟩; go_simp; try with_reducible rfl)
          try simp only [Act.put, List.setIfInBounds_toArray, List.set_cons_zero, List.set_cons_succ]
          refine wpAnyY_take (i := 7) (oi := { dst := some 61, op := Go.Op.load 3 (Go.Operand.tmp 12), type := 3, pos := "law.go:90", after := #[{ on := 4, ground := Go.Ground.guard }], guard := some (4, false) }) (v := .int .i64 (pre.length : Int)) rfl (by kernel_rfl) (by kernel_rfl) (by kernel_rfl) (by kernel_rfl) (fun _ _ _ h => h) (by intro w; first | rfl | (simp [Oper.about, resolve, Target.leads]; done)) (Or.inl ⟨by rfl, ?hy7⟩) hS ?_
          case hy7 => (rintro V ⟨s1, s2, s3, s4, ⟨s5, s6, s7, s8⟩, ⟨t5, t6, t7, t8⟩⟩; go_simp; try with_reducible rfl)
          try simp only [Act.put, List.setIfInBounds_toArray, List.set_cons_zero, List.set_cons_succ]
          refine wpAnyY_take (i := 8) (oi := { dst := some 62, op := Go.Op.indexAddr 38 (Go.Operand.tmp 60) (Go.Operand.tmp 61), type := 0, pos := "law.go:90", after := #[{ on := 6, ground := Go.Ground.data }, { on := 7, ground := Go.Ground.data }, { on := 4, ground := Go.Ground.guard }], guard := some (4, false) }) (v := .pointer (some (a5.add pre.length))) rfl (by kernel_rfl) (by kernel_rfl) (by kernel_rfl) (by kernel_rfl) (fun _ _ _ h => h) (by intro w; first | rfl | (simp [Oper.about, resolve, Target.leads]; done)) (Or.inl ⟨by rfl, ?hy8⟩) hS ?_
          case hy8 => (rintro V ⟨s1, s2, s3, s4, ⟨s5, s6, s7, s8⟩, ⟨t5, t6, t7, t8⟩⟩; go_simp; try with_reducible rfl)
          try simp only [Act.put, List.setIfInBounds_toArray, List.set_cons_zero, List.set_cons_succ]
          refine wpAnyY_take (i := 9) (oi := { dst := some 63, op := Go.Op.load 3 (Go.Operand.tmp 62), type := 3, pos := "law.go:90", after := #[{ on := 8, ground := Go.Ground.data }, { on := 4, ground := Go.Ground.guard }], guard := some (4, false) }) (v := .int .i64 (x.1 : Int)) rfl (by kernel_rfl) (by kernel_rfl) (by kernel_rfl) (by kernel_rfl) (fun _ _ _ h => h) (by intro w; first | rfl | (simp [Oper.about, resolve, Target.leads]; done)) (Or.inl ⟨by rfl, ?hy9⟩) hS ?_
          case hy9 => (rintro V ⟨s1, s2, s3, s4, ⟨s5, s6, s7, s8⟩, ⟨t5, t6, t7, t8⟩⟩; go_simp; try with_reducible rfl)
          try simp only [Act.put, List.setIfInBounds_toArray, List.set_cons_zero, List.set_cons_succ]
          refine wpAnyY_take (i := 10) (oi := { dst := some 64, op := Go.Op.binOp Go.BinOp.neq 3 (Go.Operand.tmp 59) (Go.Operand.tmp 63) 3, type := 4, pos := "law.go:90", after := #[{ on := 5, ground := Go.Ground.data }, { on := 9, ground := Go.Ground.data }, { on := 4, ground := Go.Ground.guard }], guard := some (4, false) }) (v := .bool false) rfl (by kernel_rfl) (by kernel_rfl) (by kernel_rfl) (by kernel_rfl) (fun _ _ _ h => h) (by intro w; first | rfl | (simp [Oper.about, resolve, Target.leads]; done)) (Or.inl ⟨by rfl, ?hy10⟩) hS ?_
          case hy10 => (rintro V ⟨s1, s2, s3, s4, ⟨s5, s6, s7, s8⟩, ⟨t5, t6, t7, t8⟩⟩; go_simp; try with_reducible rfl)
          try simp only [Act.put, List.setIfInBounds_toArray, List.set_cons_zero, List.set_cons_succ]
          refine wpAnyY_take (i := 11) (oi := { dst := some 65, op := Go.Op.pick (Go.Operand.tmp 58) (Go.Operand.const (Go.Value.bool true)) (Go.Operand.tmp 64), type := 4, pos := "law.go:90", after := #[{ on := 4, ground := Go.Ground.data }, { on := 10, ground := Go.Ground.data }], guard := none }) (v := .bool false) rfl (by kernel_rfl) (by kernel_rfl) (by kernel_rfl) (by kernel_rfl) (fun _ _ _ h => h) (by intro w; first | rfl | (simp [Oper.about, resolve, Target.leads]; done)) (Or.inl ⟨by rfl, ?hy11⟩) hS ?_
          case hy11 => (rintro V ⟨s1, s2, s3, s4, ⟨s5, s6, s7, s8⟩, ⟨t5, t6, t7, t8⟩⟩; go_simp; try with_reducible rfl)
          try simp only [Act.put, List.setIfInBounds_toArray, List.set_cons_zero, List.set_cons_succ]
          refine wpAnyY_take (i := 12) (oi := { dst := some 66, op := Go.Op.move (Go.Operand.tmp 65), type := 4, pos := "law.go:90", after := #[{ on := 11, ground := Go.Ground.data }, { on := 4, ground := Go.Ground.chain }], guard := none }) (v := .bool false) rfl (by kernel_rfl) (by kernel_rfl) (by kernel_rfl) (by kernel_rfl) (fun _ _ _ h => h) (by intro w; first | rfl | (simp [Oper.about, resolve, Target.leads]; done)) (Or.inl ⟨by rfl, ?hy12⟩) hS ?_
          case hy12 => (rintro V ⟨s1, s2, s3, s4, ⟨s5, s6, s7, s8⟩, ⟨t5, t6, t7, t8⟩⟩; go_simp; try with_reducible rfl)
          try simp only [Act.put, List.setIfInBounds_toArray, List.set_cons_zero, List.set_cons_succ]
          refine wpAnyY_take (i := 13) (oi := { dst := some 67, op := Go.Op.load 42 (Go.Operand.tmp 14), type := 42, pos := "law.go:90", after := #[{ on := 12, ground := Go.Ground.guard }], guard := some (12, false) }) (v := .agg #[.int .i64 x.2.k, .int .i64 x.2.i, .int .u64 x.2.u, .string x.2.s]) rfl (by kernel_rfl) (by kernel_rfl) (by kernel_rfl) (by kernel_rfl) (fun _ _ _ h => h) (by intro w; first | rfl | (simp [Oper.about, resolve, Target.leads]; done)) (Or.inl ⟨by rfl, ?hy13⟩) hS ?_
          case hy13 => (rintro V ⟨s1, s2, s3, s4, ⟨s5, s6, s7, s8⟩, ⟨t5, t6, t7, t8⟩⟩; go_simp; try with_reducible rfl)
          try simp only [Act.put, List.setIfInBounds_toArray, List.set_cons_zero, List.set_cons_succ]
          refine wpAnyY_take (i := 14) (oi := { dst := some 68, op := Go.Op.load 22 (Go.Operand.tmp 6), type := 22, pos := "law.go:90", after := #[{ on := 12, ground := Go.Ground.guard }], guard := some (12, false) }) (v := .slice (some a6) E.length c6) rfl (by kernel_rfl) (by kernel_rfl) (by kernel_rfl) (by kernel_rfl) (fun _ _ _ h => h) (by intro w; first | rfl | (simp [Oper.about, resolve, Target.leads]; done)) (Or.inl ⟨by rfl, ?hy14⟩) hS ?_
          case hy14 => (rintro V ⟨s1, s2, s3, s4, ⟨s5, s6, s7, s8⟩, ⟨t5, t6, t7, t8⟩⟩; go_simp; try with_reducible rfl)
          try simp only [Act.put, List.setIfInBounds_toArray, List.set_cons_zero, List.set_cons_succ]
          refine wpAnyY_take (i := 15) (oi := { dst := some 69, op := Go.Op.load 3 (Go.Operand.tmp 12), type := 3, pos := "law.go:90", after := #[{ on := 12, ground := Go.Ground.guard }], guard := some (12, false) }) (v := .int .i64 (pre.length : Int)) rfl (by kernel_rfl) (by kernel_rfl) (by kernel_rfl) (by kernel_rfl) (fun _ _ _ h => h) (by intro w; first | rfl | (simp [Oper.about, resolve, Target.leads]; done)) (Or.inl ⟨by rfl, ?hy15⟩) hS ?_
          case hy15 => (rintro V ⟨s1, s2, s3, s4, ⟨s5, s6, s7, s8⟩, ⟨t5, t6, t7, t8⟩⟩; go_simp; try with_reducible rfl)
          try simp only [Act.put, List.setIfInBounds_toArray, List.set_cons_zero, List.set_cons_succ]
          refine wpAnyY_take (i := 16) (oi := { dst := some 70, op := Go.Op.indexAddr 22 (Go.Operand.tmp 68) (Go.Operand.tmp 69), type := 0, pos := "law.go:90", after := #[{ on := 14, ground := Go.Ground.data }, { on := 15, ground := Go.Ground.data }, { on := 12, ground := Go.Ground.guard }], guard := some (12, false) }) (v := .pointer (some (a6.add (pre.length * 4)))) rfl (by kernel_rfl) (by kernel_rfl) (by kernel_rfl) (by kernel_rfl) (fun _ _ _ h => h) (by intro w; first | rfl | (simp [Oper.about, resolve, Target.leads]; done)) (Or.inl ⟨by rfl, ?hy16⟩) hS ?_
          case hy16 => (rintro V ⟨s1, s2, s3, s4, ⟨s5, s6, s7, s8⟩, ⟨t5, t6, t7, t8⟩⟩; go_simp; try with_reducible rfl)
          try simp only [Act.put, List.setIfInBounds_toArray, List.set_cons_zero, List.set_cons_succ]
          refine wpAnyY_take (i := 17) (oi := { dst := some 71, op := Go.Op.load 42 (Go.Operand.tmp 70), type := 42, pos := "law.go:90", after := #[{ on := 16, ground := Go.Ground.data }, { on := 12, ground := Go.Ground.guard }], guard := some (12, false) }) (v := .agg #[.int .i64 x.2.k, .int .i64 x.2.i, .int .u64 x.2.u, .string x.2.s]) rfl (by kernel_rfl) (by kernel_rfl) (by kernel_rfl) (by kernel_rfl) (fun _ _ _ h => h) (by intro w; first | rfl | (simp [Oper.about, resolve, Target.leads]; done)) (Or.inl ⟨by rfl, ?hy17⟩) hS ?_
          case hy17 => (rintro V ⟨s1, s2, s3, s4, ⟨s5, s6, s7, s8⟩, ⟨t5, t6, t7, t8⟩⟩; go_simp; try with_reducible rfl)
          try simp only [Act.put, List.setIfInBounds_toArray, List.set_cons_zero, List.set_cons_succ]
          refine wpAnyY_take (i := 18) (oi := { dst := some 72, op := Go.Op.binOp Go.BinOp.neq 42 (Go.Operand.tmp 67) (Go.Operand.tmp 71) 42, type := 4, pos := "law.go:90", after := #[{ on := 13, ground := Go.Ground.data }, { on := 17, ground := Go.Ground.data }, { on := 12, ground := Go.Ground.guard }], guard := some (12, false) }) (v := .bool false) rfl (by kernel_rfl) (by kernel_rfl) (by kernel_rfl) (by kernel_rfl) (fun _ _ _ h => h) (by intro w; first | rfl | (simp [Oper.about, resolve, Target.leads]; done)) (Or.inl ⟨by rfl, ?hy18⟩) hS ?_
          case hy18 => (rintro V ⟨s1, s2, s3, s4, ⟨s5, s6, s7, s8⟩, ⟨t5, t6, t7, t8⟩⟩; go_simp; try with_reducible rfl)
          try simp only [Act.put, List.setIfInBounds_toArray, List.set_cons_zero, List.set_cons_succ]
          refine wpAnyY_take (i := 19) (oi := { dst := some 73, op := Go.Op.pick (Go.Operand.tmp 66) (Go.Operand.const (Go.Value.bool true)) (Go.Operand.tmp 72), type := 4, pos := "law.go:90", after := #[{ on := 12, ground := Go.Ground.data }, { on := 18, ground := Go.Ground.data }], guard := none }) (v := .bool false) rfl (by kernel_rfl) (by kernel_rfl) (by kernel_rfl) (by kernel_rfl) (fun _ _ _ h => h) (by intro w; first | rfl | (simp [Oper.about, resolve, Target.leads]; done)) (Or.inl ⟨by rfl, ?hy19⟩) hS ?_
          case hy19 => (rintro V ⟨s1, s2, s3, s4, ⟨s5, s6, s7, s8⟩, ⟨t5, t6, t7, t8⟩⟩; go_simp; try with_reducible rfl)
          try simp only [Act.put, List.setIfInBounds_toArray, List.set_cons_zero, List.set_cons_succ]
          refine wpAnyY_done (by kernel_rfl) ?_ _
          gi_wp2_with fail
          exact ⟨(by first | exact hKW.setCell (p := ⟨Wa.heap.size + 1, 0, none⟩) (show Wa.heap.size + 1 < _ by omega) (fun h => h.elim) _ | exact hKX.setCell (p := ⟨Wa.heap.size + 1, 0, none⟩) (show Wa.heap.size + 1 < _ by omega) (fun h => h.elim) _), by rw [HLEN.out]; exact HEIB.out.next (by omega), trivial⟩
        case done1 =>
          rintro xs Wb hxs ⟨hei, _⟩ hD
          rw [hxs] at hei
          clear hxs xs
          have hsz := HB1.out.size
          have up : ∀ p : Addr, p.block < w2.heap.size → Wb.cell? p = w2.cell? p := fun p hp => (hei.cell (by omega) (by omega)).trans (HB1.out.cell hp)
          have g4 : Wb.cell? ⟨w.heap.size, 0, none⟩ = some (.int .i64 many) := (up _ (by have := HS2.out.size; simp; omega)).trans HS2.out.many
          have g6 : Wb.cell? ⟨w.heap.size + 1 + 1 + 1, 0, none⟩ = some v6 := (up _ (by have := HS2.out.size; simp; omega)).trans HS2.out.at6
          have g12 : Wb.cell? ⟨Wa.heap.size, 0, none⟩ = some (.int .i64 1) := (hei.cell (by simp; omega) (by simp)).trans HT1.out
          have g13 := hei.at13
          obtain ⟨a6, c6, e6⟩ := row_sliceV HS2.out.r6
          rw [show (kl6 E).length = E.length by simp [kl6]] at e6
          rw [e6] at g6
          clear e6
          have HEIb := Lib.hid hei
          have HDb := Lib.hid hD
          have hne : ((E.length : Int) != (E.length : Int)) = false := by simp
          clear up hei hD
          go_wp2_with fail
          rw [rounds_succ]
          go_wp2_with fail
          have HUPb := Lib.hid (HEIb.out.up HS2.out.below HB1.out (by omega))
          refine (HW.out (Wb.alloc (.cells #[.int .i64 2] 3)) (HEIb.out.below.alloc (by have := HEIb.out.size; omega) _)).mono ?_
          rintro e w9 ⟨rfl, hb9⟩
          have HB9 := Lib.hid ((HUPb.out.alloc HUPb.out.size (.cells #[.int .i64 2] 3)).trans (hb9.mono (by have := HUPb.out.size; simp; omega)))
          have r0 : w9.cell? ⟨w.heap.size + 1, 0, none⟩ = some (.bool false) := by rw [HB9.out.cell (by have := HS2.out.size; simp; omega)]; exact HS2.out.res
          have r0F : w9.frozen? ⟨w.heap.size + 1, 0, none⟩ = false := by rw [HB9.out.frozen (by have := HS2.out.size; simp; omega)]; exact HS2.out.resF
          have hlb := (Array.getElem?_eq_some_iff.1 HDb.out).1
          have hla := (Array.getElem?_eq_some_iff.1 HD4.out).1
          have hl3 := (Array.getElem?_eq_some_iff.1 HD.out).1
          have D1 : w9.heap[W4.heap.size]? = some (.deferred (some [])) := (hb9.block _ (by simp; omega)).trans ((Below.heap_alloc _ _ _ hlb).trans HDb.out)
          have D0 : w9.heap[W3.heap.size]? = some (.deferred (some [])) := (hb9.block _ (by have := HEIb.out.size; simp; omega)).trans ((Below.heap_alloc _ _ _ (by have := HEIb.out.size; omega)).trans ((HEIb.out.same _ hla (by omega)).trans HD4.out))
          have HD1 := Lib.hid D1
          have HD0 := Lib.hid D0
          clear hb9 D1 D0
          go_wp2_with fail
          have e1 : (w9.setCell ⟨w.heap.size + 1, 0, none⟩ (.bool true)).heap[W4.heap.size]? = some (.deferred (some [])) := (Below.heap_setCell _ _ _ _ (by simp; omega)).trans HD1.out
          have e0 : (w9.setCell ⟨w.heap.size + 1, 0, none⟩ (.bool true)).heap[W3.heap.size]? = some (.deferred (some [])) := (Below.heap_setCell _ _ _ _ (by simp; omega)).trans HD0.out
          rw [hz4] at e1
          rw [hz3] at e0
          refine ⟨by simp, .inl ⟨_, _, rfl, run_takeDeferred e1, ?_⟩⟩
          have e2 : ((w9.setCell ⟨w.heap.size + 1, 0, none⟩ (.bool true)).putObj (Wa.heap.size + 1 + 1) (.deferred none)).heap[w2.heap.size + 1 + 1]? = some (.deferred (some [])) := (World.putObj_heap_other (by omega)).trans e0
          refine ⟨by simp, .inl ⟨_, _, rfl, run_takeDeferred e2, ?_⟩⟩
          have hcell : (((w9.setCell ⟨w.heap.size + 1, 0, none⟩ (.bool true)).putObj (Wa.heap.size + 1 + 1) (.deferred none)).putObj (w2.heap.size + 1 + 1) (.deferred none)).cell? ⟨w.heap.size + 1, 0, none⟩ = some (.bool true) := cell_put (cell_put (World.cell?_setCell_same' _ _ _ (by rw [r0]; rfl)) e1 _) e2 _
          exact ⟨.bool true, by simp [results, Tryz.results5, go_sem, hcell], rfl, below_putC (below_putC ((HS2.out.below.trans (HB9.out.mono hzw2)).setCell (p := ⟨w.heap.size + 1, 0, none⟩) (by simp) _) (by omega) _) (by omega) _⟩
        case stop1 =>
          intro c pre W _ hix
          exact hix.elim
    | some x =>
      obtain ⟨m, k⟩ := x
      have hk := readKey_lt hr
      rw [List.length_drop, Array.length_toList] at hk
      obtain ⟨hk1, hk2⟩ := hk
      have hk2' : i + k ≤ s.size := by have h3 : k ≤ s.size - i := hk2; omega
      have hk0 : ((k : Int) == 0) = false := by rw [beq_eq_false_iff_ne]; omega
      rw [hr] at HC0
      unfold KRPost keyRes at HC0
      have HN := Lib.hid (EA_next HP.out hr)
      clear hr hk2
      go_wp2_with fail
      refine (HC0.out _).mono ?_
      rintro e w1 ⟨rfl, hb1⟩
      have HS' := Lib.hid ((HS.out.keep hb1).alloc (vObj m))
      have hd8 : ValAt (w1.alloc (vObj m)) ⟨w1.heap.size, 0, none⟩ m := litV0 w1 m
      have HNE0 := Lib.hid (And.intro (row_neK (HS.out.keep hb1).r5 (Nat.le_refl w1.heap.size)) (row_neK (HS.out.keep hb1).r6 (Nat.le_refl w1.heap.size)))
      clear hb1 HS
      have HS := HS'
      clear HS'
      have HNE5 := Lib.hid (HNE0.out.1)
      have HNE6 := Lib.hid (HNE0.out.2)
      obtain ⟨wq, hwr⟩ : ∃ wq, w1.alloc (vObj m) = wq := ⟨_, rfl⟩
      rw [hwr] at HS hd8
      obtain ⟨x0, x1, x2, x3⟩ := hd8
      have hd8 : ValAt wq ⟨w1.heap.size, 0, none⟩ m := ⟨x0, x1, x2, x3⟩
      have hz8 : w1.heap.size < wq.heap.size := hd8.lt
      have hd8a : ∀ o, ValAt (wq.alloc o) ⟨w1.heap.size, 0, none⟩ m := fun o => hd8.keep ((Below.refl _ _).alloc (Nat.le_refl _) o) (Nat.le_refl _)
      have hd8b : ∀ o o', ValAt ((wq.alloc o).alloc o') ⟨w1.heap.size, 0, none⟩ m := fun o o' => hd8.keep (((Below.refl _ _).alloc (Nat.le_refl _) o).alloc (by simp) o') (Nat.le_refl _)
      have hd8e : ∀ o, ValAt (wq.drew.alloc o) ⟨w1.heap.size, 0, none⟩ m := fun o => hd8.keep ((Below.refl _ wq).drew.alloc (Nat.le_refl _) o) (Nat.le_refl _)
      have hd8f : ∀ o o', ValAt ((wq.drew.alloc o).alloc o') ⟨w1.heap.size, 0, none⟩ m := fun o o' => hd8.keep (((Below.refl _ wq).drew.alloc (Nat.le_refl _) o).alloc (by simp) o') (Nat.le_refl _)
      have hd8g : ∀ o o', ValAt ((wq.alloc o).drew.alloc o') ⟨w1.heap.size, 0, none⟩ m := fun o o' => hd8.keep (((Below.refl _ wq).alloc (Nat.le_refl _) o).drew.alloc (by simp) o') (Nat.le_refl _)
      have hd8h : ∀ o o', ValAt ((wq.alloc o).alloc o').drew ⟨w1.heap.size, 0, none⟩ m := hd8b
      have h5 : wq.cell? ⟨w.heap.size + 1 + 1, 0, none⟩ = some v5 := HS.out.at5
      have h6 : wq.cell? ⟨w.heap.size + 1 + 1 + 1, 0, none⟩ = some v6 := HS.out.at6
      have g5 : wq.frozen? ⟨w.heap.size + 1 + 1, 0, none⟩ = false := HS.out.at5F
      have g6 : wq.frozen? ⟨w.heap.size + 1 + 1 + 1, 0, none⟩ = false := HS.out.at6F
      have hz : w.heap.size + 1 + 1 + 1 < wq.heap.size := HS.out.size
      have h5b : ∀ o, (wq.alloc o).cell? ⟨w.heap.size + 1 + 1, 0, none⟩ = some v5 := fun o => (HS.out.alloc o).at5
      have h6b : ∀ o, (wq.alloc o).cell? ⟨w.heap.size + 1 + 1 + 1, 0, none⟩ = some v6 := fun o => (HS.out.alloc o).at6
      have h5c : ∀ o o', ((wq.alloc o).alloc o').cell? ⟨w.heap.size + 1 + 1, 0, none⟩ = some v5 := fun o o' => ((HS.out.alloc o).alloc o').at5
      have h6c : ∀ o o', ((wq.alloc o).alloc o').cell? ⟨w.heap.size + 1 + 1 + 1, 0, none⟩ = some v6 := fun o o' => ((HS.out.alloc o).alloc o').at6
      go_upto_region 9 with fail
      have hpl : pre.length ≤ 2400 := by have h := congrArg List.length HP.out; have h2 := EL_len s; rw [List.length_append] at h; omega
      have hl5 : (kl5 pre).length ≤ 2400 := by simp [kl5]; omega
      have hl6 : (kl6 pre).length ≤ 2400 := by simp [kl6]; omega
      have HL5 := Lib.hid (kl5_snoc pre i m)
      have HL6 := Lib.hid (kl6_snoc pre i m)
      go_cut [7, 9] from 19 to 42 (fun s7 s9 wx => ∃ q5 q6, s7 = .int .i64 i ∧ s9 = .int .i64 k ∧ Hid (StK w many wx q5 q6 q5 q6 (kl5 (pre ++ [(i, m)])) (kl6 (pre ++ [(i, m)]))))
      case first =>
        refine wp_region_noPanic ?_
        have HSq := HS.out.drew
        have hdq : ValAt wq.drew ⟨w1.heap.size, 0, none⟩ m := hd8
        have n85 : some w1.heap.size ≠ v5.ownBlock := HNE5.out
        have n86 : some w1.heap.size ≠ v6.ownBlock := HNE6.out
        have N5 : ∀ (W' : World) {c5 c6 u6 : Value} {l6 : List Vl} , StK w many W' c5 c6 v5 u6 (kl5 pre) l6 → some W'.heap.size ≠ v5.ownBlock := fun W' _ _ _ _ h => row_neK h.r5 (Nat.le_refl _)
        clear hd8 hd8a hd8b hd8e hd8f hd8g hd8h HS h5 h6 g5 g6 hz h5b h6b h5c h6c HNE5 HNE6 HNE0 x0 x1 x2 x3 hz8
        obtain ⟨W, hW⟩ : ∃ W, wq.drew = W := ⟨_, rfl⟩
        refine wp_region_X (S := fun W => W.cell? ⟨w.heap.size + 1 + 1, 0, none⟩ = some v5 ∧ W.cell? ⟨w.heap.size + 1 + 1 + 1, 0, none⟩ = some v6 ∧ ValAt W ⟨w1.heap.size, 0, none⟩ m) (X := [8, 9]) (by kernel_rfl) ?_
        rw [hW] at HSq hdq
        rw [hW]
        clear hW hwr
        have HS := HSq
        have hd8 := hdq
        clear HSq hdq
        have hS : (fun W => W.cell? ⟨w.heap.size + 1 + 1, 0, none⟩ = some v5 ∧ W.cell? ⟨w.heap.size + 1 + 1 + 1, 0, none⟩ = some v6 ∧ ValAt W ⟨w1.heap.size, 0, none⟩ m) W := ⟨HS.at5, HS.at6, hd8⟩
        have HCL := Region.closed_none (md := .any) (ops := #[{ dst := some 32, op := Go.Op.load 38 (Go.Operand.tmp 5), type := 38, pos := "law.go:80", after := #[], guard := none }, { dst := some 33, op := Go.Op.move (Go.Operand.tmp 7), type := 3, pos := "law.go:80", after := #[], guard := none }, { dst := some 34, op := Go.Op.buildSlice 38 1 #[(0, Go.Operand.tmp 33)], type := 38, pos := "law.go:80", after := #[{ on := 1, ground := Go.Ground.data }], guard := none }, { dst := some 35, op := Go.Op.call { callee := Go.Callee.builtin Go.Builtin.append, args := #[Go.Operand.tmp 32, Go.Operand.tmp 34], argTypes := #[38, 38] }, type := 38, pos := "law.go:80", after := #[{ on := 0, ground := Go.Ground.data }, { on := 2, ground := Go.Ground.data }], guard := none }, { dst := some 36, op := Go.Op.load 22 (Go.Operand.tmp 6), type := 22, pos := "law.go:80", after := #[], guard := none }, { dst := some 37, op := Go.Op.load 42 (Go.Operand.tmp 8), type := 42, pos := "law.go:80", after := #[], guard := none }, { dst := some 38, op := Go.Op.buildSlice 22 1 #[(0, Go.Operand.tmp 37)], type := 22, pos := "law.go:80", after := #[{ on := 5, ground := Go.Ground.data }], guard := none }, { dst := some 39, op := Go.Op.call { callee := Go.Callee.builtin Go.Builtin.append, args := #[Go.Operand.tmp 36, Go.Operand.tmp 38], argTypes := #[22, 22] }, type := 22, pos := "law.go:80", after := #[{ on := 4, ground := Go.Ground.data }, { on := 6, ground := Go.Ground.data }, { on := 3, ground := Go.Ground.chain }], guard := none }, { dst := none, op := Go.Op.store 38 (Go.Operand.tmp 5) (Go.Operand.tmp 35), type := 0, pos := "law.go:80", after := #[{ on := 3, ground := Go.Ground.data }, { on := 7, ground := Go.Ground.chain }, { on := 0, ground := Go.Ground.phase }, { on := 1, ground := Go.Ground.phase }, { on := 2, ground := Go.Ground.phase }, { on := 3, ground := Go.Ground.phase }, { on := 4, ground := Go.Ground.textOnly Go.Departure.inlinedCapture }, { on := 5, ground := Go.Ground.textOnly Go.Departure.lateStores }, { on := 6, ground := Go.Ground.textOnly Go.Departure.inlinedCapture }, { on := 7, ground := Go.Ground.textOnly Go.Departure.lateStoresUnsure }], guard := none }, { dst := none, op := Go.Op.store 22 (Go.Operand.tmp 6) (Go.Operand.tmp 39), type := 0, pos := "law.go:80", after := #[{ on := 7, ground := Go.Ground.data }, { on := 8, ground := Go.Ground.chain }, { on := 0, ground := Go.Ground.phase }, { on := 1, ground := Go.Ground.phase }, { on := 2, ground := Go.Ground.phase }, { on := 3, ground := Go.Ground.phase }, { on := 4, ground := Go.Ground.phase }, { on := 5, ground := Go.Ground.phase }, { on := 6, ground := Go.Ground.phase }, { on := 7, ground := Go.Ground.phase }, { on := 8, ground := Go.Ground.phase }], guard := none }]) 10
        refine wpAnyX_take (i := 1) (oi := { dst := some 33, op := Go.Op.move (Go.Operand.tmp 7), type := 3, pos := "law.go:80", after := #[], guard := none }) (v := .int .i64 (i : Int)) rfl (by kernel_rfl) (by kernel_rfl) (by kernel_rfl) (fun _ _ _ h => h) (Region.waits_all (by kernel_rfl)) HCL (Or.inl ⟨by rfl, ?hy1⟩) hS (fun HCL2 => ?rest1)
        case hy1 => (rintro W ⟨e5, e6, e0, e1, e2, e3⟩; go_simp; try with_reducible rfl)
        clear HCL
        have HCL := HCL2
        clear HCL2
        try simp only [Act.put, List.setIfInBounds_toArray, List.set_cons_zero, List.set_cons_succ]
        refine wpAnyX_take (i := 0) (oi := { dst := some 32, op := Go.Op.load 38 (Go.Operand.tmp 5), type := 38, pos := "law.go:80", after := #[], guard := none }) (v := v5) rfl (by kernel_rfl) (by kernel_rfl) (by kernel_rfl) (fun _ _ _ h => h) (Region.waits_all (by kernel_rfl)) HCL (Or.inl ⟨by rfl, ?hy0⟩) hS (fun HCL2 => ?rest0)
        case hy0 => (rintro W ⟨e5, e6, e0, e1, e2, e3⟩; go_simp; try with_reducible rfl)
        clear HCL
        have HCL := HCL2
        clear HCL2
        try simp only [Act.put, List.setIfInBounds_toArray, List.set_cons_zero, List.set_cons_succ]
        refine wpAnyX_take (i := 4) (oi := { dst := some 36, op := Go.Op.load 22 (Go.Operand.tmp 6), type := 22, pos := "law.go:80", after := #[], guard := none }) (v := v6) rfl (by kernel_rfl) (by kernel_rfl) (by kernel_rfl) (fun _ _ _ h => h) (Region.waits_all (by kernel_rfl)) HCL (Or.inl ⟨by rfl, ?hy4⟩) hS (fun HCL2 => ?rest4)
        case hy4 => (rintro W ⟨e5, e6, e0, e1, e2, e3⟩; go_simp; try with_reducible rfl)
        clear HCL
        have HCL := HCL2
        clear HCL2
        try simp only [Act.put, List.setIfInBounds_toArray, List.set_cons_zero, List.set_cons_succ]
        refine wpAnyX_take (i := 5) (oi := { dst := some 37, op := Go.Op.load 42 (Go.Operand.tmp 8), type := 42, pos := "law.go:80", after := #[], guard := none }) (v := .agg #[.int .i64 m.k, .int .i64 m.i, .int .u64 m.u, .string m.s]) rfl (by kernel_rfl) (by kernel_rfl) (by kernel_rfl) (fun _ _ _ h => h) (Region.waits_all (by kernel_rfl)) HCL (Or.inl ⟨by rfl, ?hy5⟩) hS (fun HCL2 => ?rest5)
        case hy5 => (rintro W ⟨e5, e6, e0, e1, e2, e3⟩; go_simp; try with_reducible rfl)
        clear HCL
        have HCL := HCL2
        clear HCL2
        try simp only [Act.put, List.setIfInBounds_toArray, List.set_cons_zero, List.set_cons_succ]
        clear hS HCL
        refine wpAnyX_pair (i := 2) (k := 6) (o := { dst := some 34, op := Go.Op.buildSlice 38 1 #[(0, Go.Operand.tmp 33)], type := 38, pos := "law.go:80", after := #[{ on := 1, ground := Go.Ground.data }], guard := none }) (o2 := { dst := some 38, op := Go.Op.buildSlice 22 1 #[(0, Go.Operand.tmp 37)], type := 22, pos := "law.go:80", after := #[{ on := 5, ground := Go.Ground.data }], guard := none }) (by kernel_rfl) rfl rfl (fun K hK => ?_) (fun K hK => ?_)
        · go_simp
          refine hK.out _ _ (fun _ => ⟨(HS.alloc _).at5, (HS.alloc _).at6, hd8.keep ((Below.refl _ _).alloc (Nat.le_refl _) _) (Nat.le_refl _)⟩) ?_
          clear hK K
          try simp only [Act.put, List.setIfInBounds_toArray, List.set_cons_zero, List.set_cons_succ]
          have hl5 := litI0 W (.int .i64 (i : Int)) 3
          have HS2 := HS.alloc (.cells #[.int .i64 (i : Int)] 3)
          have hd82 := hd8.keep ((Below.refl _ W).alloc (Nat.le_refl _) (.cells #[.int .i64 (i : Int)] 3)) (Nat.le_refl _)
          have m56 : some W.heap.size ≠ v6.ownBlock := row_neK HS.r6 (Nat.le_refl _)
          clear HS hd8
          obtain ⟨p5, hp5⟩ : ∃ p5, W.heap.size = p5 := ⟨_, rfl⟩
          obtain ⟨W, hW2⟩ : ∃ W2, W.alloc (.cells #[.int .i64 (i : Int)] 3) = W2 := ⟨_, rfl⟩
          rw [hp5] at hl5 m56
          try rw [hp5]
          rw [hW2] at HS2 hd82 hl5
          rw [hW2]
          clear hp5 hW2
          have HS := HS2
          have hd8 := hd82
          clear HS2 hd82
          refine wpAnyX_pair (i := 3) (k := 6) (o := { dst := some 35, op := Go.Op.call { callee := Go.Callee.builtin Go.Builtin.append, args := #[Go.Operand.tmp 32, Go.Operand.tmp 34], argTypes := #[38, 38] }, type := 38, pos := "law.go:80", after := #[{ on := 0, ground := Go.Ground.data }, { on := 2, ground := Go.Ground.data }], guard := none }) (o2 := { dst := some 38, op := Go.Op.buildSlice 22 1 #[(0, Go.Operand.tmp 37)], type := 22, pos := "law.go:80", after := #[{ on := 5, ground := Go.Ground.data }], guard := none }) (by kernel_rfl) rfl rfl (fun K hK => ?_) (fun K hK => ?_)
          · refine step_append_row rfl (.tmp 32) (.tmp 34) 38 rfl (w.heap.size + 4) 3 i3 (.int .i64 0) 1 8 Tryz.underlying38 HI3.out HZ3.out.1 HZ3.out.2.1 HZ3.out.2.2 rfl (by decide) v5 (kl5 pre).length (kl5 pre) ?hs HS.r5 ⟨p5, 0, none⟩ 1 1 [.int .i64 (i : Int)] ?hx rfl (one_cell hl5) (by simp [Value.oneCell']) (by unfold maxLen; omega) (by omega) HS.size ?_
            case hx => (simp [Act.eval]; done)
            case hs => (simp [Act.eval]; done)
            intro v5n W hown hg
            obtain ⟨q5, z5, rfl⟩ := ownsRow_succ hown
            have HS2 := StK.app5 HS hown hg
            have hd82 := valAt_grown hd8 hg n85
            clear HS hd8 hl5
            refine hK.out _ _ (fun _ => ⟨HS2.at5, HS2.at6, hd82⟩) ?_
            clear hK K hown hg
            try simp only [Act.put, List.setIfInBounds_toArray, List.set_cons_zero, List.set_cons_succ]
            have HS := HS2
            have hd8 := hd82
            clear HS2 hd82
            refine wpAnyX_single (i := 6) (o := { dst := some 38, op := Go.Op.buildSlice 22 1 #[(0, Go.Operand.tmp 37)], type := 22, pos := "law.go:80", after := #[{ on := 5, ground := Go.Ground.data }], guard := none }) (by kernel_rfl) rfl (fun K hK => ?_)
            go_simp
            refine hK.out _ _ (fun _ => ⟨(HS.alloc _).at5, (HS.alloc _).at6, hd8.keep ((Below.refl _ _).alloc (Nat.le_refl _) _) (Nat.le_refl _)⟩) ?_
            clear hK K
            try simp only [Act.put, List.setIfInBounds_toArray, List.set_cons_zero, List.set_cons_succ]
            have hl6 := litV0 W m
            have HS2 := HS.alloc (vObj m)
            have hd82 := hd8.keep ((Below.refl _ W).alloc (Nat.le_refl _) (vObj m)) (Nat.le_refl _)
            clear HS hd8
            obtain ⟨p6, hp6⟩ : ∃ p6, W.heap.size = p6 := ⟨_, rfl⟩
            obtain ⟨W, hW2⟩ : ∃ W2, W.alloc (vObj m) = W2 := ⟨_, rfl⟩
            rw [hp6] at hl6
            try rw [hp6]
            rw [hW2] at HS2 hd82 hl6
            rw [hW2]
            clear hp6 hW2
            have HS := HS2
            have hd8 := hd82
            clear HS2 hd82
            refine wpAnyX_single (i := 7) (o := { dst := some 39, op := Go.Op.call { callee := Go.Callee.builtin Go.Builtin.append, args := #[Go.Operand.tmp 36, Go.Operand.tmp 38], argTypes := #[22, 22] }, type := 22, pos := "law.go:80", after := #[{ on := 4, ground := Go.Ground.data }, { on := 6, ground := Go.Ground.data }, { on := 3, ground := Go.Ground.chain }], guard := none }) (by kernel_rfl) rfl (fun K hK => ?_)
            refine step_append_row rfl (.tmp 36) (.tmp 38) 22 rfl (w.heap.size + 4) 42 i6 (.agg #[.int .i64 0, .int .i64 0, .int .u64 0, .string ⟨#[]⟩]) 4 40 Tryz.underlying22 HI6.out HZ6.out.1 HZ6.out.2.1 HZ6.out.2.2 rfl (by decide) v6 (kl6 pre).length (vcellsK (kl6 pre)) ?hs HS.r6 ⟨p6, 0, none⟩ 1 1 (vc4K m) ?hx rfl (four_cells hl6) (vc4_one m) (by unfold maxLen; omega) (by omega) HS.size ?_
            case hx => (simp [Act.eval]; done)
            case hs => (simp [Act.eval]; done)
            intro v6n W hown hg
            obtain ⟨q6, z6, rfl⟩ := ownsRow_succ hown
            have HS2 := StK.app6 HS (by rw [vcellsK_snoc]; exact hown) hg
            have hd82 := valAt_grown hd8 hg n86
            clear HS hd8 hl6
            refine hK.out _ _ (fun _ => ⟨HS2.at5, HS2.at6, hd82⟩) ?_
            clear hK K hown hg
            try simp only [Act.put, List.setIfInBounds_toArray, List.set_cons_zero, List.set_cons_succ]
            have HS := HS2
            have hd8 := hd82
            clear HS2 hd82
            have h5 : W.cell? ⟨w.heap.size + 1 + 1, 0, none⟩ = some v5 := HS.at5
            have g5 : W.frozen? ⟨w.heap.size + 1 + 1, 0, none⟩ = false := HS.at5F
            refine wpAnyX_single (i := 8) (o := { dst := none, op := Go.Op.store 38 (Go.Operand.tmp 5) (Go.Operand.tmp 35), type := 0, pos := "law.go:80", after := #[{ on := 3, ground := Go.Ground.data }, { on := 7, ground := Go.Ground.chain }, { on := 0, ground := Go.Ground.phase }, { on := 1, ground := Go.Ground.phase }, { on := 2, ground := Go.Ground.phase }, { on := 3, ground := Go.Ground.phase }, { on := 4, ground := Go.Ground.textOnly Go.Departure.inlinedCapture }, { on := 5, ground := Go.Ground.textOnly Go.Departure.lateStores }, { on := 6, ground := Go.Ground.textOnly Go.Departure.inlinedCapture }, { on := 7, ground := Go.Ground.textOnly Go.Departure.lateStoresUnsure }], guard := none }) (by kernel_rfl) rfl (fun K hK => ?_)
            go_simp
            refine hK.out _ _ (fun h => absurd (by decide) h) ?_
            clear hK K h5 g5
            try simp only [Act.put, List.setIfInBounds_toArray, List.set_cons_zero, List.set_cons_succ]
            have HS2 := HS.put5 (.slice (some ⟨q5, 0, none⟩) ((kl5 pre).length + 1) z5)
            obtain ⟨W2, hW2⟩ : ∃ W2, W.setCell ⟨w.heap.size + 2, 0, none⟩ (.slice (some ⟨q5, 0, none⟩) ((kl5 pre).length + 1) z5) = W2 := ⟨_, rfl⟩
            rw [hW2] at HS2
            try rw [hW2]
            clear hW2 HS hd8
            have h6 : W2.cell? ⟨w.heap.size + 1 + 1 + 1, 0, none⟩ = some v6 := HS2.at6
            have g6 : W2.frozen? ⟨w.heap.size + 1 + 1 + 1, 0, none⟩ = false := HS2.at6F
            refine wpAnyX_single (i := 9) (o := { dst := none, op := Go.Op.store 22 (Go.Operand.tmp 6) (Go.Operand.tmp 39), type := 0, pos := "law.go:80", after := #[{ on := 7, ground := Go.Ground.data }, { on := 8, ground := Go.Ground.chain }, { on := 0, ground := Go.Ground.phase }, { on := 1, ground := Go.Ground.phase }, { on := 2, ground := Go.Ground.phase }, { on := 3, ground := Go.Ground.phase }, { on := 4, ground := Go.Ground.phase }, { on := 5, ground := Go.Ground.phase }, { on := 6, ground := Go.Ground.phase }, { on := 7, ground := Go.Ground.phase }, { on := 8, ground := Go.Ground.phase }], guard := none }) (by kernel_rfl) rfl (fun K hK => ?_)
            go_simp
            refine hK.out _ _ (fun h => absurd (by decide) h) ?_
            clear hK K h6 g6
            try simp only [Act.put, List.setIfInBounds_toArray, List.set_cons_zero, List.set_cons_succ]
            have HS := HS2.put6 (.slice (some ⟨q6, 0, none⟩) ((kl6 pre).length + 1) z6)
            refine wpAnyX_done (by kernel_rfl) ?_ _
            refine NoPanic.normal ?_
            go_wp2_with fail
            go_meet
            refine ⟨.slice (some ⟨q5, 0, none⟩) ((kl5 pre).length + 1) z5, .slice (some ⟨q6, 0, none⟩) ((kl6 pre).length + 1) z6, rfl, rfl, Lib.hid ?_⟩
            rw [HL5.out, HL6.out]
            exact HS
          · go_simp
            refine hK.out _ _ (fun _ => ⟨(HS.alloc _).at5, (HS.alloc _).at6, hd8.keep ((Below.refl _ _).alloc (Nat.le_refl _) _) (Nat.le_refl _)⟩) ?_
            clear hK K
            try simp only [Act.put, List.setIfInBounds_toArray, List.set_cons_zero, List.set_cons_succ]
            have hl6 := litV0 W m
            have HS2 := HS.alloc (vObj m)
            have hd82 := hd8.keep ((Below.refl _ W).alloc (Nat.le_refl _) (vObj m)) (Nat.le_refl _)
            have m65 : some W.heap.size ≠ v5.ownBlock := N5 _ HS
            have hl52 : (W.alloc (vObj m)).cell? ⟨p5, 0, none⟩ = some (.int .i64 (i : Int)) := (World.cell?_alloc_lt _ _ _ (World.block_lt_of_cell? W _ hl5)).trans hl5
            clear hl5
            clear HS hd8
            obtain ⟨p6, hp6⟩ : ∃ p6, W.heap.size = p6 := ⟨_, rfl⟩
            obtain ⟨W, hW2⟩ : ∃ W2, W.alloc (vObj m) = W2 := ⟨_, rfl⟩
            rw [hp6] at hl6 m65
            try rw [hp6]
            rw [hW2] at HS2 hd82 hl6 hl52
            rw [hW2]
            clear hp6 hW2
            have HS := HS2
            have hd8 := hd82
            clear HS2 hd82
            have hl5 := hl52
            clear hl52
            refine wpAnyX_single (i := 3) (o := { dst := some 35, op := Go.Op.call { callee := Go.Callee.builtin Go.Builtin.append, args := #[Go.Operand.tmp 32, Go.Operand.tmp 34], argTypes := #[38, 38] }, type := 38, pos := "law.go:80", after := #[{ on := 0, ground := Go.Ground.data }, { on := 2, ground := Go.Ground.data }], guard := none }) (by kernel_rfl) rfl (fun K hK => ?_)
            refine step_append_row rfl (.tmp 32) (.tmp 34) 38 rfl (w.heap.size + 4) 3 i3 (.int .i64 0) 1 8 Tryz.underlying38 HI3.out HZ3.out.1 HZ3.out.2.1 HZ3.out.2.2 rfl (by decide) v5 (kl5 pre).length (kl5 pre) ?hs HS.r5 ⟨p5, 0, none⟩ 1 1 [.int .i64 (i : Int)] ?hx rfl (one_cell hl5) (by simp [Value.oneCell']) (by unfold maxLen; omega) (by omega) HS.size ?_
            case hx => (simp [Act.eval]; done)
            case hs => (simp [Act.eval]; done)
            intro v5n W hown hg
            obtain ⟨q5, z5, rfl⟩ := ownsRow_succ hown
            have HS2 := StK.app5 HS hown hg
            have hd82 := valAt_grown hd8 hg n85
            have hl62 := valAt_grown hl6 hg m65
            clear hl6
            clear HS hd8 hl5
            refine hK.out _ _ (fun _ => ⟨HS2.at5, HS2.at6, hd82⟩) ?_
            clear hK K hown hg
            try simp only [Act.put, List.setIfInBounds_toArray, List.set_cons_zero, List.set_cons_succ]
            have HS := HS2
            have hd8 := hd82
            clear HS2 hd82
            have hl6 := hl62
            clear hl62
            refine wpAnyX_single (i := 7) (o := { dst := some 39, op := Go.Op.call { callee := Go.Callee.builtin Go.Builtin.append, args := #[Go.Operand.tmp 36, Go.Operand.tmp 38], argTypes := #[22, 22] }, type := 22, pos := "law.go:80", after := #[{ on := 4, ground := Go.Ground.data }, { on := 6, ground := Go.Ground.data }, { on := 3, ground := Go.Ground.chain }], guard := none }) (by kernel_rfl) rfl (fun K hK => ?_)
            refine step_append_row rfl (.tmp 36) (.tmp 38) 22 rfl (w.heap.size + 4) 42 i6 (.agg #[.int .i64 0, .int .i64 0, .int .u64 0, .string ⟨#[]⟩]) 4 40 Tryz.underlying22 HI6.out HZ6.out.1 HZ6.out.2.1 HZ6.out.2.2 rfl (by decide) v6 (kl6 pre).length (vcellsK (kl6 pre)) ?hs HS.r6 ⟨p6, 0, none⟩ 1 1 (vc4K m) ?hx rfl (four_cells hl6) (vc4_one m) (by unfold maxLen; omega) (by omega) HS.size ?_
            case hx => (simp [Act.eval]; done)
            case hs => (simp [Act.eval]; done)
            intro v6n W hown hg
            obtain ⟨q6, z6, rfl⟩ := ownsRow_succ hown
            have HS2 := StK.app6 HS (by rw [vcellsK_snoc]; exact hown) hg
            have hd82 := valAt_grown hd8 hg n86
            clear HS hd8 hl6
            refine hK.out _ _ (fun _ => ⟨HS2.at5, HS2.at6, hd82⟩) ?_
            clear hK K hown hg
            try simp only [Act.put, List.setIfInBounds_toArray, List.set_cons_zero, List.set_cons_succ]
            have HS := HS2
            have hd8 := hd82
            clear HS2 hd82
            have h5 : W.cell? ⟨w.heap.size + 1 + 1, 0, none⟩ = some v5 := HS.at5
            have g5 : W.frozen? ⟨w.heap.size + 1 + 1, 0, none⟩ = false := HS.at5F
            refine wpAnyX_single (i := 8) (o := { dst := none, op := Go.Op.store 38 (Go.Operand.tmp 5) (Go.Operand.tmp 35), type := 0, pos := "law.go:80", after := #[{ on := 3, ground := Go.Ground.data }, { on := 7, ground := Go.Ground.chain }, { on := 0, ground := Go.Ground.phase }, { on := 1, ground := Go.Ground.phase }, { on := 2, ground := Go.Ground.phase }, { on := 3, ground := Go.Ground.phase }, { on := 4, ground := Go.Ground.textOnly Go.Departure.inlinedCapture }, { on := 5, ground := Go.Ground.textOnly Go.Departure.lateStores }, { on := 6, ground := Go.Ground.textOnly Go.Departure.inlinedCapture }, { on := 7, ground := Go.Ground.textOnly Go.Departure.lateStoresUnsure }], guard := none }) (by kernel_rfl) rfl (fun K hK => ?_)
            go_simp
            refine hK.out _ _ (fun h => absurd (by decide) h) ?_
            clear hK K h5 g5
            try simp only [Act.put, List.setIfInBounds_toArray, List.set_cons_zero, List.set_cons_succ]
            have HS2 := HS.put5 (.slice (some ⟨q5, 0, none⟩) ((kl5 pre).length + 1) z5)
            obtain ⟨W2, hW2⟩ : ∃ W2, W.setCell ⟨w.heap.size + 2, 0, none⟩ (.slice (some ⟨q5, 0, none⟩) ((kl5 pre).length + 1) z5) = W2 := ⟨_, rfl⟩
            rw [hW2] at HS2
            try rw [hW2]
            clear hW2 HS hd8
            have h6 : W2.cell? ⟨w.heap.size + 1 + 1 + 1, 0, none⟩ = some v6 := HS2.at6
            have g6 : W2.frozen? ⟨w.heap.size + 1 + 1 + 1, 0, none⟩ = false := HS2.at6F
            refine wpAnyX_single (i := 9) (o := { dst := none, op := Go.Op.store 22 (Go.Operand.tmp 6) (Go.Operand.tmp 39), type := 0, pos := "law.go:80", after := #[{ on := 7, ground := Go.Ground.data }, { on := 8, ground := Go.Ground.chain }, { on := 0, ground := Go.Ground.phase }, { on := 1, ground := Go.Ground.phase }, { on := 2, ground := Go.Ground.phase }, { on := 3, ground := Go.Ground.phase }, { on := 4, ground := Go.Ground.phase }, { on := 5, ground := Go.Ground.phase }, { on := 6, ground := Go.Ground.phase }, { on := 7, ground := Go.Ground.phase }, { on := 8, ground := Go.Ground.phase }], guard := none }) (by kernel_rfl) rfl (fun K hK => ?_)
            go_simp
            refine hK.out _ _ (fun h => absurd (by decide) h) ?_
            clear hK K h6 g6
            try simp only [Act.put, List.setIfInBounds_toArray, List.set_cons_zero, List.set_cons_succ]
            have HS := HS2.put6 (.slice (some ⟨q6, 0, none⟩) ((kl6 pre).length + 1) z6)
            refine wpAnyX_done (by kernel_rfl) ?_ _
            refine NoPanic.normal ?_
            go_wp2_with fail
            go_meet
            refine ⟨.slice (some ⟨q5, 0, none⟩) ((kl5 pre).length + 1) z5, .slice (some ⟨q6, 0, none⟩) ((kl6 pre).length + 1) z6, rfl, rfl, Lib.hid ?_⟩
            rw [HL5.out, HL6.out]
            exact HS
        · go_simp
          refine hK.out _ _ (fun _ => ⟨(HS.alloc _).at5, (HS.alloc _).at6, hd8.keep ((Below.refl _ _).alloc (Nat.le_refl _) _) (Nat.le_refl _)⟩) ?_
          clear hK K
          try simp only [Act.put, List.setIfInBounds_toArray, List.set_cons_zero, List.set_cons_succ]
          have hl6 := litV0 W m
          have HS2 := HS.alloc (vObj m)
          have hd82 := hd8.keep ((Below.refl _ W).alloc (Nat.le_refl _) (vObj m)) (Nat.le_refl _)
          have m65 : some W.heap.size ≠ v5.ownBlock := N5 _ HS
          clear HS hd8
          obtain ⟨p6, hp6⟩ : ∃ p6, W.heap.size = p6 := ⟨_, rfl⟩
          obtain ⟨W, hW2⟩ : ∃ W2, W.alloc (vObj m) = W2 := ⟨_, rfl⟩
          rw [hp6] at hl6 m65
          try rw [hp6]
          rw [hW2] at HS2 hd82 hl6
          rw [hW2]
          clear hp6 hW2
          have HS := HS2
          have hd8 := hd82
          clear HS2 hd82
          refine wpAnyX_single (i := 2) (o := { dst := some 34, op := Go.Op.buildSlice 38 1 #[(0, Go.Operand.tmp 33)], type := 38, pos := "law.go:80", after := #[{ on := 1, ground := Go.Ground.data }], guard := none }) (by kernel_rfl) rfl (fun K hK => ?_)
          go_simp
          refine hK.out _ _ (fun _ => ⟨(HS.alloc _).at5, (HS.alloc _).at6, hd8.keep ((Below.refl _ _).alloc (Nat.le_refl _) _) (Nat.le_refl _)⟩) ?_
          clear hK K
          try simp only [Act.put, List.setIfInBounds_toArray, List.set_cons_zero, List.set_cons_succ]
          have hl5 := litI0 W (.int .i64 (i : Int)) 3
          have HS2 := HS.alloc (.cells #[.int .i64 (i : Int)] 3)
          have hd82 := hd8.keep ((Below.refl _ W).alloc (Nat.le_refl _) (.cells #[.int .i64 (i : Int)] 3)) (Nat.le_refl _)
          have m56 : some W.heap.size ≠ v6.ownBlock := row_neK HS.r6 (Nat.le_refl _)
          have hl62 := hl6.keep ((Below.refl _ W).alloc (Nat.le_refl _) (.cells #[.int .i64 (i : Int)] 3)) (Nat.le_refl _)
          clear hl6
          clear HS hd8
          obtain ⟨p5, hp5⟩ : ∃ p5, W.heap.size = p5 := ⟨_, rfl⟩
          obtain ⟨W, hW2⟩ : ∃ W2, W.alloc (.cells #[.int .i64 (i : Int)] 3) = W2 := ⟨_, rfl⟩
          rw [hp5] at hl5 m56
          try rw [hp5]
          rw [hW2] at HS2 hd82 hl5 hl62
          rw [hW2]
          clear hp5 hW2
          have HS := HS2
          have hd8 := hd82
          clear HS2 hd82
          have hl6 := hl62
          clear hl62
          refine wpAnyX_single (i := 3) (o := { dst := some 35, op := Go.Op.call { callee := Go.Callee.builtin Go.Builtin.append, args := #[Go.Operand.tmp 32, Go.Operand.tmp 34], argTypes := #[38, 38] }, type := 38, pos := "law.go:80", after := #[{ on := 0, ground := Go.Ground.data }, { on := 2, ground := Go.Ground.data }], guard := none }) (by kernel_rfl) rfl (fun K hK => ?_)
          refine step_append_row rfl (.tmp 32) (.tmp 34) 38 rfl (w.heap.size + 4) 3 i3 (.int .i64 0) 1 8 Tryz.underlying38 HI3.out HZ3.out.1 HZ3.out.2.1 HZ3.out.2.2 rfl (by decide) v5 (kl5 pre).length (kl5 pre) ?hs HS.r5 ⟨p5, 0, none⟩ 1 1 [.int .i64 (i : Int)] ?hx rfl (one_cell hl5) (by simp [Value.oneCell']) (by unfold maxLen; omega) (by omega) HS.size ?_
          case hx => (simp [Act.eval]; done)
          case hs => (simp [Act.eval]; done)
          intro v5n W hown hg
          obtain ⟨q5, z5, rfl⟩ := ownsRow_succ hown
          have HS2 := StK.app5 HS hown hg
          have hd82 := valAt_grown hd8 hg n85
          have hl62 := valAt_grown hl6 hg m65
          clear hl6
          clear HS hd8 hl5
          refine hK.out _ _ (fun _ => ⟨HS2.at5, HS2.at6, hd82⟩) ?_
          clear hK K hown hg
          try simp only [Act.put, List.setIfInBounds_toArray, List.set_cons_zero, List.set_cons_succ]
          have HS := HS2
          have hd8 := hd82
          clear HS2 hd82
          have hl6 := hl62
          clear hl62
          refine wpAnyX_single (i := 7) (o := { dst := some 39, op := Go.Op.call { callee := Go.Callee.builtin Go.Builtin.append, args := #[Go.Operand.tmp 36, Go.Operand.tmp 38], argTypes := #[22, 22] }, type := 22, pos := "law.go:80", after := #[{ on := 4, ground := Go.Ground.data }, { on := 6, ground := Go.Ground.data }, { on := 3, ground := Go.Ground.chain }], guard := none }) (by kernel_rfl) rfl (fun K hK => ?_)
          refine step_append_row rfl (.tmp 36) (.tmp 38) 22 rfl (w.heap.size + 4) 42 i6 (.agg #[.int .i64 0, .int .i64 0, .int .u64 0, .string ⟨#[]⟩]) 4 40 Tryz.underlying22 HI6.out HZ6.out.1 HZ6.out.2.1 HZ6.out.2.2 rfl (by decide) v6 (kl6 pre).length (vcellsK (kl6 pre)) ?hs HS.r6 ⟨p6, 0, none⟩ 1 1 (vc4K m) ?hx rfl (four_cells hl6) (vc4_one m) (by unfold maxLen; omega) (by omega) HS.size ?_
          case hx => (simp [Act.eval]; done)
          case hs => (simp [Act.eval]; done)
          intro v6n W hown hg
          obtain ⟨q6, z6, rfl⟩ := ownsRow_succ hown
          have HS2 := StK.app6 HS (by rw [vcellsK_snoc]; exact hown) hg
          have hd82 := valAt_grown hd8 hg n86
          clear HS hd8 hl6
          refine hK.out _ _ (fun _ => ⟨HS2.at5, HS2.at6, hd82⟩) ?_
          clear hK K hown hg
          try simp only [Act.put, List.setIfInBounds_toArray, List.set_cons_zero, List.set_cons_succ]
          have HS := HS2
          have hd8 := hd82
          clear HS2 hd82
          have h5 : W.cell? ⟨w.heap.size + 1 + 1, 0, none⟩ = some v5 := HS.at5
          have g5 : W.frozen? ⟨w.heap.size + 1 + 1, 0, none⟩ = false := HS.at5F
          refine wpAnyX_single (i := 8) (o := { dst := none, op := Go.Op.store 38 (Go.Operand.tmp 5) (Go.Operand.tmp 35), type := 0, pos := "law.go:80", after := #[{ on := 3, ground := Go.Ground.data }, { on := 7, ground := Go.Ground.chain }, { on := 0, ground := Go.Ground.phase }, { on := 1, ground := Go.Ground.phase }, { on := 2, ground := Go.Ground.phase }, { on := 3, ground := Go.Ground.phase }, { on := 4, ground := Go.Ground.textOnly Go.Departure.inlinedCapture }, { on := 5, ground := Go.Ground.textOnly Go.Departure.lateStores }, { on := 6, ground := Go.Ground.textOnly Go.Departure.inlinedCapture }, { on := 7, ground := Go.Ground.textOnly Go.Departure.lateStoresUnsure }], guard := none }) (by kernel_rfl) rfl (fun K hK => ?_)
          go_simp
          refine hK.out _ _ (fun h => absurd (by decide) h) ?_
          clear hK K h5 g5
          try simp only [Act.put, List.setIfInBounds_toArray, List.set_cons_zero, List.set_cons_succ]
          have HS2 := HS.put5 (.slice (some ⟨q5, 0, none⟩) ((kl5 pre).length + 1) z5)
          obtain ⟨W2, hW2⟩ : ∃ W2, W.setCell ⟨w.heap.size + 2, 0, none⟩ (.slice (some ⟨q5, 0, none⟩) ((kl5 pre).length + 1) z5) = W2 := ⟨_, rfl⟩
          rw [hW2] at HS2
          try rw [hW2]
          clear hW2 HS hd8
          have h6 : W2.cell? ⟨w.heap.size + 1 + 1 + 1, 0, none⟩ = some v6 := HS2.at6
          have g6 : W2.frozen? ⟨w.heap.size + 1 + 1 + 1, 0, none⟩ = false := HS2.at6F
          refine wpAnyX_single (i := 9) (o := { dst := none, op := Go.Op.store 22 (Go.Operand.tmp 6) (Go.Operand.tmp 39), type := 0, pos := "law.go:80", after := #[{ on := 7, ground := Go.Ground.data }, { on := 8, ground := Go.Ground.chain }, { on := 0, ground := Go.Ground.phase }, { on := 1, ground := Go.Ground.phase }, { on := 2, ground := Go.Ground.phase }, { on := 3, ground := Go.Ground.phase }, { on := 4, ground := Go.Ground.phase }, { on := 5, ground := Go.Ground.phase }, { on := 6, ground := Go.Ground.phase }, { on := 7, ground := Go.Ground.phase }, { on := 8, ground := Go.Ground.phase }], guard := none }) (by kernel_rfl) rfl (fun K hK => ?_)
          go_simp
          refine hK.out _ _ (fun h => absurd (by decide) h) ?_
          clear hK K h6 g6
          try simp only [Act.put, List.setIfInBounds_toArray, List.set_cons_zero, List.set_cons_succ]
          have HS := HS2.put6 (.slice (some ⟨q6, 0, none⟩) ((kl6 pre).length + 1) z6)
          refine wpAnyX_done (by kernel_rfl) ?_ _
          refine NoPanic.normal ?_
          go_wp2_with fail
          go_meet
          refine ⟨.slice (some ⟨q5, 0, none⟩) ((kl5 pre).length + 1) z5, .slice (some ⟨q6, 0, none⟩) ((kl6 pre).length + 1) z6, rfl, rfl, Lib.hid ?_⟩
          rw [HL5.out, HL6.out]
          exact HS
      case rest =>
        obtain ⟨q5, q6, rfl, rfl, HS9⟩ := hcut
        clear h5 h6 g5 g6 hz h5b h6b h5c h6c HS
        go_wp2_with fail
        go_roundw
        case rel => exact ⟨pre ++ [(i, m)], i + k, q5, q6, by go_num, by omega, HN, HS9⟩
        case measure => simp [intOf]; omega
end Go.Proofs.YtcedeipmboekaaaGreatDoor
