/-
  swingbridgelaw01.gone: true of every text, however many of its values are gone over.
-/
import Derived.Test.YtifmfcaaofiboaaGreatDoorVGoneC
import Derived.Test.YtifmfcaaofiboaaGreatDoorRParts
namespace Go.Proofs.YtifmfcaaofiboaaGreatDoor
open Go.RowKit Go.Shelf
attribute [local go_sem] Oper.semAt_some

set_option maxRecDepth 100000 in
set_option maxHeartbeats 8000000 in
theorem gone_any (s : ByteArray) (many mx : Int) (w : World) (hs : s.size ≤ 100000) (hpl : ∀ x ∈ pieW 0 s.data.toList, x.2.length ≤ 800) (hmx : w.cell? ⟨2, 0, none⟩ = some (.int .i64 mx)) (hm0 : -9223372036854775808 ≤ many) (hm1 : many ≤ 9223372036854775807) :
    Calls Tryz.prog 23 #[.string s, .int .i64 many] w fun e w' => e = .returned (.bool true) ∧ Below w.heap.size w w' := by
  have hwm : 2 < w.heap.size := World.block_lt_of_cell? w _ hmx
  have hsl : s.data.toList.length ≤ 100000 := by rw [Array.length_toList]; exact hs
  have HRP : Hid (∀ W, Calls Tryz.prog 25 #[.string s] W fun e w' => ∃ v, e = .returned v ∧ SliceOf w' v (psV s.data.toList) ∧ Below W.heap.size W w') := Lib.hid fun W => rParts_any s W hs (fun b hb => by
    obtain ⟨x, hx, rfl⟩ := List.mem_map.1 hb
    exact hpl x hx)
  have HNUM := Lib.hid (parts_at s.data.toList)
  have HTU := Lib.hid (fun (W : World) (cb : Nat) (h0 : W.cell? ⟨cb, 0, none⟩ = some (.string ⟨s.data.toList.toArray⟩)) (h2 : W.cell? ⟨2, 0, none⟩ = some (.int .i64 mx)) => eachV_turns 5 (by decide) cb s.data.toList hsl hpl mx W h0 h2 (fun k => k = 2) (fun k hk => by have hk' : k = 2 := hk; subst hk'; exact World.block_lt_of_cell? W _ h2) rfl)
  have HPS := Lib.hid (psV_parts s.data.toList)
  have hElen : (partsW (pieW 0 s.data.toList)).length ≤ 100001 := Nat.le_trans (parts_many _) (Nat.le_trans (pieGo_many _ 0 _) (by omega))
  clear hpl hs
  refine (callsIn_wide (n := 6)).1 ?_
  refine callsIn_of_wp_marks Tryz.func23 rfl trivial ?_ rfl
  simp only [Tryz.ntmps23, List.size_toArray, List.length_cons, List.length_nil, Nat.reduceAdd, Nat.reduceSub, Array.replicate_succ, Array.replicate_zero, List.push_toArray, List.append_toArray, List.nil_append, List.cons_append]
  refine wpIn_wide.2 ?_
  go_upto_region 1 with fail
  obtain ⟨W0, hW0⟩ : ∃ W0, (w.alloc (.cells #[.int .i64 many] 3)).alloc (.cells #[.bool false] 4) = W0 := ⟨_, rfl⟩
  have hb0 : Below w.heap.size w W0 := by rw [← hW0]; exact ((Below.refl _ w).alloc (Nat.le_refl _) _).alloc (by simp) _
  have p0 : W0.cell? ⟨w.heap.size, 0, none⟩ = some (.int .i64 many) := by rw [← hW0]; simp [go_sem]
  have p1 : W0.cell? ⟨w.heap.size + 1, 0, none⟩ = some (.bool false) := by rw [← hW0]; simp [go_sem]
  have p1F : W0.frozen? ⟨w.heap.size + 1, 0, none⟩ = false := by rw [← hW0]; simp [go_sem]
  have hz0 : W0.heap.size = w.heap.size + 2 := by rw [← hW0]; simp
  rw [hW0]
  clear hW0
  have P0 := Lib.hid p0
  have P1 := Lib.hid (And.intro p1 p1F)
  have HB0 := Lib.hid hb0
  clear p0 p1 p1F hb0
  go_wp2_with fail
  refine (HRP.out _).mono ?_
  rintro e w1 ⟨v, rfl, hsv, hb1⟩
  rw [← HPS.out] at hsv
  obtain ⟨oa, c6, rfl, hvals⟩ := vals_at hsv
  have hb1z := hb1.size
  have HB1 := Lib.hid hb1
  have HVALS := Lib.hid hvals
  clear hsv hb1 hvals
  generalize hE : partsW (pieW 0 s.data.toList) = E at *
  go_wp2_with fail
  refine (Each_anyV s _).mono ?_
  rintro e w2 ⟨rfl, hcb, hb2⟩
  obtain ⟨wz, hwz⟩ : ∃ wz, w1.alloc (.cells #[.slice oa E.length c6] 26) = wz := ⟨_, rfl⟩
  have HSz : GoS w w1.heap.size many mx oa c6 E wz := by
    have k : Below W0.heap.size W0 wz := by rw [← hwz]; exact HB1.out.alloc hb1z _
    have kc : ∀ {p : Addr} {v : Value}, W0.cell? p = some v → wz.cell? p = some v := fun hc => (k.cell (World.block_lt_of_cell? W0 _ hc)).trans hc
    refine ⟨kc P0.out, kc P1.out.1, (k.frozen (by show w.heap.size + 1 < _; omega)).trans P1.out.2, by rw [← hwz]; simp [go_sem], fun j hj => ?_, kc ((HB0.out.cell (by exact hwm)).trans hmx), HB0.out.trans (k.mono (by omega))⟩
    obtain ⟨a, e, hv⟩ := HVALS.out j hj
    refine ⟨a, e, ?_⟩
    rw [← hwz]
    exact hv.keep ((Below.refl _ w1).alloc (Nat.le_refl _) _) (Nat.le_refl _)
  rw [hwz] at hcb hb2
  try rw [hwz]
  have hz1 : wz.heap.size = w1.heap.size + 1 := by rw [← hwz]; simp
  obtain ⟨cb, hcbe⟩ : ∃ cb, wz.heap.size = cb := ⟨_, rfl⟩
  rw [hcbe] at hcb
  rw [hcbe]
  have HS2 := Lib.hid (HSz.keep hb2)
  have HSEQ := Lib.hid (fun W (h : Below w2.heap.size w2 W) => HTU.out W cb ((h.cell (World.block_lt_of_cell? w2 _ hcb)).trans hcb) ((HS2.out.keep h).mx))
  obtain ⟨b5, hb5⟩ : ∃ b5, w1.heap.size = b5 := ⟨_, rfl⟩
  rw [hb5] at HS2 hz1
  try rw [hb5]
  have hs2 := hb2.size
  have hq1 : w.heap.size + 2 ≤ b5 := by omega
  have hq2 : b5 < w2.heap.size := by omega
  clear HSz hwz hcb hb2 HTU HVALS HB1 HB0 P0 P1 hz0 hz1 hb1z hcbe hb5 hmx HRP HPS hsl hs2
  try rw [hE] at HNUM HSEQ
  try clear hE
  have hnf : ∀ W, (binOp .eql 82 (.func (.func 61) #[] #[.pointer (some ⟨cb, 0, none⟩)]) .nilFunc).run Tryz.prog W = .ok (.bool false) W := fun W => rfl
  have h4 : w2.cell? ⟨w.heap.size, 0, none⟩ = some (.int .i64 many) := HS2.out.many
  go_wp2_with fail
  refine wp_loop_rounds 3 ?_
  rw [rounds_succ]
  go_wp2_with fail
  obtain ⟨W3, hW3⟩ : ∃ W3, (w2.alloc (.cells #[.int .i64 0] 3)).alloc (.cells #[.int .i64 0] 3) = W3 := ⟨_, rfl⟩
  have HB0 : Hid (Below w2.heap.size w2 W3) := Lib.hid (by rw [← hW3]; exact ((Below.refl _ _).alloc (Nat.le_refl _) _).alloc (by simp) _)
  have hz3 : W3.heap.size = w2.heap.size + 1 + 1 := by rw [← hW3]; simp
  have hz13 : w2.heap.size + 1 < W3.heap.size := by omega
  have hzw : w.heap.size ≤ W3.heap.size := by omega
  have hzw2 : w.heap.size ≤ w2.heap.size := by omega
  have HT0 : Hid (W3.cell? ⟨w2.heap.size, 0, none⟩ = some (.int .i64 0)) := Lib.hid (by rw [← hW3]; simp [go_sem])
  have HEI0 : Hid (EC w W3 (w2.heap.size + 1) 0 W3) := Lib.hid ⟨Nat.le_refl _, fun _ _ _ => rfl, HS2.out.below.trans (HB0.out.mono hzw2), by rw [← hW3]; simp [go_sem], by rw [← hW3]; simp [go_sem]⟩
  rw [hW3]
  clear hW3
  refine (wpIn_wide (n := 6)).1 ?_
  refine wpIn_turnsB (F := Fence.wide) (G := (fun k => k = 2)) rfl (by decide) (gf := 61) (lb := #[.pointer (some ⟨cb, 0, none⟩)]) rfl trivial (enters_of Tryz.func61 (by kernel_rfl) rfl)
    (HSEQ.out W3 HB0.out) (fun k hk => by have hk' : k = 2 := hk; omega) (fun x => rfl)
    (fun pre W => EC w W3 (w2.heap.size + 1) pre.length W ∧ (pre = [] ∨ (pre.length : Int) < many))
    (fun c pre W => c = .exit 2 ∧ EC w W3 (w2.heap.size + 1) pre.length W ∧ 1 ≤ pre.length ∧ many ≤ pre.length ∧ (pre.length = 1 ∨ (pre.length : Int) - 1 < many))
    (fun s A A' h hb => ⟨h.1.keep hb hz13 hzw, h.2⟩)
    (fun c s A A' h hb => ⟨h.1, h.2.1.keep hb hz13 hzw, h.2.2⟩)
    ⟨HEI0.out, .inl rfl⟩
    (fun b pre x V => ∃ g, b = ({ tmps := #[Value.string s, Value.int .i64 many, undef, Value.pointer (some { block := w.heap.size, off := 0 }), Value.pointer (some { block := w.heap.size + 1, off := 0 }), Value.pointer (some { block := b5, off := 0 }), Value.func (.func 61) #[] #[Value.pointer (some { block := cb, off := 0 })], Value.pointer (some { block := w2.heap.size, off := 0 }), Value.pointer (some { block := w2.heap.size + 1, off := 0 }), .int .i64 (x.1 : Int), .pointer (some ⟨g, 0, none⟩), Value.string s, Value.slice oa E.length c6, Value.string s, Value.func (.func 61) #[] #[Value.pointer (some { block := cb, off := 0 })], Value.func (.func 61) #[] #[Value.pointer (some { block := cb, off := 0 })], Value.bool false, Value.int .i64 0, Value.bool true, undef, undef, Value.func (.func 61) #[] #[Value.pointer (some { block := cb, off := 0 })], .int .i64 (x.1 : Int), .agg #[.int .i64 x.2.k, .int .i64 x.2.i, .int .u64 x.2.u, .string x.2.s], undef, undef, undef, undef, undef, undef, undef, undef, undef, undef, undef, undef, undef, undef, undef, undef, undef, undef, undef, undef, undef, undef, undef, undef, undef, undef, undef, undef, undef, undef, undef, undef, undef, undef, undef, undef, undef, undef, undef, undef, undef, undef, undef, undef, undef, undef, undef, undef], defers := [] } : Act) ∧ W3.heap.size + 2 ≤ g ∧ ValAt V ⟨g, 0, none⟩ x.2 ∧ EC w W3 (w2.heap.size + 1) pre.length V ∧ (pre = [] ∨ (pre.length : Int) < many))
    (fun b pre x V o hz h => by
      obtain ⟨g, h0, hg, ⟨q0, q1, q2, q3⟩, he, hq⟩ := h
      have hne : (V.putObj (W3.heap.size + 1) o).heap[g]? = V.heap[g]? := World.putObj_heap_other (by omega)
      exact ⟨g, h0, hg, ⟨(World.cell?_of_block (a := ⟨g, 0, none⟩) hne).trans q0, (World.cell?_of_block (a := ⟨g, 0 + 1, none⟩) hne).trans q1, (World.cell?_of_block (a := ⟨g, 0 + 2, none⟩) hne).trans q2, (World.cell?_of_block (a := ⟨g, 0 + 3, none⟩) hne).trans q3⟩, he.keep (below_putC (Below.refl _ V) (by omega) o) hz13 hzw, hq⟩)
    ?assign0 ?body0 ?done0 ?stop0
  case assign0 =>
    rintro l pre x W K ⟨hei, hq⟩ hsp hsz hK
    have HK := Lib.hid (hK _ (W.alloc (vObj x.2)) ⟨W.heap.size, rfl, hsz, litV0 W x.2, hei.keep ((Below.refl _ W).alloc (by omega) _) hz13 hzw, hq⟩ ((Below.refl _ W).alloc (Nat.le_refl _) _))
    clear hK hei hq hsp
    simp only [encV, Vl.val]
    gi_wp2
    exact HK.out
  case body0 =>
    rintro l b pre x W ⟨g, rfl, hg, hv, hei, hq⟩ hsp hszW
    obtain ⟨hlt, hx⟩ := pre_at hsp
    have hx1 : x.1 = pre.length := by rw [← hx]; exact HNUM.out _ hlt
    obtain ⟨a6, e6, k6⟩ := HS2.out.vals pre.length hlt
    rw [hx] at k6
    obtain ⟨xi, xv⟩ := x
    simp only at hx1 k6 hv
    subst hx1
    have hsz := HB0.out.size
    have up : ∀ p : Addr, p.block < w2.heap.size → W.cell? p = w2.cell? p := fun p hp => (hei.cell (by omega) (by omega)).trans (HB0.out.cell hp)
    have g4 : W.cell? ⟨w.heap.size, 0, none⟩ = some (.int .i64 many) := (up _ (by simp; omega)).trans HS2.out.many
    have g6 : W.cell? ⟨b5, 0, none⟩ = some (.slice oa E.length c6) := (up _ (by simp; omega)).trans HS2.out.want
    have g12 : W.cell? ⟨w2.heap.size, 0, none⟩ = some (.int .i64 0) := (hei.cell (by simp; omega) (by simp)).trans HT0.out
    have g13 := hei.at13
    have g13F := hei.at13F
    have hbl : (a6.add (pre.length * 4)).block < w2.heap.size := World.block_lt_of_cell? w2 _ k6.1
    obtain ⟨q0, q1, q2, q3⟩ := k6
    have y0 := (up _ hbl).trans q0
    have y1 := (up ⟨_, _, none⟩ hbl).trans q1
    have y2 := (up ⟨_, _, none⟩ hbl).trans q2
    have y3 := (up ⟨_, _, none⟩ hbl).trans q3
    obtain ⟨x0, x1, x2, x3⟩ := hv
    rw [e6] at g6
    have hd : decide ((E.length : Int) ≤ (pre.length : Int)) = false := by simp; omega
    have hlt2 : (pre.length : Int) < (E.length : Int) := by omega
    have hlen : (pre ++ [(pre.length, xv)]).length = pre.length + 1 := by simp
    have hnn : ((pre.length : Int) != (pre.length : Int)) = false := by simp
    have hvq : (binOp .neq 25 (.agg #[.int .i64 xv.k, .int .i64 xv.i, .int .u64 xv.u, .string xv.s]) (.agg #[.int .i64 xv.k, .int .i64 xv.i, .int .u64 xv.u, .string xv.s])).run Tryz.prog W = .ok (.bool false) W := by rw [run_neq_val]; simp [vEqB]
    have HQ := Lib.hid hq
    have HLEN := Lib.hid hlen
    clear hq up e6 hx hsp hlen q0 q1 q2 q3 hbl
    dsimp only
    gi_wp2_with fail
    have hS : (fun V => V.cell? ⟨w2.heap.size + 1, 0, none⟩ = some (.int .i64 (pre.length : Int)) ∧ V.cell? ⟨b5, 0, none⟩ = some (.slice (some a6) E.length c6) ∧ ValAt V ⟨g, 0, none⟩ xv ∧ ValAt V (a6.add (pre.length * 4)) xv) W.drew := ⟨g13, g6, ⟨x0, x1, x2, x3⟩, ⟨y0, y1, y2, y3⟩⟩
    have g4' : W.drew.cell? ⟨w.heap.size, 0, none⟩ = some (.int .i64 many) := g4
    have g12' : W.drew.cell? ⟨w2.heap.size, 0, none⟩ = some (.int .i64 0) := g12
    have g13' : W.drew.cell? ⟨w2.heap.size + 1, 0, none⟩ = some (.int .i64 (pre.length : Int)) := g13
    have g13F' : W.drew.frozen? ⟨w2.heap.size + 1, 0, none⟩ = false := g13F
    have hKW : Keep W3.heap.size (fun k => k = 2) W W.drew := ⟨Nat.le_refl _, fun _ _ _ => rfl⟩
    have hKX : Keep (w2.heap.size + 1 + 1) (fun k => k = 2) W W.drew := ⟨Nat.le_refl _, fun _ _ _ => rfl⟩
    have HEIB := Lib.hid (hei.keep ((Below.refl W3.heap.size W).drew) hz13 hzw)
    refine wpIn_region_Y (S := fun V => V.cell? ⟨w2.heap.size + 1, 0, none⟩ = some (.int .i64 (pre.length : Int)) ∧ V.cell? ⟨b5, 0, none⟩ = some (.slice (some a6) E.length c6) ∧ ValAt V ⟨g, 0, none⟩ xv ∧ ValAt V (a6.add (pre.length * 4)) xv) (by kernel_rfl) ?_
    obtain ⟨Wq, hWq⟩ : ∃ Wq, W.drew = Wq := ⟨_, rfl⟩
    rw [hWq] at hS g4' g12' g13' g13F' hKW hKX HEIB
    rw [hWq]
    clear hei g4 g6 g12 g13 g13F x0 x1 x2 x3 y0 y1 y2 y3 hWq
    refine wpAnyY_take (i := 0) (oi := { dst := some 24, op := Go.Op.move (Go.Operand.tmp 9), type := 3, pos := "law.go:109", after := #[], guard := none }) (v := .int .i64 (pre.length : Int)) rfl (by kernel_rfl) (by kernel_rfl) (by kernel_rfl) (by kernel_rfl) (fun _ _ _ h => h) (by intro w; first | rfl | (simp [Oper.about, resolve, Target.leads]; done)) (Or.inl ⟨by rfl, ?hy0⟩) hS ?_
    case hy0 => (rintro V ⟨s1, s2, ⟨s5, s6, s7, s8⟩, ⟨t5, t6, t7, t8⟩⟩; go_simp; try with_reducible rfl)
    try simp only [Act.put, List.setIfInBounds_toArray, List.set_cons_zero, List.set_cons_succ]
    refine wpAnyY_take (i := 1) (oi := { dst := some 25, op := Go.Op.load 3 (Go.Operand.tmp 8), type := 3, pos := "law.go:109", after := #[], guard := none }) (v := .int .i64 (pre.length : Int)) rfl (by kernel_rfl) (by kernel_rfl) (by kernel_rfl) (by kernel_rfl) (fun _ _ _ h => h) (by intro w; first | rfl | (simp [Oper.about, resolve, Target.leads]; done)) (Or.inl ⟨by rfl, ?hy1⟩) hS ?_
    case hy1 => (rintro V ⟨s1, s2, ⟨s5, s6, s7, s8⟩, ⟨t5, t6, t7, t8⟩⟩; go_simp; try with_reducible rfl)
    try simp only [Act.put, List.setIfInBounds_toArray, List.set_cons_zero, List.set_cons_succ]
    refine wpAnyY_take (i := 2) (oi := { dst := some 26, op := Go.Op.binOp Go.BinOp.neq 3 (Go.Operand.tmp 24) (Go.Operand.tmp 25) 3, type := 4, pos := "law.go:109", after := #[{ on := 0, ground := Go.Ground.data }, { on := 1, ground := Go.Ground.data }], guard := none }) (v := .bool false) rfl (by kernel_rfl) (by kernel_rfl) (by kernel_rfl) (by kernel_rfl) (fun _ _ _ h => h) (by intro w; first | rfl | (simp [Oper.about, resolve, Target.leads]; done)) (Or.inl ⟨by rfl, ?hy2⟩) hS ?_
    case hy2 => (rintro V ⟨s1, s2, ⟨s5, s6, s7, s8⟩, ⟨t5, t6, t7, t8⟩⟩; go_simp; try with_reducible rfl)
    try simp only [Act.put, List.setIfInBounds_toArray, List.set_cons_zero, List.set_cons_succ]
    refine wpAnyY_take (i := 3) (oi := { dst := some 27, op := Go.Op.move (Go.Operand.tmp 26), type := 4, pos := "law.go:109", after := #[{ on := 2, ground := Go.Ground.data }], guard := none }) (v := .bool false) rfl (by kernel_rfl) (by kernel_rfl) (by kernel_rfl) (by kernel_rfl) (fun _ _ _ h => h) (by intro w; first | rfl | (simp [Oper.about, resolve, Target.leads]; done)) (Or.inl ⟨by rfl, ?hy3⟩) hS ?_
    case hy3 => (rintro V ⟨s1, s2, ⟨s5, s6, s7, s8⟩, ⟨t5, t6, t7, t8⟩⟩; go_simp; try with_reducible rfl)
    try simp only [Act.put, List.setIfInBounds_toArray, List.set_cons_zero, List.set_cons_succ]
    refine wpAnyY_take (i := 4) (oi := { dst := some 28, op := Go.Op.load 3 (Go.Operand.tmp 8), type := 3, pos := "law.go:109", after := #[{ on := 3, ground := Go.Ground.guard }], guard := some (3, false) }) (v := .int .i64 (pre.length : Int)) rfl (by kernel_rfl) (by kernel_rfl) (by kernel_rfl) (by kernel_rfl) (fun _ _ _ h => h) (by intro w; first | rfl | (simp [Oper.about, resolve, Target.leads]; done)) (Or.inl ⟨by rfl, ?hy4⟩) hS ?_
    case hy4 => (rintro V ⟨s1, s2, ⟨s5, s6, s7, s8⟩, ⟨t5, t6, t7, t8⟩⟩; go_simp; try with_reducible rfl)
    try simp only [Act.put, List.setIfInBounds_toArray, List.set_cons_zero, List.set_cons_succ]
    refine wpAnyY_take (i := 5) (oi := { dst := some 29, op := Go.Op.load 26 (Go.Operand.tmp 5), type := 26, pos := "law.go:109", after := #[{ on := 3, ground := Go.Ground.guard }], guard := some (3, false) }) (v := .slice (some a6) E.length c6) rfl (by kernel_rfl) (by kernel_rfl) (by kernel_rfl) (by kernel_rfl) (fun _ _ _ h => h) (by intro w; first | rfl | (simp [Oper.about, resolve, Target.leads]; done)) (Or.inl ⟨by rfl, ?hy5⟩) hS ?_
    case hy5 => (rintro V ⟨s1, s2, ⟨s5, s6, s7, s8⟩, ⟨t5, t6, t7, t8⟩⟩; go_simp; try with_reducible rfl)
    try simp only [Act.put, List.setIfInBounds_toArray, List.set_cons_zero, List.set_cons_succ]
    refine wpAnyY_take (i := 6) (oi := { dst := some 30, op := Go.Op.call { callee := Go.Callee.builtin Go.Builtin.len, args := #[Go.Operand.tmp 29], argTypes := #[26] }, type := 3, pos := "law.go:109", after := #[{ on := 5, ground := Go.Ground.data }, { on := 3, ground := Go.Ground.guard }], guard := some (3, false) }) (v := .int .i64 (E.length : Int)) rfl (by kernel_rfl) (by kernel_rfl) (by kernel_rfl) (by kernel_rfl) (fun _ _ _ h => h) (by intro w; first | rfl | (simp [Oper.about, resolve, Target.leads]; done)) (Or.inl ⟨by rfl, ?hy6⟩) hS ?_
    case hy6 => (rintro V ⟨s1, s2, ⟨s5, s6, s7, s8⟩, ⟨t5, t6, t7, t8⟩⟩; go_simp; try with_reducible rfl)
    try simp only [Act.put, List.setIfInBounds_toArray, List.set_cons_zero, List.set_cons_succ]
    refine wpAnyY_take (i := 7) (oi := { dst := some 31, op := Go.Op.binOp Go.BinOp.geq 3 (Go.Operand.tmp 28) (Go.Operand.tmp 30) 3, type := 4, pos := "law.go:109", after := #[{ on := 4, ground := Go.Ground.data }, { on := 6, ground := Go.Ground.data }, { on := 3, ground := Go.Ground.guard }], guard := some (3, false) }) (v := .bool false) rfl (by kernel_rfl) (by kernel_rfl) (by kernel_rfl) (by kernel_rfl) (fun _ _ _ h => h) (by intro w; first | rfl | (simp [Oper.about, resolve, Target.leads]; done)) (Or.inl ⟨by rfl, ?hy7⟩) hS ?_
    case hy7 => (rintro V ⟨s1, s2, ⟨s5, s6, s7, s8⟩, ⟨t5, t6, t7, t8⟩⟩; go_simp; try with_reducible rfl)
    try simp only [Act.put, List.setIfInBounds_toArray, List.set_cons_zero, List.set_cons_succ]
    refine wpAnyY_take (i := 8) (oi := { dst := some 32, op := Go.Op.pick (Go.Operand.tmp 27) (Go.Operand.const (Go.Value.bool true)) (Go.Operand.tmp 31), type := 4, pos := "law.go:109", after := #[{ on := 3, ground := Go.Ground.data }, { on := 7, ground := Go.Ground.data }], guard := none }) (v := .bool false) rfl (by kernel_rfl) (by kernel_rfl) (by kernel_rfl) (by kernel_rfl) (fun _ _ _ h => h) (by intro w; first | rfl | (simp [Oper.about, resolve, Target.leads]; done)) (Or.inl ⟨by rfl, ?hy8⟩) hS ?_
    case hy8 => (rintro V ⟨s1, s2, ⟨s5, s6, s7, s8⟩, ⟨t5, t6, t7, t8⟩⟩; go_simp; try with_reducible rfl)
    try simp only [Act.put, List.setIfInBounds_toArray, List.set_cons_zero, List.set_cons_succ]
    refine wpAnyY_take (i := 9) (oi := { dst := some 33, op := Go.Op.move (Go.Operand.tmp 32), type := 4, pos := "law.go:109", after := #[{ on := 8, ground := Go.Ground.data }, { on := 3, ground := Go.Ground.chain }], guard := none }) (v := .bool false) rfl (by kernel_rfl) (by kernel_rfl) (by kernel_rfl) (by kernel_rfl) (fun _ _ _ h => h) (by intro w; first | rfl | (simp [Oper.about, resolve, Target.leads]; done)) (Or.inl ⟨by rfl, ?hy9⟩) hS ?_
    case hy9 => (rintro V ⟨s1, s2, ⟨s5, s6, s7, s8⟩, ⟨t5, t6, t7, t8⟩⟩; go_simp; try with_reducible rfl)
    try simp only [Act.put, List.setIfInBounds_toArray, List.set_cons_zero, List.set_cons_succ]
    refine wpAnyY_take (i := 10) (oi := { dst := some 34, op := Go.Op.load 25 (Go.Operand.tmp 10), type := 25, pos := "law.go:109", after := #[{ on := 9, ground := Go.Ground.guard }], guard := some (9, false) }) (v := .agg #[.int .i64 xv.k, .int .i64 xv.i, .int .u64 xv.u, .string xv.s]) rfl (by kernel_rfl) (by kernel_rfl) (by kernel_rfl) (by kernel_rfl) (fun _ _ _ h => h) (by intro w; first | rfl | (simp [Oper.about, resolve, Target.leads]; done)) (Or.inl ⟨by rfl, ?hy10⟩) hS ?_
    case hy10 => (rintro V ⟨s1, s2, ⟨s5, s6, s7, s8⟩, ⟨t5, t6, t7, t8⟩⟩; go_simp; try with_reducible rfl)
    try simp only [Act.put, List.setIfInBounds_toArray, List.set_cons_zero, List.set_cons_succ]
    refine wpAnyY_take (i := 11) (oi := { dst := some 35, op := Go.Op.load 26 (Go.Operand.tmp 5), type := 26, pos := "law.go:109", after := #[{ on := 9, ground := Go.Ground.guard }], guard := some (9, false) }) (v := .slice (some a6) E.length c6) rfl (by kernel_rfl) (by kernel_rfl) (by kernel_rfl) (by kernel_rfl) (fun _ _ _ h => h) (by intro w; first | rfl | (simp [Oper.about, resolve, Target.leads]; done)) (Or.inl ⟨by rfl, ?hy11⟩) hS ?_
    case hy11 => (rintro V ⟨s1, s2, ⟨s5, s6, s7, s8⟩, ⟨t5, t6, t7, t8⟩⟩; go_simp; try with_reducible rfl)
    try simp only [Act.put, List.setIfInBounds_toArray, List.set_cons_zero, List.set_cons_succ]
    refine wpAnyY_take (i := 12) (oi := { dst := some 36, op := Go.Op.load 3 (Go.Operand.tmp 8), type := 3, pos := "law.go:109", after := #[{ on := 9, ground := Go.Ground.guard }], guard := some (9, false) }) (v := .int .i64 (pre.length : Int)) rfl (by kernel_rfl) (by kernel_rfl) (by kernel_rfl) (by kernel_rfl) (fun _ _ _ h => h) (by intro w; first | rfl | (simp [Oper.about, resolve, Target.leads]; done)) (Or.inl ⟨by rfl, ?hy12⟩) hS ?_
    case hy12 => (rintro V ⟨s1, s2, ⟨s5, s6, s7, s8⟩, ⟨t5, t6, t7, t8⟩⟩; go_simp; try with_reducible rfl)
    try simp only [Act.put, List.setIfInBounds_toArray, List.set_cons_zero, List.set_cons_succ]
    refine wpAnyY_take (i := 13) (oi := { dst := some 37, op := Go.Op.indexAddr 26 (Go.Operand.tmp 35) (Go.Operand.tmp 36), type := 0, pos := "law.go:109", after := #[{ on := 11, ground := Go.Ground.data }, { on := 12, ground := Go.Ground.data }, { on := 9, ground := Go.Ground.guard }], guard := some (9, false) }) (v := .pointer (some (a6.add (pre.length * 4)))) rfl (by kernel_rfl) (by kernel_rfl) (by kernel_rfl) (by kernel_rfl) (fun _ _ _ h => h) (by intro w; first | rfl | (simp [Oper.about, resolve, Target.leads]; done)) (Or.inl ⟨by rfl, ?hy13⟩) hS ?_
    case hy13 => (rintro V ⟨s1, s2, ⟨s5, s6, s7, s8⟩, ⟨t5, t6, t7, t8⟩⟩; go_simp; try with_reducible rfl)
    try simp only [Act.put, List.setIfInBounds_toArray, List.set_cons_zero, List.set_cons_succ]
    refine wpAnyY_take (i := 14) (oi := { dst := some 38, op := Go.Op.load 25 (Go.Operand.tmp 37), type := 25, pos := "law.go:109", after := #[{ on := 13, ground := Go.Ground.data }, { on := 9, ground := Go.Ground.guard }], guard := some (9, false) }) (v := .agg #[.int .i64 xv.k, .int .i64 xv.i, .int .u64 xv.u, .string xv.s]) rfl (by kernel_rfl) (by kernel_rfl) (by kernel_rfl) (by kernel_rfl) (fun _ _ _ h => h) (by intro w; first | rfl | (simp [Oper.about, resolve, Target.leads]; done)) (Or.inl ⟨by rfl, ?hy14⟩) hS ?_
    case hy14 => (rintro V ⟨s1, s2, ⟨s5, s6, s7, s8⟩, ⟨t5, t6, t7, t8⟩⟩; go_simp; try with_reducible rfl)
    try simp only [Act.put, List.setIfInBounds_toArray, List.set_cons_zero, List.set_cons_succ]
    refine wpAnyY_take (i := 15) (oi := { dst := some 39, op := Go.Op.binOp Go.BinOp.neq 25 (Go.Operand.tmp 34) (Go.Operand.tmp 38) 25, type := 4, pos := "law.go:109", after := #[{ on := 10, ground := Go.Ground.data }, { on := 14, ground := Go.Ground.data }, { on := 9, ground := Go.Ground.guard }], guard := some (9, false) }) (v := .bool false) rfl (by kernel_rfl) (by kernel_rfl) (by kernel_rfl) (by kernel_rfl) (fun _ _ _ h => h) (by intro w; first | rfl | (simp [Oper.about, resolve, Target.leads]; done)) (Or.inl ⟨by rfl, ?hy15⟩) hS ?_
    case hy15 => (rintro V ⟨s1, s2, ⟨s5, s6, s7, s8⟩, ⟨t5, t6, t7, t8⟩⟩; go_simp; try with_reducible rfl)
    try simp only [Act.put, List.setIfInBounds_toArray, List.set_cons_zero, List.set_cons_succ]
    refine wpAnyY_take (i := 16) (oi := { dst := some 40, op := Go.Op.pick (Go.Operand.tmp 33) (Go.Operand.const (Go.Value.bool true)) (Go.Operand.tmp 39), type := 4, pos := "law.go:109", after := #[{ on := 9, ground := Go.Ground.data }, { on := 15, ground := Go.Ground.data }], guard := none }) (v := .bool false) rfl (by kernel_rfl) (by kernel_rfl) (by kernel_rfl) (by kernel_rfl) (fun _ _ _ h => h) (by intro w; first | rfl | (simp [Oper.about, resolve, Target.leads]; done)) (Or.inl ⟨by rfl, ?hy16⟩) hS ?_
    case hy16 => (rintro V ⟨s1, s2, ⟨s5, s6, s7, s8⟩, ⟨t5, t6, t7, t8⟩⟩; go_simp; try with_reducible rfl)
    try simp only [Act.put, List.setIfInBounds_toArray, List.set_cons_zero, List.set_cons_succ]
    refine wpAnyY_done (by kernel_rfl) ?_ _
    by_cases hmb : many ≤ (pre.length : Int) + 1
    · gi_wp2_with fail
      exact ⟨(by first | exact hKW.setCell (p := ⟨w2.heap.size + 1, 0, none⟩) (show w2.heap.size + 1 < _ by omega) (fun h => by have h' : w2.heap.size + 1 = 2 := h; omega) _ | exact hKX.setCell (p := ⟨w2.heap.size + 1, 0, none⟩) (show w2.heap.size + 1 < _ by omega) (fun h => by have h' : w2.heap.size + 1 = 2 := h; omega) _), rfl, by rw [HLEN.out]; exact HEIB.out.next (by omega), by rw [HLEN.out]; omega, by rw [HLEN.out]; omega, by rw [HLEN.out]; rcases HQ.out with h | h; (· left; rw [h]; rfl); (· right; omega)⟩
    · gi_wp2_with fail
      exact ⟨(by first | exact hKW.setCell (p := ⟨w2.heap.size + 1, 0, none⟩) (show w2.heap.size + 1 < _ by omega) (fun h => by have h' : w2.heap.size + 1 = 2 := h; omega) _ | exact hKX.setCell (p := ⟨w2.heap.size + 1, 0, none⟩) (show w2.heap.size + 1 < _ by omega) (fun h => by have h' : w2.heap.size + 1 = 2 := h; omega) _), by rw [HLEN.out]; exact HEIB.out.next (by omega), .inr (by rw [HLEN.out]; omega)⟩
  case done0 =>
    rintro xs Wa hxs ⟨hei, hq⟩ hD
    rw [hxs] at hei hq
    clear hxs xs
    have hsz := HB0.out.size
    have up : ∀ p : Addr, p.block < w2.heap.size → Wa.cell? p = w2.cell? p := fun p hp => (hei.cell (by omega) (by omega)).trans (HB0.out.cell hp)
    have g4 : Wa.cell? ⟨w.heap.size, 0, none⟩ = some (.int .i64 many) := (up _ (by simp; omega)).trans HS2.out.many
    have g6 : Wa.cell? ⟨b5, 0, none⟩ = some (.slice oa E.length c6) := (up _ (by simp; omega)).trans HS2.out.want
    have g12 : Wa.cell? ⟨w2.heap.size, 0, none⟩ = some (.int .i64 0) := (hei.cell (by simp; omega) (by simp)).trans HT0.out
    have g13 := hei.at13
    have HEI := Lib.hid hei
    have HD := Lib.hid hD
    obtain ⟨M, hM⟩ : ∃ M, max (1 : Int) many = M := ⟨_, rfl⟩
    have hmn : min (E.length : Int) M = E.length := by rcases hq with h | h; (· subst h; simp; omega); (· omega)
    have hne : ((E.length : Int) != (E.length : Int)) = false := by simp
    clear up hei hD hq
    go_wp2_with fail
    have HUP := Lib.hid (HEI.out.up HS2.out.below HB0.out (by omega))
    rw [rounds_succ]
    go_wp2_with fail
    obtain ⟨W4, hW4⟩ : ∃ W4, (Wa.alloc (.cells #[.int .i64 1] 3)).alloc (.cells #[.int .i64 0] 3) = W4 := ⟨_, rfl⟩
    have hzW : w2.heap.size + 1 < Wa.heap.size := by have := HEI.out.size; omega
    have HB1 : Hid (Below w2.heap.size w2 W4) := Lib.hid (by rw [← hW4]; exact (HUP.out.alloc HUP.out.size _).alloc (by have := HUP.out.size; simp; omega) _)
    have hz4 : W4.heap.size = Wa.heap.size + 1 + 1 := by rw [← hW4]; simp
    have hz13 : Wa.heap.size + 1 < W4.heap.size := by omega
    have hzw : w.heap.size ≤ W4.heap.size := by omega
    have HT1 : Hid (W4.cell? ⟨Wa.heap.size, 0, none⟩ = some (.int .i64 1)) := Lib.hid (by rw [← hW4]; simp [go_sem])
    have HEI1 : Hid (EC w W4 (Wa.heap.size + 1) 0 W4) := Lib.hid ⟨Nat.le_refl _, fun _ _ _ => rfl, HS2.out.below.trans (HB1.out.mono hzw2), by rw [← hW4]; simp [go_sem], by rw [← hW4]; simp [go_sem]⟩
    have HD4 : Hid (W4.heap[W3.heap.size]? = some (.deferred (some []))) := Lib.hid (by rw [← hW4, Below.heap_alloc _ _ _ (by have := (Array.getElem?_eq_some_iff.1 HD.out).1; simp; omega), Below.heap_alloc _ _ _ (Array.getElem?_eq_some_iff.1 HD.out).1]; exact HD.out)
    try rw [hW4]
    refine (wpIn_wide (n := 6)).1 ?_
    refine wpIn_turnsB (F := Fence.wide) (G := (fun k => k = 2)) rfl (by decide) (gf := 61) (lb := #[.pointer (some ⟨cb, 0, none⟩)]) rfl trivial (enters_of Tryz.func61 (by kernel_rfl) rfl)
      (HSEQ.out W4 HB1.out) (fun k hk => by have hk' : k = 2 := hk; omega) (fun x => rfl)
      (fun pre W => EC w W4 (Wa.heap.size + 1) pre.length W ∧ True)
      (fun _ _ _ => False)
      (fun s A A' h hb => ⟨h.1.keep hb hz13 hzw, h.2⟩)
      (fun _ _ _ _ h _ => h)
      ⟨HEI1.out, trivial⟩
      (fun b pre x V => ∃ g, b = ({ tmps := #[Value.string s, Value.int .i64 many, undef, Value.pointer (some { block := w.heap.size, off := 0 }), Value.pointer (some { block := w.heap.size + 1, off := 0 }), Value.pointer (some { block := b5, off := 0 }), Value.func (.func 61) #[] #[Value.pointer (some { block := cb, off := 0 })], Value.pointer (some { block := Wa.heap.size, off := 0 }), Value.pointer (some { block := Wa.heap.size + 1, off := 0 }), .int .i64 (x.1 : Int), .pointer (some ⟨g, 0, none⟩), Value.string s, Value.slice oa E.length c6, Value.string s, Value.func (.func 61) #[] #[Value.pointer (some { block := cb, off := 0 })], Value.func (.func 61) #[] #[Value.pointer (some { block := cb, off := 0 })], Value.bool false, Value.int .i64 1, Value.bool true, Value.int .i64 0, Value.int .i64 1, Value.func (.func 61) #[] #[Value.pointer (some { block := cb, off := 0 })], .int .i64 (x.1 : Int), .agg #[.int .i64 x.2.k, .int .i64 x.2.i, .int .u64 x.2.u, .string x.2.s], undef, undef, undef, undef, undef, undef, undef, undef, undef, undef, undef, undef, undef, undef, undef, undef, undef, undef, undef, undef, undef, undef, undef, undef, undef, undef, Value.int .i64 0, Value.bool true, Value.bool true, Value.int .i64 ↑E.length, Value.slice oa E.length c6, Value.int .i64 ↑E.length, Value.int .i64 many, Value.int .i64 M, Value.int .i64 ↑E.length, Value.bool false, Value.bool false, Value.bool false, Value.int .i64 0, Value.bool false, Value.bool false, undef, undef, undef, undef, Value.bool false, Value.bool false, Value.int .i64 0], defers := [] } : Act) ∧ W4.heap.size + 2 ≤ g ∧ ValAt V ⟨g, 0, none⟩ x.2 ∧ EC w W4 (Wa.heap.size + 1) pre.length V ∧ True)
      (fun b pre x V o hz h => by
        obtain ⟨g, h0, hg, ⟨q0, q1, q2, q3⟩, he, hq⟩ := h
        have hne : (V.putObj (W4.heap.size + 1) o).heap[g]? = V.heap[g]? := World.putObj_heap_other (by omega)
        exact ⟨g, h0, hg, ⟨(World.cell?_of_block (a := ⟨g, 0, none⟩) hne).trans q0, (World.cell?_of_block (a := ⟨g, 0 + 1, none⟩) hne).trans q1, (World.cell?_of_block (a := ⟨g, 0 + 2, none⟩) hne).trans q2, (World.cell?_of_block (a := ⟨g, 0 + 3, none⟩) hne).trans q3⟩, he.keep (below_putC (Below.refl _ V) (by omega) o) hz13 hzw, hq⟩)
      ?assign1 ?body1 ?done1 ?stop1
    case assign1 =>
      rintro l pre x W K ⟨hei, hq⟩ hsp hsz hK
      have HK := Lib.hid (hK _ (W.alloc (vObj x.2)) ⟨W.heap.size, rfl, hsz, litV0 W x.2, hei.keep ((Below.refl _ W).alloc (by omega) _) hz13 hzw, hq⟩ ((Below.refl _ W).alloc (Nat.le_refl _) _))
      clear hK hei hq hsp
      simp only [encV, Vl.val]
      gi_wp2
      exact HK.out
    case body1 =>
      rintro l b pre x W ⟨g, rfl, hg, hv, hei, hq⟩ hsp hszW
      obtain ⟨hlt, hx⟩ := pre_at hsp
      have hx1 : x.1 = pre.length := by rw [← hx]; exact HNUM.out _ hlt
      obtain ⟨a6, e6, k6⟩ := HS2.out.vals pre.length hlt
      rw [hx] at k6
      obtain ⟨xi, xv⟩ := x
      simp only at hx1 k6 hv
      subst hx1
      have hsz := HB1.out.size
      have up : ∀ p : Addr, p.block < w2.heap.size → W.cell? p = w2.cell? p := fun p hp => (hei.cell (by omega) (by omega)).trans (HB1.out.cell hp)
      have g4 : W.cell? ⟨w.heap.size, 0, none⟩ = some (.int .i64 many) := (up _ (by simp; omega)).trans HS2.out.many
      have g6 : W.cell? ⟨b5, 0, none⟩ = some (.slice oa E.length c6) := (up _ (by simp; omega)).trans HS2.out.want
      have g12 : W.cell? ⟨Wa.heap.size, 0, none⟩ = some (.int .i64 1) := (hei.cell (by simp; omega) (by simp)).trans HT1.out
      have g13 := hei.at13
      have g13F := hei.at13F
      have hbl : (a6.add (pre.length * 4)).block < w2.heap.size := World.block_lt_of_cell? w2 _ k6.1
      obtain ⟨q0, q1, q2, q3⟩ := k6
      have y0 := (up _ hbl).trans q0
      have y1 := (up ⟨_, _, none⟩ hbl).trans q1
      have y2 := (up ⟨_, _, none⟩ hbl).trans q2
      have y3 := (up ⟨_, _, none⟩ hbl).trans q3
      obtain ⟨x0, x1, x2, x3⟩ := hv
      rw [e6] at g6
      have hd : decide ((E.length : Int) ≤ (pre.length : Int)) = false := by simp; omega
      have hlt2 : (pre.length : Int) < (E.length : Int) := by omega
      have hlen : (pre ++ [(pre.length, xv)]).length = pre.length + 1 := by simp
      have hnn : ((pre.length : Int) != (pre.length : Int)) = false := by simp
      have hvq : (binOp .neq 25 (.agg #[.int .i64 xv.k, .int .i64 xv.i, .int .u64 xv.u, .string xv.s]) (.agg #[.int .i64 xv.k, .int .i64 xv.i, .int .u64 xv.u, .string xv.s])).run Tryz.prog W = .ok (.bool false) W := by rw [run_neq_val]; simp [vEqB]
      have HQ := Lib.hid hq
      have HLEN := Lib.hid hlen
      clear hq up e6 hx hsp hlen q0 q1 q2 q3 hbl
      dsimp only
      gi_wp2_with fail
      have hS : (fun V => V.cell? ⟨Wa.heap.size + 1, 0, none⟩ = some (.int .i64 (pre.length : Int)) ∧ V.cell? ⟨b5, 0, none⟩ = some (.slice (some a6) E.length c6) ∧ ValAt V ⟨g, 0, none⟩ xv ∧ ValAt V (a6.add (pre.length * 4)) xv) W.drew := ⟨g13, g6, ⟨x0, x1, x2, x3⟩, ⟨y0, y1, y2, y3⟩⟩
      have g4' : W.drew.cell? ⟨w.heap.size, 0, none⟩ = some (.int .i64 many) := g4
      have g12' : W.drew.cell? ⟨Wa.heap.size, 0, none⟩ = some (.int .i64 1) := g12
      have g13' : W.drew.cell? ⟨Wa.heap.size + 1, 0, none⟩ = some (.int .i64 (pre.length : Int)) := g13
      have g13F' : W.drew.frozen? ⟨Wa.heap.size + 1, 0, none⟩ = false := g13F
      have hKW : Keep W4.heap.size (fun k => k = 2) W W.drew := ⟨Nat.le_refl _, fun _ _ _ => rfl⟩
      have hKX : Keep (Wa.heap.size + 1 + 1) (fun k => k = 2) W W.drew := ⟨Nat.le_refl _, fun _ _ _ => rfl⟩
      have HEIB := Lib.hid (hei.keep ((Below.refl W4.heap.size W).drew) hz13 hzw)
      refine wpIn_region_Y (S := fun V => V.cell? ⟨Wa.heap.size + 1, 0, none⟩ = some (.int .i64 (pre.length : Int)) ∧ V.cell? ⟨b5, 0, none⟩ = some (.slice (some a6) E.length c6) ∧ ValAt V ⟨g, 0, none⟩ xv ∧ ValAt V (a6.add (pre.length * 4)) xv) (by kernel_rfl) ?_
      obtain ⟨Wq, hWq⟩ : ∃ Wq, W.drew = Wq := ⟨_, rfl⟩
      rw [hWq] at hS g4' g12' g13' g13F' hKW hKX HEIB
      rw [hWq]
      clear hei g4 g6 g12 g13 g13F x0 x1 x2 x3 y0 y1 y2 y3 hWq
      refine wpAnyY_take (i := 0) (oi := { dst := some 24, op := Go.Op.move (Go.Operand.tmp 9), type := 3, pos := "law.go:109", after := #[], guard := none }) (v := .int .i64 (pre.length : Int)) rfl (by kernel_rfl) (by kernel_rfl) (by kernel_rfl) (by kernel_rfl) (fun _ _ _ h => h) (by intro w; first | rfl | (simp [Oper.about, resolve, Target.leads]; done)) (Or.inl ⟨by rfl, ?hy0⟩) hS ?_
      case hy0 => (rintro V ⟨s1, s2, ⟨s5, s6, s7, s8⟩, ⟨t5, t6, t7, t8⟩⟩; go_simp; try with_reducible rfl)
      try simp only [Act.put, List.setIfInBounds_toArray, List.set_cons_zero, List.set_cons_succ]
      refine wpAnyY_take (i := 1) (oi := { dst := some 25, op := Go.Op.load 3 (Go.Operand.tmp 8), type := 3, pos := "law.go:109", after := #[], guard := none }) (v := .int .i64 (pre.length : Int)) rfl (by kernel_rfl) (by kernel_rfl) (by kernel_rfl) (by kernel_rfl) (fun _ _ _ h => h) (by intro w; first | rfl | (simp [Oper.about, resolve, Target.leads]; done)) (Or.inl ⟨by rfl, ?hy1⟩) hS ?_
      case hy1 => (rintro V ⟨s1, s2, ⟨s5, s6, s7, s8⟩, ⟨t5, t6, t7, t8⟩⟩; go_simp; try with_reducible rfl)
      try simp only [Act.put, List.setIfInBounds_toArray, List.set_cons_zero, List.set_cons_succ]
      refine wpAnyY_take (i := 2) (oi := { dst := some 26, op := Go.Op.binOp Go.BinOp.neq 3 (Go.Operand.tmp 24) (Go.Operand.tmp 25) 3, type := 4, pos := "law.go:109", after := #[{ on := 0, ground := Go.Ground.data }, { on := 1, ground := Go.Ground.data }], guard := none }) (v := .bool false) rfl (by kernel_rfl) (by kernel_rfl) (by kernel_rfl) (by kernel_rfl) (fun _ _ _ h => h) (by intro w; first | rfl | (simp [Oper.about, resolve, Target.leads]; done)) (Or.inl ⟨by rfl, ?hy2⟩) hS ?_
      case hy2 => (rintro V ⟨s1, s2, ⟨s5, s6, s7, s8⟩, ⟨t5, t6, t7, t8⟩⟩; go_simp; try with_reducible rfl)
      try simp only [Act.put, List.setIfInBounds_toArray, List.set_cons_zero, List.set_cons_succ]
      refine wpAnyY_take (i := 3) (oi := { dst := some 27, op := Go.Op.move (Go.Operand.tmp 26), type := 4, pos := "law.go:109", after := #[{ on := 2, ground := Go.Ground.data }], guard := none }) (v := .bool false) rfl (by kernel_rfl) (by kernel_rfl) (by kernel_rfl) (by kernel_rfl) (fun _ _ _ h => h) (by intro w; first | rfl | (simp [Oper.about, resolve, Target.leads]; done)) (Or.inl ⟨by rfl, ?hy3⟩) hS ?_
      case hy3 => (rintro V ⟨s1, s2, ⟨s5, s6, s7, s8⟩, ⟨t5, t6, t7, t8⟩⟩; go_simp; try with_reducible rfl)
      try simp only [Act.put, List.setIfInBounds_toArray, List.set_cons_zero, List.set_cons_succ]
      refine wpAnyY_take (i := 4) (oi := { dst := some 28, op := Go.Op.load 3 (Go.Operand.tmp 8), type := 3, pos := "law.go:109", after := #[{ on := 3, ground := Go.Ground.guard }], guard := some (3, false) }) (v := .int .i64 (pre.length : Int)) rfl (by kernel_rfl) (by kernel_rfl) (by kernel_rfl) (by kernel_rfl) (fun _ _ _ h => h) (by intro w; first | rfl | (simp [Oper.about, resolve, Target.leads]; done)) (Or.inl ⟨by rfl, ?hy4⟩) hS ?_
      case hy4 => (rintro V ⟨s1, s2, ⟨s5, s6, s7, s8⟩, ⟨t5, t6, t7, t8⟩⟩; go_simp; try with_reducible rfl)
      try simp only [Act.put, List.setIfInBounds_toArray, List.set_cons_zero, List.set_cons_succ]
      refine wpAnyY_take (i := 5) (oi := { dst := some 29, op := Go.Op.load 26 (Go.Operand.tmp 5), type := 26, pos := "law.go:109", after := #[{ on := 3, ground := Go.Ground.guard }], guard := some (3, false) }) (v := .slice (some a6) E.length c6) rfl (by kernel_rfl) (by kernel_rfl) (by kernel_rfl) (by kernel_rfl) (fun _ _ _ h => h) (by intro w; first | rfl | (simp [Oper.about, resolve, Target.leads]; done)) (Or.inl ⟨by rfl, ?hy5⟩) hS ?_
      case hy5 => (rintro V ⟨s1, s2, ⟨s5, s6, s7, s8⟩, ⟨t5, t6, t7, t8⟩⟩; go_simp; try with_reducible rfl)
      try simp only [Act.put, List.setIfInBounds_toArray, List.set_cons_zero, List.set_cons_succ]
      refine wpAnyY_take (i := 6) (oi := { dst := some 30, op := Go.Op.call { callee := Go.Callee.builtin Go.Builtin.len, args := #[Go.Operand.tmp 29], argTypes := #[26] }, type := 3, pos := "law.go:109", after := #[{ on := 5, ground := Go.Ground.data }, { on := 3, ground := Go.Ground.guard }], guard := some (3, false) }) (v := .int .i64 (E.length : Int)) rfl (by kernel_rfl) (by kernel_rfl) (by kernel_rfl) (by kernel_rfl) (fun _ _ _ h => h) (by intro w; first | rfl | (simp [Oper.about, resolve, Target.leads]; done)) (Or.inl ⟨by rfl, ?hy6⟩) hS ?_
      case hy6 => (rintro V ⟨s1, s2, ⟨s5, s6, s7, s8⟩, ⟨t5, t6, t7, t8⟩⟩; go_simp; try with_reducible rfl)
      try simp only [Act.put, List.setIfInBounds_toArray, List.set_cons_zero, List.set_cons_succ]
      refine wpAnyY_take (i := 7) (oi := { dst := some 31, op := Go.Op.binOp Go.BinOp.geq 3 (Go.Operand.tmp 28) (Go.Operand.tmp 30) 3, type := 4, pos := "law.go:109", after := #[{ on := 4, ground := Go.Ground.data }, { on := 6, ground := Go.Ground.data }, { on := 3, ground := Go.Ground.guard }], guard := some (3, false) }) (v := .bool false) rfl (by kernel_rfl) (by kernel_rfl) (by kernel_rfl) (by kernel_rfl) (fun _ _ _ h => h) (by intro w; first | rfl | (simp [Oper.about, resolve, Target.leads]; done)) (Or.inl ⟨by rfl, ?hy7⟩) hS ?_
      case hy7 => (rintro V ⟨s1, s2, ⟨s5, s6, s7, s8⟩, ⟨t5, t6, t7, t8⟩⟩; go_simp; try with_reducible rfl)
      try simp only [Act.put, List.setIfInBounds_toArray, List.set_cons_zero, List.set_cons_succ]
      refine wpAnyY_take (i := 8) (oi := { dst := some 32, op := Go.Op.pick (Go.Operand.tmp 27) (Go.Operand.const (Go.Value.bool true)) (Go.Operand.tmp 31), type := 4, pos := "law.go:109", after := #[{ on := 3, ground := Go.Ground.data }, { on := 7, ground := Go.Ground.data }], guard := none }) (v := .bool false) rfl (by kernel_rfl) (by kernel_rfl) (by kernel_rfl) (by kernel_rfl) (fun _ _ _ h => h) (by intro w; first | rfl | (simp [Oper.about, resolve, Target.leads]; done)) (Or.inl ⟨by rfl, ?hy8⟩) hS ?_
      case hy8 => (rintro V ⟨s1, s2, ⟨s5, s6, s7, s8⟩, ⟨t5, t6, t7, t8⟩⟩; go_simp; try with_reducible rfl)
      try simp only [Act.put, List.setIfInBounds_toArray, List.set_cons_zero, List.set_cons_succ]
      refine wpAnyY_take (i := 9) (oi := { dst := some 33, op := Go.Op.move (Go.Operand.tmp 32), type := 4, pos := "law.go:109", after := #[{ on := 8, ground := Go.Ground.data }, { on := 3, ground := Go.Ground.chain }], guard := none }) (v := .bool false) rfl (by kernel_rfl) (by kernel_rfl) (by kernel_rfl) (by kernel_rfl) (fun _ _ _ h => h) (by intro w; first | rfl | (simp [Oper.about, resolve, Target.leads]; done)) (Or.inl ⟨by rfl, ?hy9⟩) hS ?_
      case hy9 => (rintro V ⟨s1, s2, ⟨s5, s6, s7, s8⟩, ⟨t5, t6, t7, t8⟩⟩; go_simp; try with_reducible rfl)
      try simp only [Act.put, List.setIfInBounds_toArray, List.set_cons_zero, List.set_cons_succ]
      refine wpAnyY_take (i := 10) (oi := { dst := some 34, op := Go.Op.load 25 (Go.Operand.tmp 10), type := 25, pos := "law.go:109", after := #[{ on := 9, ground := Go.Ground.guard }], guard := some (9, false) }) (v := .agg #[.int .i64 xv.k, .int .i64 xv.i, .int .u64 xv.u, .string xv.s]) rfl (by kernel_rfl) (by kernel_rfl) (by kernel_rfl) (by kernel_rfl) (fun _ _ _ h => h) (by intro w; first | rfl | (simp [Oper.about, resolve, Target.leads]; done)) (Or.inl ⟨by rfl, ?hy10⟩) hS ?_
      case hy10 => (rintro V ⟨s1, s2, ⟨s5, s6, s7, s8⟩, ⟨t5, t6, t7, t8⟩⟩; go_simp; try with_reducible rfl)
      try simp only [Act.put, List.setIfInBounds_toArray, List.set_cons_zero, List.set_cons_succ]
      refine wpAnyY_take (i := 11) (oi := { dst := some 35, op := Go.Op.load 26 (Go.Operand.tmp 5), type := 26, pos := "law.go:109", after := #[{ on := 9, ground := Go.Ground.guard }], guard := some (9, false) }) (v := .slice (some a6) E.length c6) rfl (by kernel_rfl) (by kernel_rfl) (by kernel_rfl) (by kernel_rfl) (fun _ _ _ h => h) (by intro w; first | rfl | (simp [Oper.about, resolve, Target.leads]; done)) (Or.inl ⟨by rfl, ?hy11⟩) hS ?_
      case hy11 => (rintro V ⟨s1, s2, ⟨s5, s6, s7, s8⟩, ⟨t5, t6, t7, t8⟩⟩; go_simp; try with_reducible rfl)
      try simp only [Act.put, List.setIfInBounds_toArray, List.set_cons_zero, List.set_cons_succ]
      refine wpAnyY_take (i := 12) (oi := { dst := some 36, op := Go.Op.load 3 (Go.Operand.tmp 8), type := 3, pos := "law.go:109", after := #[{ on := 9, ground := Go.Ground.guard }], guard := some (9, false) }) (v := .int .i64 (pre.length : Int)) rfl (by kernel_rfl) (by kernel_rfl) (by kernel_rfl) (by kernel_rfl) (fun _ _ _ h => h) (by intro w; first | rfl | (simp [Oper.about, resolve, Target.leads]; done)) (Or.inl ⟨by rfl, ?hy12⟩) hS ?_
      case hy12 => (rintro V ⟨s1, s2, ⟨s5, s6, s7, s8⟩, ⟨t5, t6, t7, t8⟩⟩; go_simp; try with_reducible rfl)
      try simp only [Act.put, List.setIfInBounds_toArray, List.set_cons_zero, List.set_cons_succ]
      refine wpAnyY_take (i := 13) (oi := { dst := some 37, op := Go.Op.indexAddr 26 (Go.Operand.tmp 35) (Go.Operand.tmp 36), type := 0, pos := "law.go:109", after := #[{ on := 11, ground := Go.Ground.data }, { on := 12, ground := Go.Ground.data }, { on := 9, ground := Go.Ground.guard }], guard := some (9, false) }) (v := .pointer (some (a6.add (pre.length * 4)))) rfl (by kernel_rfl) (by kernel_rfl) (by kernel_rfl) (by kernel_rfl) (fun _ _ _ h => h) (by intro w; first | rfl | (simp [Oper.about, resolve, Target.leads]; done)) (Or.inl ⟨by rfl, ?hy13⟩) hS ?_
      case hy13 => (rintro V ⟨s1, s2, ⟨s5, s6, s7, s8⟩, ⟨t5, t6, t7, t8⟩⟩; go_simp; try with_reducible rfl)
      try simp only [Act.put, List.setIfInBounds_toArray, List.set_cons_zero, List.set_cons_succ]
      refine wpAnyY_take (i := 14) (oi := { dst := some 38, op := Go.Op.load 25 (Go.Operand.tmp 37), type := 25, pos := "law.go:109", after := #[{ on := 13, ground := Go.Ground.data }, { on := 9, ground := Go.Ground.guard }], guard := some (9, false) }) (v := .agg #[.int .i64 xv.k, .int .i64 xv.i, .int .u64 xv.u, .string xv.s]) rfl (by kernel_rfl) (by kernel_rfl) (by kernel_rfl) (by kernel_rfl) (fun _ _ _ h => h) (by intro w; first | rfl | (simp [Oper.about, resolve, Target.leads]; done)) (Or.inl ⟨by rfl, ?hy14⟩) hS ?_
      case hy14 => (rintro V ⟨s1, s2, ⟨s5, s6, s7, s8⟩, ⟨t5, t6, t7, t8⟩⟩; go_simp; try with_reducible rfl)
      try simp only [Act.put, List.setIfInBounds_toArray, List.set_cons_zero, List.set_cons_succ]
      refine wpAnyY_take (i := 15) (oi := { dst := some 39, op := Go.Op.binOp Go.BinOp.neq 25 (Go.Operand.tmp 34) (Go.Operand.tmp 38) 25, type := 4, pos := "law.go:109", after := #[{ on := 10, ground := Go.Ground.data }, { on := 14, ground := Go.Ground.data }, { on := 9, ground := Go.Ground.guard }], guard := some (9, false) }) (v := .bool false) rfl (by kernel_rfl) (by kernel_rfl) (by kernel_rfl) (by kernel_rfl) (fun _ _ _ h => h) (by intro w; first | rfl | (simp [Oper.about, resolve, Target.leads]; done)) (Or.inl ⟨by rfl, ?hy15⟩) hS ?_
      case hy15 => (rintro V ⟨s1, s2, ⟨s5, s6, s7, s8⟩, ⟨t5, t6, t7, t8⟩⟩; go_simp; try with_reducible rfl)
      try simp only [Act.put, List.setIfInBounds_toArray, List.set_cons_zero, List.set_cons_succ]
      refine wpAnyY_take (i := 16) (oi := { dst := some 40, op := Go.Op.pick (Go.Operand.tmp 33) (Go.Operand.const (Go.Value.bool true)) (Go.Operand.tmp 39), type := 4, pos := "law.go:109", after := #[{ on := 9, ground := Go.Ground.data }, { on := 15, ground := Go.Ground.data }], guard := none }) (v := .bool false) rfl (by kernel_rfl) (by kernel_rfl) (by kernel_rfl) (by kernel_rfl) (fun _ _ _ h => h) (by intro w; first | rfl | (simp [Oper.about, resolve, Target.leads]; done)) (Or.inl ⟨by rfl, ?hy16⟩) hS ?_
      case hy16 => (rintro V ⟨s1, s2, ⟨s5, s6, s7, s8⟩, ⟨t5, t6, t7, t8⟩⟩; go_simp; try with_reducible rfl)
      try simp only [Act.put, List.setIfInBounds_toArray, List.set_cons_zero, List.set_cons_succ]
      refine wpAnyY_done (by kernel_rfl) ?_ _
      gi_wp2_with fail
      exact ⟨(by first | exact hKW.setCell (p := ⟨Wa.heap.size + 1, 0, none⟩) (show Wa.heap.size + 1 < _ by omega) (fun h => by have h' : Wa.heap.size + 1 = 2 := h; omega) _ | exact hKX.setCell (p := ⟨Wa.heap.size + 1, 0, none⟩) (show Wa.heap.size + 1 < _ by omega) (fun h => by have h' : Wa.heap.size + 1 = 2 := h; omega) _), by rw [HLEN.out]; exact HEIB.out.next (by omega), trivial⟩
    case done1 =>
      rintro xs Wb hxs ⟨hei, _⟩ hD
      rw [hxs] at hei
      clear hxs xs
      have hsz := HB1.out.size
      have up : ∀ p : Addr, p.block < w2.heap.size → Wb.cell? p = w2.cell? p := fun p hp => (hei.cell (by omega) (by omega)).trans (HB1.out.cell hp)
      have g4 : Wb.cell? ⟨w.heap.size, 0, none⟩ = some (.int .i64 many) := (up _ (by simp; omega)).trans HS2.out.many
      have g6 : Wb.cell? ⟨b5, 0, none⟩ = some (.slice oa E.length c6) := (up _ (by simp; omega)).trans HS2.out.want
      have g12 : Wb.cell? ⟨Wa.heap.size, 0, none⟩ = some (.int .i64 1) := (hei.cell (by simp; omega) (by simp)).trans HT1.out
      have g13 := hei.at13
      have HEIb := Lib.hid hei
      have HDb := Lib.hid hD
      have hne : ((E.length : Int) != (E.length : Int)) = false := by simp
      clear up hei hD
      go_wp2_with fail
      rw [rounds_succ]
      go_upto_region 20 with fail
      have HUPb := Lib.hid (HEIb.out.up HS2.out.below HB1.out (by omega))
      obtain ⟨w9, hw9⟩ : ∃ w9, Wb.alloc (.cells #[.int .i64 2] 3) = w9 := ⟨_, rfl⟩
      have HB9 : Hid (Below w2.heap.size w2 w9) := Lib.hid (by rw [← hw9]; exact HUPb.out.alloc HUPb.out.size _)
      have r0 : w9.cell? ⟨w.heap.size + 1, 0, none⟩ = some (.bool false) := by rw [HB9.out.cell (by simp; omega)]; exact HS2.out.res
      have r0F : w9.frozen? ⟨w.heap.size + 1, 0, none⟩ = false := by rw [HB9.out.frozen (by simp; omega)]; exact HS2.out.resF
      have hlb := (Array.getElem?_eq_some_iff.1 HDb.out).1
      have hla := (Array.getElem?_eq_some_iff.1 HD4.out).1
      have hl3 := (Array.getElem?_eq_some_iff.1 HD.out).1
      have D1 : w9.heap[W4.heap.size]? = some (.deferred (some [])) := by rw [← hw9]; exact (Below.heap_alloc _ _ _ hlb).trans HDb.out
      have D0 : w9.heap[W3.heap.size]? = some (.deferred (some [])) := by rw [← hw9]; exact (Below.heap_alloc _ _ _ (by have := HEIb.out.size; omega)).trans ((HEIb.out.same _ hla (by omega)).trans HD4.out)
      rw [hw9]
      clear hw9
      have HD1 := Lib.hid D1
      have HD0 := Lib.hid D0
      clear D1 D0
      go_wp2_with fail
      have e1 : (w9.setCell ⟨w.heap.size + 1, 0, none⟩ (.bool true)).heap[W4.heap.size]? = some (.deferred (some [])) := (Below.heap_setCell _ _ _ _ (by simp; omega)).trans HD1.out
      have e0 : (w9.setCell ⟨w.heap.size + 1, 0, none⟩ (.bool true)).heap[W3.heap.size]? = some (.deferred (some [])) := (Below.heap_setCell _ _ _ _ (by simp; omega)).trans HD0.out
      refine ⟨by simp, .inl ⟨_, _, rfl, run_takeDeferred e1, ?_⟩⟩
      have e2 : ((w9.setCell ⟨w.heap.size + 1, 0, none⟩ (.bool true)).putObj W4.heap.size (.deferred none)).heap[W3.heap.size]? = some (.deferred (some [])) := (World.putObj_heap_other (by omega)).trans e0
      refine ⟨by simp, .inl ⟨_, _, rfl, run_takeDeferred e2, ?_⟩⟩
      have hcell : (((w9.setCell ⟨w.heap.size + 1, 0, none⟩ (.bool true)).putObj W4.heap.size (.deferred none)).putObj W3.heap.size (.deferred none)).cell? ⟨w.heap.size + 1, 0, none⟩ = some (.bool true) := cell_put (cell_put (World.cell?_setCell_same' _ _ _ (by rw [r0]; rfl)) e1 _) e2 _
      exact ⟨.bool true, by simp [results, Tryz.results23, go_sem, hcell], rfl, below_putC (below_putC ((HS2.out.below.trans (HB9.out.mono hzw2)).setCell (p := ⟨w.heap.size + 1, 0, none⟩) (by simp) _) (by omega) _) (by omega) _⟩
    case stop1 =>
      intro c pre W _ hix
      exact hix.elim
  case stop0 =>
    rintro c pr0 Wa hsp ⟨rfl, hei, q1, q2, q3⟩ hD
    have hpl := pre_le hsp
    have hsz := HB0.out.size
    have up : ∀ p : Addr, p.block < w2.heap.size → Wa.cell? p = w2.cell? p := fun p hp => (hei.cell (by omega) (by omega)).trans (HB0.out.cell hp)
    have g4 : Wa.cell? ⟨w.heap.size, 0, none⟩ = some (.int .i64 many) := (up _ (by simp; omega)).trans HS2.out.many
    have g6 : Wa.cell? ⟨b5, 0, none⟩ = some (.slice oa E.length c6) := (up _ (by simp; omega)).trans HS2.out.want
    have g12 : Wa.cell? ⟨w2.heap.size, 0, none⟩ = some (.int .i64 0) := (hei.cell (by simp; omega) (by simp)).trans HT0.out
    have g13 := hei.at13
    have HEI := Lib.hid hei
    have HD := Lib.hid hD
    obtain ⟨M, hM⟩ : ∃ M, max (1 : Int) many = M := ⟨_, rfl⟩
    have hmn : min (E.length : Int) M = (pr0.length : Int) := by omega
    have hne : ((pr0.length : Int) != (pr0.length : Int)) = false := by simp
    clear up hei hD hsp q1 q2 q3
    refine wpIn_wide.2 ?_
    go_wp2_with fail
    have HUP := Lib.hid (HEI.out.up HS2.out.below HB0.out (by omega))
    rw [rounds_succ]
    go_wp2_with fail
    obtain ⟨W4, hW4⟩ : ∃ W4, (Wa.alloc (.cells #[.int .i64 1] 3)).alloc (.cells #[.int .i64 0] 3) = W4 := ⟨_, rfl⟩
    have hzW : w2.heap.size + 1 < Wa.heap.size := by have := HEI.out.size; omega
    have HB1 : Hid (Below w2.heap.size w2 W4) := Lib.hid (by rw [← hW4]; exact (HUP.out.alloc HUP.out.size _).alloc (by have := HUP.out.size; simp; omega) _)
    have hz4 : W4.heap.size = Wa.heap.size + 1 + 1 := by rw [← hW4]; simp
    have hz13 : Wa.heap.size + 1 < W4.heap.size := by omega
    have hzw : w.heap.size ≤ W4.heap.size := by omega
    have HT1 : Hid (W4.cell? ⟨Wa.heap.size, 0, none⟩ = some (.int .i64 1)) := Lib.hid (by rw [← hW4]; simp [go_sem])
    have HEI1 : Hid (EC w W4 (Wa.heap.size + 1) 0 W4) := Lib.hid ⟨Nat.le_refl _, fun _ _ _ => rfl, HS2.out.below.trans (HB1.out.mono hzw2), by rw [← hW4]; simp [go_sem], by rw [← hW4]; simp [go_sem]⟩
    have HD4 : Hid (W4.heap[W3.heap.size]? = some (.deferred (some []))) := Lib.hid (by rw [← hW4, Below.heap_alloc _ _ _ (by have := (Array.getElem?_eq_some_iff.1 HD.out).1; simp; omega), Below.heap_alloc _ _ _ (Array.getElem?_eq_some_iff.1 HD.out).1]; exact HD.out)
    try rw [hW4]
    refine (wpIn_wide (n := 6)).1 ?_
    refine wpIn_turnsB (F := Fence.wide) (G := (fun k => k = 2)) rfl (by decide) (gf := 61) (lb := #[.pointer (some ⟨cb, 0, none⟩)]) rfl trivial (enters_of Tryz.func61 (by kernel_rfl) rfl)
      (HSEQ.out W4 HB1.out) (fun k hk => by have hk' : k = 2 := hk; omega) (fun x => rfl)
      (fun pre W => EC w W4 (Wa.heap.size + 1) pre.length W ∧ True)
      (fun _ _ _ => False)
      (fun s A A' h hb => ⟨h.1.keep hb hz13 hzw, h.2⟩)
      (fun _ _ _ _ h _ => h)
      ⟨HEI1.out, trivial⟩
      (fun b pre x V => ∃ g, b = ({ tmps := #[Value.string s, Value.int .i64 many, undef, Value.pointer (some { block := w.heap.size, off := 0 }), Value.pointer (some { block := w.heap.size + 1, off := 0 }), Value.pointer (some { block := b5, off := 0 }), Value.func (.func 61) #[] #[Value.pointer (some { block := cb, off := 0 })], Value.pointer (some { block := Wa.heap.size, off := 0 }), Value.pointer (some { block := Wa.heap.size + 1, off := 0 }), .int .i64 (x.1 : Int), .pointer (some ⟨g, 0, none⟩), Value.string s, Value.slice oa E.length c6, Value.string s, Value.func (.func 61) #[] #[Value.pointer (some { block := cb, off := 0 })], Value.func (.func 61) #[] #[Value.pointer (some { block := cb, off := 0 })], Value.bool false, Value.int .i64 1, Value.bool true, Value.int .i64 0, Value.int .i64 1, Value.func (.func 61) #[] #[Value.pointer (some { block := cb, off := 0 })], .int .i64 (x.1 : Int), .agg #[.int .i64 x.2.k, .int .i64 x.2.i, .int .u64 x.2.u, .string x.2.s], undef, undef, undef, undef, undef, undef, undef, undef, undef, undef, undef, undef, undef, undef, undef, undef, undef, undef, undef, undef, undef, undef, undef, undef, undef, undef, Value.int .i64 0, Value.bool true, Value.bool true, Value.int .i64 ↑pr0.length, Value.slice oa E.length c6, Value.int .i64 ↑E.length, Value.int .i64 many, Value.int .i64 M, Value.int .i64 ↑pr0.length, Value.bool false, Value.bool false, Value.bool false, Value.int .i64 0, Value.bool false, Value.bool false, undef, undef, undef, undef, Value.bool false, Value.bool false, Value.int .i64 0], defers := [] } : Act) ∧ W4.heap.size + 2 ≤ g ∧ ValAt V ⟨g, 0, none⟩ x.2 ∧ EC w W4 (Wa.heap.size + 1) pre.length V ∧ True)
      (fun b pre x V o hz h => by
        obtain ⟨g, h0, hg, ⟨q0, q1, q2, q3⟩, he, hq⟩ := h
        have hne : (V.putObj (W4.heap.size + 1) o).heap[g]? = V.heap[g]? := World.putObj_heap_other (by omega)
        exact ⟨g, h0, hg, ⟨(World.cell?_of_block (a := ⟨g, 0, none⟩) hne).trans q0, (World.cell?_of_block (a := ⟨g, 0 + 1, none⟩) hne).trans q1, (World.cell?_of_block (a := ⟨g, 0 + 2, none⟩) hne).trans q2, (World.cell?_of_block (a := ⟨g, 0 + 3, none⟩) hne).trans q3⟩, he.keep (below_putC (Below.refl _ V) (by omega) o) hz13 hzw, hq⟩)
      ?assign1 ?body1 ?done1 ?stop1
    case assign1 =>
      rintro l pre x W K ⟨hei, hq⟩ hsp hsz hK
      have HK := Lib.hid (hK _ (W.alloc (vObj x.2)) ⟨W.heap.size, rfl, hsz, litV0 W x.2, hei.keep ((Below.refl _ W).alloc (by omega) _) hz13 hzw, hq⟩ ((Below.refl _ W).alloc (Nat.le_refl _) _))
      clear hK hei hq hsp
      simp only [encV, Vl.val]
      gi_wp2
      exact HK.out
    case body1 =>
      rintro l b pre x W ⟨g, rfl, hg, hv, hei, hq⟩ hsp hszW
      obtain ⟨hlt, hx⟩ := pre_at hsp
      have hx1 : x.1 = pre.length := by rw [← hx]; exact HNUM.out _ hlt
      obtain ⟨a6, e6, k6⟩ := HS2.out.vals pre.length hlt
      rw [hx] at k6
      obtain ⟨xi, xv⟩ := x
      simp only at hx1 k6 hv
      subst hx1
      have hsz := HB1.out.size
      have up : ∀ p : Addr, p.block < w2.heap.size → W.cell? p = w2.cell? p := fun p hp => (hei.cell (by omega) (by omega)).trans (HB1.out.cell hp)
      have g4 : W.cell? ⟨w.heap.size, 0, none⟩ = some (.int .i64 many) := (up _ (by simp; omega)).trans HS2.out.many
      have g6 : W.cell? ⟨b5, 0, none⟩ = some (.slice oa E.length c6) := (up _ (by simp; omega)).trans HS2.out.want
      have g12 : W.cell? ⟨Wa.heap.size, 0, none⟩ = some (.int .i64 1) := (hei.cell (by simp; omega) (by simp)).trans HT1.out
      have g13 := hei.at13
      have g13F := hei.at13F
      have hbl : (a6.add (pre.length * 4)).block < w2.heap.size := World.block_lt_of_cell? w2 _ k6.1
      obtain ⟨q0, q1, q2, q3⟩ := k6
      have y0 := (up _ hbl).trans q0
      have y1 := (up ⟨_, _, none⟩ hbl).trans q1
      have y2 := (up ⟨_, _, none⟩ hbl).trans q2
      have y3 := (up ⟨_, _, none⟩ hbl).trans q3
      obtain ⟨x0, x1, x2, x3⟩ := hv
      rw [e6] at g6
      have hd : decide ((E.length : Int) ≤ (pre.length : Int)) = false := by simp; omega
      have hlt2 : (pre.length : Int) < (E.length : Int) := by omega
      have hlen : (pre ++ [(pre.length, xv)]).length = pre.length + 1 := by simp
      have hnn : ((pre.length : Int) != (pre.length : Int)) = false := by simp
      have hvq : (binOp .neq 25 (.agg #[.int .i64 xv.k, .int .i64 xv.i, .int .u64 xv.u, .string xv.s]) (.agg #[.int .i64 xv.k, .int .i64 xv.i, .int .u64 xv.u, .string xv.s])).run Tryz.prog W = .ok (.bool false) W := by rw [run_neq_val]; simp [vEqB]
      have HQ := Lib.hid hq
      have HLEN := Lib.hid hlen
      clear hq up e6 hx hsp hlen q0 q1 q2 q3 hbl
      dsimp only
      gi_wp2_with fail
      have hS : (fun V => V.cell? ⟨Wa.heap.size + 1, 0, none⟩ = some (.int .i64 (pre.length : Int)) ∧ V.cell? ⟨b5, 0, none⟩ = some (.slice (some a6) E.length c6) ∧ ValAt V ⟨g, 0, none⟩ xv ∧ ValAt V (a6.add (pre.length * 4)) xv) W.drew := ⟨g13, g6, ⟨x0, x1, x2, x3⟩, ⟨y0, y1, y2, y3⟩⟩
      have g4' : W.drew.cell? ⟨w.heap.size, 0, none⟩ = some (.int .i64 many) := g4
      have g12' : W.drew.cell? ⟨Wa.heap.size, 0, none⟩ = some (.int .i64 1) := g12
      have g13' : W.drew.cell? ⟨Wa.heap.size + 1, 0, none⟩ = some (.int .i64 (pre.length : Int)) := g13
      have g13F' : W.drew.frozen? ⟨Wa.heap.size + 1, 0, none⟩ = false := g13F
      have hKW : Keep W4.heap.size (fun k => k = 2) W W.drew := ⟨Nat.le_refl _, fun _ _ _ => rfl⟩
      have hKX : Keep (Wa.heap.size + 1 + 1) (fun k => k = 2) W W.drew := ⟨Nat.le_refl _, fun _ _ _ => rfl⟩
      have HEIB := Lib.hid (hei.keep ((Below.refl W4.heap.size W).drew) hz13 hzw)
      refine wpIn_region_Y (S := fun V => V.cell? ⟨Wa.heap.size + 1, 0, none⟩ = some (.int .i64 (pre.length : Int)) ∧ V.cell? ⟨b5, 0, none⟩ = some (.slice (some a6) E.length c6) ∧ ValAt V ⟨g, 0, none⟩ xv ∧ ValAt V (a6.add (pre.length * 4)) xv) (by kernel_rfl) ?_
      obtain ⟨Wq, hWq⟩ : ∃ Wq, W.drew = Wq := ⟨_, rfl⟩
      rw [hWq] at hS g4' g12' g13' g13F' hKW hKX HEIB
      rw [hWq]
      clear hei g4 g6 g12 g13 g13F x0 x1 x2 x3 y0 y1 y2 y3 hWq
      refine wpAnyY_take (i := 0) (oi := { dst := some 24, op := Go.Op.move (Go.Operand.tmp 9), type := 3, pos := "law.go:109", after := #[], guard := none }) (v := .int .i64 (pre.length : Int)) rfl (by kernel_rfl) (by kernel_rfl) (by kernel_rfl) (by kernel_rfl) (fun _ _ _ h => h) (by intro w; first | rfl | (simp [Oper.about, resolve, Target.leads]; done)) (Or.inl ⟨by rfl, ?hy0⟩) hS ?_
      case hy0 => (rintro V ⟨s1, s2, ⟨s5, s6, s7, s8⟩, ⟨t5, t6, t7, t8⟩⟩; go_simp; try with_reducible rfl)
      try simp only [Act.put, List.setIfInBounds_toArray, List.set_cons_zero, List.set_cons_succ]
      refine wpAnyY_take (i := 1) (oi := { dst := some 25, op := Go.Op.load 3 (Go.Operand.tmp 8), type := 3, pos := "law.go:109", after := #[], guard := none }) (v := .int .i64 (pre.length : Int)) rfl (by kernel_rfl) (by kernel_rfl) (by kernel_rfl) (by kernel_rfl) (fun _ _ _ h => h) (by intro w; first | rfl | (simp [Oper.about, resolve, Target.leads]; done)) (Or.inl ⟨by rfl, ?hy1⟩) hS ?_
      case hy1 => (rintro V ⟨s1, s2, ⟨s5, s6, s7, s8⟩, ⟨t5, t6, t7, t8⟩⟩; go_simp; try with_reducible rfl)
      try simp only [Act.put, List.setIfInBounds_toArray, List.set_cons_zero, List.set_cons_succ]
      refine wpAnyY_take (i := 2) (oi := { dst := some 26, op := Go.Op.binOp Go.BinOp.neq 3 (Go.Operand.tmp 24) (Go.Operand.tmp 25) 3, type := 4, pos := "law.go:109", after := #[{ on := 0, ground := Go.Ground.data }, { on := 1, ground := Go.Ground.data }], guard := none }) (v := .bool false) rfl (by kernel_rfl) (by kernel_rfl) (by kernel_rfl) (by kernel_rfl) (fun _ _ _ h => h) (by intro w; first | rfl | (simp [Oper.about, resolve, Target.leads]; done)) (Or.inl ⟨by rfl, ?hy2⟩) hS ?_
      case hy2 => (rintro V ⟨s1, s2, ⟨s5, s6, s7, s8⟩, ⟨t5, t6, t7, t8⟩⟩; go_simp; try with_reducible rfl)
      try simp only [Act.put, List.setIfInBounds_toArray, List.set_cons_zero, List.set_cons_succ]
      refine wpAnyY_take (i := 3) (oi := { dst := some 27, op := Go.Op.move (Go.Operand.tmp 26), type := 4, pos := "law.go:109", after := #[{ on := 2, ground := Go.Ground.data }], guard := none }) (v := .bool false) rfl (by kernel_rfl) (by kernel_rfl) (by kernel_rfl) (by kernel_rfl) (fun _ _ _ h => h) (by intro w; first | rfl | (simp [Oper.about, resolve, Target.leads]; done)) (Or.inl ⟨by rfl, ?hy3⟩) hS ?_
      case hy3 => (rintro V ⟨s1, s2, ⟨s5, s6, s7, s8⟩, ⟨t5, t6, t7, t8⟩⟩; go_simp; try with_reducible rfl)
      try simp only [Act.put, List.setIfInBounds_toArray, List.set_cons_zero, List.set_cons_succ]
      refine wpAnyY_take (i := 4) (oi := { dst := some 28, op := Go.Op.load 3 (Go.Operand.tmp 8), type := 3, pos := "law.go:109", after := #[{ on := 3, ground := Go.Ground.guard }], guard := some (3, false) }) (v := .int .i64 (pre.length : Int)) rfl (by kernel_rfl) (by kernel_rfl) (by kernel_rfl) (by kernel_rfl) (fun _ _ _ h => h) (by intro w; first | rfl | (simp [Oper.about, resolve, Target.leads]; done)) (Or.inl ⟨by rfl, ?hy4⟩) hS ?_
      case hy4 => (rintro V ⟨s1, s2, ⟨s5, s6, s7, s8⟩, ⟨t5, t6, t7, t8⟩⟩; go_simp; try with_reducible rfl)
      try simp only [Act.put, List.setIfInBounds_toArray, List.set_cons_zero, List.set_cons_succ]
      refine wpAnyY_take (i := 5) (oi := { dst := some 29, op := Go.Op.load 26 (Go.Operand.tmp 5), type := 26, pos := "law.go:109", after := #[{ on := 3, ground := Go.Ground.guard }], guard := some (3, false) }) (v := .slice (some a6) E.length c6) rfl (by kernel_rfl) (by kernel_rfl) (by kernel_rfl) (by kernel_rfl) (fun _ _ _ h => h) (by intro w; first | rfl | (simp [Oper.about, resolve, Target.leads]; done)) (Or.inl ⟨by rfl, ?hy5⟩) hS ?_
      case hy5 => (rintro V ⟨s1, s2, ⟨s5, s6, s7, s8⟩, ⟨t5, t6, t7, t8⟩⟩; go_simp; try with_reducible rfl)
      try simp only [Act.put, List.setIfInBounds_toArray, List.set_cons_zero, List.set_cons_succ]
      refine wpAnyY_take (i := 6) (oi := { dst := some 30, op := Go.Op.call { callee := Go.Callee.builtin Go.Builtin.len, args := #[Go.Operand.tmp 29], argTypes := #[26] }, type := 3, pos := "law.go:109", after := #[{ on := 5, ground := Go.Ground.data }, { on := 3, ground := Go.Ground.guard }], guard := some (3, false) }) (v := .int .i64 (E.length : Int)) rfl (by kernel_rfl) (by kernel_rfl) (by kernel_rfl) (by kernel_rfl) (fun _ _ _ h => h) (by intro w; first | rfl | (simp [Oper.about, resolve, Target.leads]; done)) (Or.inl ⟨by rfl, ?hy6⟩) hS ?_
      case hy6 => (rintro V ⟨s1, s2, ⟨s5, s6, s7, s8⟩, ⟨t5, t6, t7, t8⟩⟩; go_simp; try with_reducible rfl)
      try simp only [Act.put, List.setIfInBounds_toArray, List.set_cons_zero, List.set_cons_succ]
      refine wpAnyY_take (i := 7) (oi := { dst := some 31, op := Go.Op.binOp Go.BinOp.geq 3 (Go.Operand.tmp 28) (Go.Operand.tmp 30) 3, type := 4, pos := "law.go:109", after := #[{ on := 4, ground := Go.Ground.data }, { on := 6, ground := Go.Ground.data }, { on := 3, ground := Go.Ground.guard }], guard := some (3, false) }) (v := .bool false) rfl (by kernel_rfl) (by kernel_rfl) (by kernel_rfl) (by kernel_rfl) (fun _ _ _ h => h) (by intro w; first | rfl | (simp [Oper.about, resolve, Target.leads]; done)) (Or.inl ⟨by rfl, ?hy7⟩) hS ?_
      case hy7 => (rintro V ⟨s1, s2, ⟨s5, s6, s7, s8⟩, ⟨t5, t6, t7, t8⟩⟩; go_simp; try with_reducible rfl)
      try simp only [Act.put, List.setIfInBounds_toArray, List.set_cons_zero, List.set_cons_succ]
      refine wpAnyY_take (i := 8) (oi := { dst := some 32, op := Go.Op.pick (Go.Operand.tmp 27) (Go.Operand.const (Go.Value.bool true)) (Go.Operand.tmp 31), type := 4, pos := "law.go:109", after := #[{ on := 3, ground := Go.Ground.data }, { on := 7, ground := Go.Ground.data }], guard := none }) (v := .bool false) rfl (by kernel_rfl) (by kernel_rfl) (by kernel_rfl) (by kernel_rfl) (fun _ _ _ h => h) (by intro w; first | rfl | (simp [Oper.about, resolve, Target.leads]; done)) (Or.inl ⟨by rfl, ?hy8⟩) hS ?_
      case hy8 => (rintro V ⟨s1, s2, ⟨s5, s6, s7, s8⟩, ⟨t5, t6, t7, t8⟩⟩; go_simp; try with_reducible rfl)
      try simp only [Act.put, List.setIfInBounds_toArray, List.set_cons_zero, List.set_cons_succ]
      refine wpAnyY_take (i := 9) (oi := { dst := some 33, op := Go.Op.move (Go.Operand.tmp 32), type := 4, pos := "law.go:109", after := #[{ on := 8, ground := Go.Ground.data }, { on := 3, ground := Go.Ground.chain }], guard := none }) (v := .bool false) rfl (by kernel_rfl) (by kernel_rfl) (by kernel_rfl) (by kernel_rfl) (fun _ _ _ h => h) (by intro w; first | rfl | (simp [Oper.about, resolve, Target.leads]; done)) (Or.inl ⟨by rfl, ?hy9⟩) hS ?_
      case hy9 => (rintro V ⟨s1, s2, ⟨s5, s6, s7, s8⟩, ⟨t5, t6, t7, t8⟩⟩; go_simp; try with_reducible rfl)
      try simp only [Act.put, List.setIfInBounds_toArray, List.set_cons_zero, List.set_cons_succ]
      refine wpAnyY_take (i := 10) (oi := { dst := some 34, op := Go.Op.load 25 (Go.Operand.tmp 10), type := 25, pos := "law.go:109", after := #[{ on := 9, ground := Go.Ground.guard }], guard := some (9, false) }) (v := .agg #[.int .i64 xv.k, .int .i64 xv.i, .int .u64 xv.u, .string xv.s]) rfl (by kernel_rfl) (by kernel_rfl) (by kernel_rfl) (by kernel_rfl) (fun _ _ _ h => h) (by intro w; first | rfl | (simp [Oper.about, resolve, Target.leads]; done)) (Or.inl ⟨by rfl, ?hy10⟩) hS ?_
      case hy10 => (rintro V ⟨s1, s2, ⟨s5, s6, s7, s8⟩, ⟨t5, t6, t7, t8⟩⟩; go_simp; try with_reducible rfl)
      try simp only [Act.put, List.setIfInBounds_toArray, List.set_cons_zero, List.set_cons_succ]
      refine wpAnyY_take (i := 11) (oi := { dst := some 35, op := Go.Op.load 26 (Go.Operand.tmp 5), type := 26, pos := "law.go:109", after := #[{ on := 9, ground := Go.Ground.guard }], guard := some (9, false) }) (v := .slice (some a6) E.length c6) rfl (by kernel_rfl) (by kernel_rfl) (by kernel_rfl) (by kernel_rfl) (fun _ _ _ h => h) (by intro w; first | rfl | (simp [Oper.about, resolve, Target.leads]; done)) (Or.inl ⟨by rfl, ?hy11⟩) hS ?_
      case hy11 => (rintro V ⟨s1, s2, ⟨s5, s6, s7, s8⟩, ⟨t5, t6, t7, t8⟩⟩; go_simp; try with_reducible rfl)
      try simp only [Act.put, List.setIfInBounds_toArray, List.set_cons_zero, List.set_cons_succ]
      refine wpAnyY_take (i := 12) (oi := { dst := some 36, op := Go.Op.load 3 (Go.Operand.tmp 8), type := 3, pos := "law.go:109", after := #[{ on := 9, ground := Go.Ground.guard }], guard := some (9, false) }) (v := .int .i64 (pre.length : Int)) rfl (by kernel_rfl) (by kernel_rfl) (by kernel_rfl) (by kernel_rfl) (fun _ _ _ h => h) (by intro w; first | rfl | (simp [Oper.about, resolve, Target.leads]; done)) (Or.inl ⟨by rfl, ?hy12⟩) hS ?_
      case hy12 => (rintro V ⟨s1, s2, ⟨s5, s6, s7, s8⟩, ⟨t5, t6, t7, t8⟩⟩; go_simp; try with_reducible rfl)
      try simp only [Act.put, List.setIfInBounds_toArray, List.set_cons_zero, List.set_cons_succ]
      refine wpAnyY_take (i := 13) (oi := { dst := some 37, op := Go.Op.indexAddr 26 (Go.Operand.tmp 35) (Go.Operand.tmp 36), type := 0, pos := "law.go:109", after := #[{ on := 11, ground := Go.Ground.data }, { on := 12, ground := Go.Ground.data }, { on := 9, ground := Go.Ground.guard }], guard := some (9, false) }) (v := .pointer (some (a6.add (pre.length * 4)))) rfl (by kernel_rfl) (by kernel_rfl) (by kernel_rfl) (by kernel_rfl) (fun _ _ _ h => h) (by intro w; first | rfl | (simp [Oper.about, resolve, Target.leads]; done)) (Or.inl ⟨by rfl, ?hy13⟩) hS ?_
      case hy13 => (rintro V ⟨s1, s2, ⟨s5, s6, s7, s8⟩, ⟨t5, t6, t7, t8⟩⟩; go_simp; try with_reducible rfl)
      try simp only [Act.put, List.setIfInBounds_toArray, List.set_cons_zero, List.set_cons_succ]
      refine wpAnyY_take (i := 14) (oi := { dst := some 38, op := Go.Op.load 25 (Go.Operand.tmp 37), type := 25, pos := "law.go:109", after := #[{ on := 13, ground := Go.Ground.data }, { on := 9, ground := Go.Ground.guard }], guard := some (9, false) }) (v := .agg #[.int .i64 xv.k, .int .i64 xv.i, .int .u64 xv.u, .string xv.s]) rfl (by kernel_rfl) (by kernel_rfl) (by kernel_rfl) (by kernel_rfl) (fun _ _ _ h => h) (by intro w; first | rfl | (simp [Oper.about, resolve, Target.leads]; done)) (Or.inl ⟨by rfl, ?hy14⟩) hS ?_
      case hy14 => (rintro V ⟨s1, s2, ⟨s5, s6, s7, s8⟩, ⟨t5, t6, t7, t8⟩⟩; go_simp; try with_reducible rfl)
      try simp only [Act.put, List.setIfInBounds_toArray, List.set_cons_zero, List.set_cons_succ]
      refine wpAnyY_take (i := 15) (oi := { dst := some 39, op := Go.Op.binOp Go.BinOp.neq 25 (Go.Operand.tmp 34) (Go.Operand.tmp 38) 25, type := 4, pos := "law.go:109", after := #[{ on := 10, ground := Go.Ground.data }, { on := 14, ground := Go.Ground.data }, { on := 9, ground := Go.Ground.guard }], guard := some (9, false) }) (v := .bool false) rfl (by kernel_rfl) (by kernel_rfl) (by kernel_rfl) (by kernel_rfl) (fun _ _ _ h => h) (by intro w; first | rfl | (simp [Oper.about, resolve, Target.leads]; done)) (Or.inl ⟨by rfl, ?hy15⟩) hS ?_
      case hy15 => (rintro V ⟨s1, s2, ⟨s5, s6, s7, s8⟩, ⟨t5, t6, t7, t8⟩⟩; go_simp; try with_reducible rfl)
      try simp only [Act.put, List.setIfInBounds_toArray, List.set_cons_zero, List.set_cons_succ]
      refine wpAnyY_take (i := 16) (oi := { dst := some 40, op := Go.Op.pick (Go.Operand.tmp 33) (Go.Operand.const (Go.Value.bool true)) (Go.Operand.tmp 39), type := 4, pos := "law.go:109", after := #[{ on := 9, ground := Go.Ground.data }, { on := 15, ground := Go.Ground.data }], guard := none }) (v := .bool false) rfl (by kernel_rfl) (by kernel_rfl) (by kernel_rfl) (by kernel_rfl) (fun _ _ _ h => h) (by intro w; first | rfl | (simp [Oper.about, resolve, Target.leads]; done)) (Or.inl ⟨by rfl, ?hy16⟩) hS ?_
      case hy16 => (rintro V ⟨s1, s2, ⟨s5, s6, s7, s8⟩, ⟨t5, t6, t7, t8⟩⟩; go_simp; try with_reducible rfl)
      try simp only [Act.put, List.setIfInBounds_toArray, List.set_cons_zero, List.set_cons_succ]
      refine wpAnyY_done (by kernel_rfl) ?_ _
      gi_wp2_with fail
      exact ⟨(by first | exact hKW.setCell (p := ⟨Wa.heap.size + 1, 0, none⟩) (show Wa.heap.size + 1 < _ by omega) (fun h => by have h' : Wa.heap.size + 1 = 2 := h; omega) _ | exact hKX.setCell (p := ⟨Wa.heap.size + 1, 0, none⟩) (show Wa.heap.size + 1 < _ by omega) (fun h => by have h' : Wa.heap.size + 1 = 2 := h; omega) _), by rw [HLEN.out]; exact HEIB.out.next (by omega), trivial⟩
    case done1 =>
      rintro xs Wb hxs ⟨hei, _⟩ hD
      rw [hxs] at hei
      clear hxs xs
      have hsz := HB1.out.size
      have up : ∀ p : Addr, p.block < w2.heap.size → Wb.cell? p = w2.cell? p := fun p hp => (hei.cell (by omega) (by omega)).trans (HB1.out.cell hp)
      have g4 : Wb.cell? ⟨w.heap.size, 0, none⟩ = some (.int .i64 many) := (up _ (by simp; omega)).trans HS2.out.many
      have g6 : Wb.cell? ⟨b5, 0, none⟩ = some (.slice oa E.length c6) := (up _ (by simp; omega)).trans HS2.out.want
      have g12 : Wb.cell? ⟨Wa.heap.size, 0, none⟩ = some (.int .i64 1) := (hei.cell (by simp; omega) (by simp)).trans HT1.out
      have g13 := hei.at13
      have HEIb := Lib.hid hei
      have HDb := Lib.hid hD
      have hne : ((E.length : Int) != (E.length : Int)) = false := by simp
      clear up hei hD
      go_wp2_with fail
      rw [rounds_succ]
      go_upto_region 20 with fail
      have HUPb := Lib.hid (HEIb.out.up HS2.out.below HB1.out (by omega))
      obtain ⟨w9, hw9⟩ : ∃ w9, Wb.alloc (.cells #[.int .i64 2] 3) = w9 := ⟨_, rfl⟩
      have HB9 : Hid (Below w2.heap.size w2 w9) := Lib.hid (by rw [← hw9]; exact HUPb.out.alloc HUPb.out.size _)
      have r0 : w9.cell? ⟨w.heap.size + 1, 0, none⟩ = some (.bool false) := by rw [HB9.out.cell (by simp; omega)]; exact HS2.out.res
      have r0F : w9.frozen? ⟨w.heap.size + 1, 0, none⟩ = false := by rw [HB9.out.frozen (by simp; omega)]; exact HS2.out.resF
      have hlb := (Array.getElem?_eq_some_iff.1 HDb.out).1
      have hla := (Array.getElem?_eq_some_iff.1 HD4.out).1
      have hl3 := (Array.getElem?_eq_some_iff.1 HD.out).1
      have D1 : w9.heap[W4.heap.size]? = some (.deferred (some [])) := by rw [← hw9]; exact (Below.heap_alloc _ _ _ hlb).trans HDb.out
      have D0 : w9.heap[W3.heap.size]? = some (.deferred (some [])) := by rw [← hw9]; exact (Below.heap_alloc _ _ _ (by have := HEIb.out.size; omega)).trans ((HEIb.out.same _ hla (by omega)).trans HD4.out)
      rw [hw9]
      clear hw9
      have HD1 := Lib.hid D1
      have HD0 := Lib.hid D0
      clear D1 D0
      go_wp2_with fail
      have e1 : (w9.setCell ⟨w.heap.size + 1, 0, none⟩ (.bool true)).heap[W4.heap.size]? = some (.deferred (some [])) := (Below.heap_setCell _ _ _ _ (by simp; omega)).trans HD1.out
      have e0 : (w9.setCell ⟨w.heap.size + 1, 0, none⟩ (.bool true)).heap[W3.heap.size]? = some (.deferred (some [])) := (Below.heap_setCell _ _ _ _ (by simp; omega)).trans HD0.out
      refine ⟨by simp, .inl ⟨_, _, rfl, run_takeDeferred e1, ?_⟩⟩
      have e2 : ((w9.setCell ⟨w.heap.size + 1, 0, none⟩ (.bool true)).putObj W4.heap.size (.deferred none)).heap[W3.heap.size]? = some (.deferred (some [])) := (World.putObj_heap_other (by omega)).trans e0
      refine ⟨by simp, .inl ⟨_, _, rfl, run_takeDeferred e2, ?_⟩⟩
      have hcell : (((w9.setCell ⟨w.heap.size + 1, 0, none⟩ (.bool true)).putObj W4.heap.size (.deferred none)).putObj W3.heap.size (.deferred none)).cell? ⟨w.heap.size + 1, 0, none⟩ = some (.bool true) := cell_put (cell_put (World.cell?_setCell_same' _ _ _ (by rw [r0]; rfl)) e1 _) e2 _
      exact ⟨.bool true, by simp [results, Tryz.results23, go_sem, hcell], rfl, below_putC (below_putC ((HS2.out.below.trans (HB9.out.mono hzw2)).setCell (p := ⟨w.heap.size + 1, 0, none⟩) (by simp) _) (by omega) _) (by omega) _⟩
    case stop1 =>
      intro c pre W _ hix
      exact hix.elim
end Go.Proofs.YtifmfcaaofiboaaGreatDoor
