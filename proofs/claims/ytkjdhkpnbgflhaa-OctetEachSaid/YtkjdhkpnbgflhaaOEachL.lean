/-
  swingbridgelaw02.OctetEach: its walk (under way).
-/
import Derived.Test.YtkjdhkpnbgflhaaOEachI
import Derived.Test.YtkjdhkpnbgflhaaOREb
import Derived.Test.YtkjdhkpnbgflhaaOCut
namespace Go.Proofs.Ytkjdhkpnbgflhaa
open Go.RowKit Go.Shelf
attribute [local go_sem] Oper.semAt_some

theorem one_cell {W : World} {a : Addr} {v : Value} (h : W.cell? a = some v) : ∀ j u, [v][j]? = some u → W.cell? (a.add j) = some u := by
  intro j u hj
  cases j with
  | zero =>
    simp at hj
    subst hj
    rw [show a.add 0 = a by unfold Addr.add; split <;> simp_all]
    exact h
  | succ j => simp at hj
theorem St.drew {w wr : World} {many : Int} {c5 c6 v5 v6 : Value} {l5 l6 : List Value} (h : St w many wr c5 c6 v5 v6 l5 l6) : St w many wr.drew c5 c6 v5 v6 l5 l6 :=
  ⟨h.many, h.res, h.resF, h.at5, h.at5F, h.at6, h.at6F, h.r5, h.r6, h.below.drew⟩
theorem lit0 (W : World) (v : Value) (t : TypeId) : (W.alloc (.cells #[v] t)).cell? ⟨W.heap.size, 0, none⟩ = some v := by simp [go_sem]
theorem lit0b (W : World) (o : Obj) (v : Value) (t : TypeId) : ((W.alloc o).alloc (.cells #[v] t)).cell? ⟨W.heap.size + 1, 0, none⟩ = some v := by
  have h := lit0 (W.alloc o) v t
  rwa [World.size_alloc] at h
theorem lit1 (W : World) (v : Value) (t : TypeId) (o : Obj) : ((W.alloc (.cells #[v] t)).alloc o).cell? ⟨W.heap.size, 0, none⟩ = some v := by simp [go_sem]
theorem row_ne {W : World} {B e n q : Nat} {v : Value} {xs : List Value} (h : W.ownsRow B e 1 v n xs) (hq : W.heap.size ≤ q) : some q ≠ v.ownBlock := fun he => by
  have := (h.lt q he.symm).2
  omega
def l5 (pre : List (Nat × Nat)) : List Value := pre.map fun x => .int .i64 x.1
def l6 (pre : List (Nat × Nat)) : List Value := pre.map fun x => .int .u64 x.2
theorem info3 : (Try.prog.info? 3).map (fun i => (i.zero, i.size, i.bytes)) = some (some (.int .i64 0), 1, 8) := by kernel_rfl
theorem info26 : (Try.prog.info? 26).map (fun i => (i.zero, i.size, i.bytes)) = some (some (.int .u64 0), 1, 8) := by kernel_rfl
theorem St.keep {w wr w' : World} {many : Int} {c5 c6 v5 v6 : Value} {l5 l6 : List Value} (h : St w many wr c5 c6 v5 v6 l5 l6) (hb : Below wr.heap.size wr w') : St w many w' c5 c6 v5 v6 l5 l6 :=
  have hg : wr.grownBy w' none := ⟨hb.os, hb.tape, hb.output, hb.size, fun k hk _ => hb.block k hk⟩
  h.grown hg (fun _ e => by cases e) (h.r5.kept hg (by cases v5.ownBlock <;> simp)) (h.r6.kept hg (by cases v6.ownBlock <;> simp))
set_option maxRecDepth 100000 in
set_option maxHeartbeats 4000000 in
theorem each_deep (vb : Value) (b : List UInt8) (many : Int) (w : World) (hv : BytesOf w vb b) (hl : b.length ≤ 300) (hm0 : -9223372036854775808 ≤ many) (hm1 : many ≤ 9223372036854775807) :
    Calls Try.prog 3 #[vb, .int .i64 many] w fun e w' => e = .returned (.bool true) ∧ Below w.heap.size w w' := by
  have HV := Lib.hid hv
  obtain ⟨oa, cap, rfl, hcap, _⟩ := hv.at
  clear hv
  obtain ⟨i3, hi3, hz30, hz31, hz32⟩ := info_parts info3
  obtain ⟨i6, hi6, hz60, hz61, hz62⟩ := info_parts info26
  have HI3 := Lib.hid hi3
  have HI6 := Lib.hid hi6
  have HZ3 := Lib.hid (And.intro hz30 (And.intro hz31 hz32))
  have HZ6 := Lib.hid (And.intro hz60 (And.intro hz61 hz62))
  clear hi3 hi6 hz30 hz31 hz32 hz60 hz61 hz62
  refine (callsIn_wide (n := 5)).1 ?_
  refine callsIn_of_wp_marks Try.func3 rfl trivial ?_ rfl
  simp only [Try.ntmps3, List.size_toArray, List.length_cons, List.length_nil, Nat.reduceAdd, Nat.reduceSub, Array.replicate_succ, Array.replicate_zero, List.push_toArray, List.append_toArray, List.nil_append, List.cons_append]
  refine wpIn_wide.2 ?_
  go_wp2
  obtain ⟨W0, hW0⟩ : ∃ W0, ((((w.alloc (.cells #[.int .i64 many] 3)).alloc (.cells #[.bool false] 4)).alloc (.cells #[.slice none 0 0] 24)).alloc (.cells #[.slice none 0 0] 25)) = W0 := ⟨_, rfl⟩
  have hS0 : St w many W0 (.slice none 0 0) (.slice none 0 0) (.slice none 0 0) (.slice none 0 0) [] [] := by
    subst hW0
    exact ⟨by simp [go_sem], by simp [go_sem], by simp [go_sem], by simp [go_sem], by simp [go_sem], by simp [go_sem], by simp [go_sem], World.ownsRow_nil _ _ _ _, World.ownsRow_nil _ _ _ _, ((((Below.refl _ w).alloc (by simp) _).alloc (by simp) _).alloc (by simp; omega) _).alloc (by simp; omega) _⟩
  rw [hW0]
  have HS0 := Lib.hid hS0
  clear hS0 hW0
  go_loopw [7] (fun p wr => ∃ (pre : List (Nat × Nat)) (i : Nat) (v5 v6 : Value), p = .int .i64 i ∧ i ≤ b.length ∧ Hid (pre ++ eachW b i = eachW b 0) ∧ Hid (St w many wr v5 v6 v5 v6 (l5 pre) (l6 pre))) (fun p _ => b.length + 1 - (intOf p).toNat)
  case atStart => exact ⟨[], 0, _, _, rfl, by omega, Lib.hid rfl, HS0⟩
  case round =>
    obtain ⟨pre, i, v5, v6, rfl, hi, HP, HS⟩ := hrel
    have hbt : BytesAt wr (.slice oa b.length cap) b := (HV.out.keep HS.out.below (Nat.le_refl _)).at
    have hcut : BytesAt wr (sliced oa i b.length cap 1) (b.drop i) := by
      have h := sliced_at hbt hi (Nat.le_refl _)
      rwa [List.take_of_length_le (by simp)] at h
    have hsl := sl_l oa b.length cap i
    have hsl' : ∀ W, (Instr.sliceAt 22 (.slice oa b.length cap) (some (.int .i64 (i : Int))) none none).run Try.prog W = .ok (sliced oa i b.length cap 1) W := fun W => hsl W hi
    have hC := rReadNumber_any _ _ wr hcut (by simp; omega)
    generalize sliced oa i b.length cap 1 = sv at hsl' hC
    clear hsl hcut hbt
    cases hrd : readN (b.drop i) with
    | none =>
      rw [hrd] at hC
      have HC := Lib.hid (show Calls Try.prog 5 #[sv] wr fun e w' => e = .returned (.tuple #[.int .u64 0, .int .i64 0, .int .i64 120]) ∧ wr = w' from hC)
      have HE := Lib.hid (HP.out.symm.trans (by rw [eachW_none hrd, List.append_nil]))
      clear hC hrd
      go_wp2_with (first | (go_at_call 5; refine HC.out.mono ?_; rintro e w' ⟨rfl, rfl⟩))
      refine (Each_any (.slice oa b.length cap) b wr (HV.out.keep HS.out.below (Nat.le_refl _)) (by omega)).mono ?_
      rintro e w2 ⟨cb, oe, ce, rfl, hcb, hN⟩
      obtain ⟨hbe, hnew, hb2⟩ := hN
      have HS2 := Lib.hid (HS.out.keep hb2)
      have HBE := Lib.hid hbe
      have HNEW := Lib.hid hnew
      have HCB := Lib.hid hcb
      clear hbe hnew hcb hb2 HV HS HP
      have hE := HE.out
      subst hE
      have HSEQ := Lib.hid (fun W (h : Below w2.heap.size w2 W) => each1_turns 4 (by decide) oe ce cb b W (by rw [h.cell (World.block_lt_of_cell? w2 _ HCB.out)]; exact HCB.out) ((HBE.out.keep h (Nat.le_refl _)).at) (by omega))
      have hElen := eachW_len b 0 (Nat.zero_le _)
      clear HE
      generalize eachW b 0 = E at *
      have hnf : ∀ W, (binOp .eql 30 (.func (.func 15) #[] #[.pointer (some ⟨cb, 0, none⟩)]) .nilFunc).run Try.prog W = .ok (.bool false) W := fun W => rfl
      have h4 : w2.cell? ⟨w.heap.size, 0, none⟩ = some (.int .i64 many) := HS2.out.many
      go_wp2_with fail
      refine wp_loop_rounds 3 ?_
      rw [rounds_succ]
      go_wp2_with fail
      obtain ⟨W3, hW3⟩ : ∃ W3, (w2.alloc (.cells #[.int .i64 0] 3)).alloc (.cells #[.int .i64 0] 3) = W3 := ⟨_, rfl⟩
      have HB0 : Hid (Below w2.heap.size w2 W3) := Lib.hid (by rw [← hW3]; exact ((Below.refl _ _).alloc (Nat.le_refl _) _).alloc (by simp) _)
      have hz3 : W3.heap.size = w2.heap.size + 1 + 1 := by rw [← hW3]; simp
      have hz13 : w2.heap.size + 1 < W3.heap.size := by omega
      have hzw : w.heap.size ≤ W3.heap.size := by have := HS2.out.size; omega
      have hzw2 : w.heap.size ≤ w2.heap.size := by have := HS2.out.size; omega
      have HT0 : Hid (W3.cell? ⟨w2.heap.size, 0, none⟩ = some (.int .i64 0)) := Lib.hid (by rw [← hW3]; simp [go_sem])
      have HEI0 : Hid (EI w W3 (w2.heap.size + 1) 0 W3) := Lib.hid ⟨Nat.le_refl _, fun _ _ _ => rfl, HS2.out.below.trans (HB0.out.mono hzw2), by rw [← hW3]; simp [go_sem], by rw [← hW3]; simp [go_sem]⟩
      rw [hW3]
      clear hW3
      refine (wpIn_wide (n := 5)).1 ?_
      refine wpIn_turns (F := Fence.wide) (G := fun k => ∃ a, oe = some a ∧ k = a.block) rfl (by decide) (gf := 15) (lb := #[.pointer (some ⟨cb, 0, none⟩)]) rfl trivial (enters_of Try.func15 (by kernel_rfl) rfl)
        (HSEQ.out W3 HB0.out) (fun k hk => by obtain ⟨a, e, rfl⟩ := hk; have := HNEW.out a e; have := HB0.out.size; omega) (fun x => rfl)
        (fun pre W => EI w W3 (w2.heap.size + 1) pre.length W ∧ (pre = [] ∨ (pre.length : Int) < many))
        (fun c pre W => c = .exit 4 ∧ EI w W3 (w2.heap.size + 1) pre.length W ∧ 1 ≤ pre.length ∧ many ≤ pre.length ∧ (pre.length = 1 ∨ (pre.length : Int) - 1 < many))
        (fun s A A' h hb => ⟨h.1.keep hb hz13 hzw, h.2⟩)
        (fun c s A A' h hb => ⟨h.1, h.2.1.keep hb hz13 hzw, h.2.2⟩)
        ⟨HEI0.out, .inl rfl⟩
        (fun x => { tmps := #[Value.slice oa b.length cap, Value.int .i64 many, undef, Value.pointer (some { block := w.heap.size, off := 0 }), Value.pointer (some { block := w.heap.size + 1, off := 0 }), Value.pointer (some { block := w.heap.size + 1 + 1, off := 0 }), Value.pointer (some { block := w.heap.size + 1 + 1 + 1, off := 0 }), Value.int .i64 ↑i, Value.int .u64 0, Value.int .i64 0, Value.int .i64 120, Value.func (.func 15) #[] #[Value.pointer (some { block := cb, off := 0 })], Value.pointer (some { block := w2.heap.size, off := 0 }), Value.pointer (some { block := w2.heap.size + 1, off := 0 }), .int .i64 (x.1 : Int), .int .u64 (x.2 : Int), Value.slice oa b.length cap, Value.int .i64 ↑b.length, Value.bool (decide ((300 : Int) < ↑b.length)), undef, Value.int .i64 ↑i, Value.slice oa b.length cap, Value.int .i64 ↑b.length, Value.bool true, Value.tuple #[Value.int .u64 0, Value.int .i64 0, Value.int .i64 120], Value.slice oa b.length cap, Value.int .i64 ↑i, sv, Value.tuple #[Value.int .u64 0, Value.int .i64 0, Value.int .i64 120], Value.int .u64 0, Value.int .i64 0, Value.int .i64 120, Value.int .i64 120, Value.bool true, u34, u35, u36, u37, u38, u39, u40, u41, u42, u43, u44, Value.slice oa b.length cap, Value.func (.func 15) #[] #[Value.pointer (some { block := cb, off := 0 })], Value.func (.func 15) #[] #[Value.pointer (some { block := cb, off := 0 })], Value.bool false, Value.int .i64 0, Value.bool true, undef, undef, Value.func (.func 15) #[] #[Value.pointer (some { block := cb, off := 0 })], .int .i64 (x.1 : Int), .int .u64 (x.2 : Int), undef, undef, undef, undef, undef, undef, undef, undef, undef, undef, undef, undef, undef, undef, undef, undef, undef, undef, undef, undef, undef, undef, undef, undef, undef, undef, undef, undef, undef, undef, undef, undef, undef, undef, undef, undef, undef, undef, undef, undef, undef, undef, undef, undef, undef, undef, undef, undef, undef, undef, undef, undef], defers := [] }) ?assign0 ?body0 ?done0 ?stop0
      case assign0 =>
        intro l x W K hK
        simp only [encE]
        gi_wp2
        exact hK
      case body0 =>
        rintro l pre x W ⟨hei, hq⟩ hsp hszW
        obtain ⟨hlt, hx⟩ := pre_at hsp
        have r5 := (row_cell HS2.out.r5 (by simp [l5]; omega))
        have r6 := (row_cell HS2.out.r6 (by simp [l6]; omega))
        obtain ⟨a5, c5, e5, h5lo, h5hi, h5⟩ := r5
        obtain ⟨a6, c6, e6, h6lo, h6hi, h6⟩ := r6
        have hsz := HB0.out.size
        have up : ∀ p : Addr, p.block < w2.heap.size → W.cell? p = w2.cell? p := fun p hp => (hei.cell (by omega) (by omega)).trans (HB0.out.cell hp)
        have up2 : ∀ p : Addr, p.block < w2.heap.size → W.frozen? p = w2.frozen? p := fun p hp => (hei.frozen (by omega) (by omega)).trans (HB0.out.frozen hp)
        have g4 : W.cell? ⟨w.heap.size, 0, none⟩ = some (.int .i64 many) := (up _ (by have := HS2.out.size; simp; omega)).trans HS2.out.many
        have g5 : W.cell? ⟨w.heap.size + 1 + 1, 0, none⟩ = some v5 := (up _ (by have := HS2.out.size; simp; omega)).trans HS2.out.at5
        have g6 : W.cell? ⟨w.heap.size + 1 + 1 + 1, 0, none⟩ = some v6 := (up _ (by have := HS2.out.size; simp; omega)).trans HS2.out.at6
        have g12 : W.cell? ⟨w2.heap.size, 0, none⟩ = some (.int .i64 0) := (hei.cell (by simp; omega) (by simp)).trans HT0.out
        have g13 := hei.at13
        have g13F := hei.at13F
        have k5 : W.cell? (a5.add pre.length) = some (.int .i64 (x.1 : Int)) := by rw [up _ (by rw [Addr.add_block]; omega), h5 _ (by simp [l5]; omega)]; simp [l5, hlt, hx]
        have k6 : W.cell? (a6.add pre.length) = some (.int .u64 (x.2 : Int)) := by rw [up _ (by rw [Addr.add_block]; omega), h6 _ (by simp [l6]; omega)]; simp [l6, hlt, hx]
        rw [e5, show (l5 E).length = E.length by simp [l5]] at g5
        rw [e6, show (l6 E).length = E.length by simp [l6]] at g6
        have hd : decide ((E.length : Int) ≤ (pre.length : Int)) = false := by simp; omega
        have hlt2 : (pre.length : Int) < (E.length : Int) := by omega
        have hlen : (pre ++ [x]).length = pre.length + 1 := by simp
        have HEIB := Lib.hid hei
        have HQ := Lib.hid hq
        have HLEN := Lib.hid hlen
        have hkb : ¬ (∃ a, oe = some a ∧ (w2.heap.size + 1) = a.block) := fun ⟨a, e, h⟩ => by have := HNEW.out a e; omega
        have HKB := Lib.hid hkb
        clear hei hq up up2 h5 h6 e5 e6 hx hsp hlen hkb
        dsimp only
        by_cases hmb : many ≤ (pre.length : Int) + 1
        · gi_wp2_with fail
          exact ⟨(Keep.refl _ _ W).setCell (p := ⟨w2.heap.size + 1, 0, none⟩) (show w2.heap.size + 1 < _ by omega) HKB.out _, rfl, by rw [HLEN.out]; exact HEIB.out.next (by omega), by rw [HLEN.out]; omega, by rw [HLEN.out]; omega, by rw [HLEN.out]; rcases HQ.out with h | h; (· left; rw [h]; rfl); (· right; omega)⟩
        · gi_wp2_with fail
          exact ⟨(Keep.refl _ _ W).setCell (p := ⟨w2.heap.size + 1, 0, none⟩) (show w2.heap.size + 1 < _ by omega) HKB.out _, by rw [HLEN.out]; exact HEIB.out.next (by omega), .inr (by rw [HLEN.out]; omega)⟩
      case done0 =>
        rintro xs Wa hxs ⟨hei, hq⟩ hD
        rw [hxs] at hei hq
        clear hxs xs
        have hsz := HB0.out.size
        have up : ∀ p : Addr, p.block < w2.heap.size → Wa.cell? p = w2.cell? p := fun p hp => (hei.cell (by omega) (by omega)).trans (HB0.out.cell hp)
        have up2 : ∀ p : Addr, p.block < w2.heap.size → Wa.frozen? p = w2.frozen? p := fun p hp => (hei.frozen (by omega) (by omega)).trans (HB0.out.frozen hp)
        have g4 : Wa.cell? ⟨w.heap.size, 0, none⟩ = some (.int .i64 many) := (up _ (by have := HS2.out.size; simp; omega)).trans HS2.out.many
        have g6 : Wa.cell? ⟨w.heap.size + 1 + 1 + 1, 0, none⟩ = some v6 := (up _ (by have := HS2.out.size; simp; omega)).trans HS2.out.at6
        have g12 : Wa.cell? ⟨w2.heap.size, 0, none⟩ = some (.int .i64 0) := (hei.cell (by simp; omega) (by simp)).trans HT0.out
        have g13 := hei.at13
        obtain ⟨a6, c6, e6⟩ := row_slice HS2.out.r6
        rw [show (l6 E).length = E.length by simp [l6]] at e6
        rw [e6] at g6
        clear e6
        have HEI := Lib.hid hei
        have HD := Lib.hid hD
        obtain ⟨M, hM⟩ : ∃ M, max (1 : Int) many = M := ⟨_, rfl⟩
        have hmn : min (E.length : Int) M = E.length := by rcases hq with h | h; (· subst h; simp; omega); (· omega)
        have hne : ((E.length : Int) != (E.length : Int)) = false := by simp
        clear up up2 hei hD hq
        go_wp2_with fail
        have HUP := Lib.hid (HEI.out.up HS2.out.below HB0.out (by omega))
        rw [rounds_succ]
        go_wp2_with fail
        obtain ⟨W4, hW4⟩ : ∃ W4, (Wa.alloc (.cells #[.int .i64 1] 3)).alloc (.cells #[.int .i64 0] 3) = W4 := ⟨_, rfl⟩
        have hzW : w2.heap.size + 1 < Wa.heap.size := by have := HEI.out.size; omega
        have HB1 : Hid (Below w2.heap.size w2 W4) := Lib.hid (by rw [← hW4]; exact (HUP.out.alloc HUP.out.size _).alloc (by have := HUP.out.size; simp; omega) _)
        have hz4 : W4.heap.size = Wa.heap.size + 1 + 1 := by rw [← hW4]; simp
        have hz13 : Wa.heap.size + 1 < W4.heap.size := by omega
        have hzw : w.heap.size ≤ W4.heap.size := by omega
        have HT1 : Hid (W4.cell? ⟨Wa.heap.size, 0, none⟩ = some (.int .i64 1)) := Lib.hid (by rw [← hW4]; simp [go_sem])
        have HEI1 : Hid (EI w W4 (Wa.heap.size + 1) 0 W4) := Lib.hid ⟨Nat.le_refl _, fun _ _ _ => rfl, HS2.out.below.trans (HB1.out.mono hzw2), by rw [← hW4]; simp [go_sem], by rw [← hW4]; simp [go_sem]⟩
        have HD4 : Hid (W4.heap[W3.heap.size]? = some (.deferred (some []))) := Lib.hid (by rw [← hW4, Below.heap_alloc _ _ _ (by have := (Array.getElem?_eq_some_iff.1 HD.out).1; simp; omega), Below.heap_alloc _ _ _ (Array.getElem?_eq_some_iff.1 HD.out).1]; exact HD.out)
        try rw [hW4]
        refine (wpIn_wide (n := 5)).1 ?_
        refine wpIn_turns (F := Fence.wide) (G := fun k => ∃ a, oe = some a ∧ k = a.block) rfl (by decide) (gf := 15) (lb := #[.pointer (some ⟨cb, 0, none⟩)]) rfl trivial (enters_of Try.func15 (by kernel_rfl) rfl)
          (HSEQ.out W4 HB1.out) (fun k hk => by obtain ⟨a, e, rfl⟩ := hk; have := HNEW.out a e; have := HB1.out.size; omega) (fun x => rfl)
          (fun pre W => EI w W4 (Wa.heap.size + 1) pre.length W ∧ True)
          (fun _ _ _ => False)
          (fun s A A' h hb => ⟨h.1.keep hb hz13 hzw, h.2⟩)
          (fun _ _ _ _ h _ => h)
          ⟨HEI1.out, trivial⟩
          (fun x => { tmps := #[Value.slice oa b.length cap, Value.int .i64 many, undef, Value.pointer (some { block := w.heap.size, off := 0 }), Value.pointer (some { block := w.heap.size + 1, off := 0 }), Value.pointer (some { block := w.heap.size + 1 + 1, off := 0 }), Value.pointer (some { block := w.heap.size + 1 + 1 + 1, off := 0 }), Value.int .i64 ↑i, Value.int .u64 0, Value.int .i64 0, Value.int .i64 120, Value.func (.func 15) #[] #[Value.pointer (some { block := cb, off := 0 })], Value.pointer (some { block := Wa.heap.size, off := 0 }), Value.pointer (some { block := Wa.heap.size + 1, off := 0 }), .int .i64 (x.1 : Int), .int .u64 (x.2 : Int), Value.slice oa b.length cap, Value.int .i64 ↑b.length, Value.bool (decide ((300 : Int) < ↑b.length)), undef, Value.int .i64 ↑i, Value.slice oa b.length cap, Value.int .i64 ↑b.length, Value.bool true, Value.tuple #[Value.int .u64 0, Value.int .i64 0, Value.int .i64 120], Value.slice oa b.length cap, Value.int .i64 ↑i, sv, Value.tuple #[Value.int .u64 0, Value.int .i64 0, Value.int .i64 120], Value.int .u64 0, Value.int .i64 0, Value.int .i64 120, Value.int .i64 120, Value.bool true, u34, u35, u36, u37, u38, u39, u40, u41, u42, u43, u44, Value.slice oa b.length cap, Value.func (.func 15) #[] #[Value.pointer (some { block := cb, off := 0 })], Value.func (.func 15) #[] #[Value.pointer (some { block := cb, off := 0 })], Value.bool false, Value.int .i64 1, Value.bool true, Value.int .i64 0, Value.int .i64 1, Value.func (.func 15) #[] #[Value.pointer (some { block := cb, off := 0 })], .int .i64 (x.1 : Int), .int .u64 (x.2 : Int), undef, undef, undef, undef, undef, undef, undef, undef, undef, undef, undef, undef, undef, undef, undef, undef, undef, undef, undef, undef, undef, undef, undef, undef, undef, undef, undef, undef, undef, Value.int .i64 0, Value.bool true, Value.bool true, Value.int .i64 ↑E.length, Value.slice a6 E.length c6, Value.int .i64 ↑E.length, Value.int .i64 many, Value.int .i64 M, Value.int .i64 ↑E.length, Value.bool false, Value.bool false, Value.bool false, Value.int .i64 0, Value.bool false, Value.bool false, undef, undef, undef, undef, Value.bool false, Value.bool false, Value.int .i64 0, undef], defers := [] }) ?assign1 ?body1 ?done1 ?stop1
        case assign1 =>
          intro l x W K hK
          simp only [encE]
          gi_wp2
          exact hK
        case body1 =>
          rintro l pre x W ⟨hei, hq⟩ hsp hszW
          obtain ⟨hlt, hx⟩ := pre_at hsp
          have r5 := (row_cell HS2.out.r5 (by simp [l5]; omega))
          have r6 := (row_cell HS2.out.r6 (by simp [l6]; omega))
          obtain ⟨a5, c5, e5, h5lo, h5hi, h5⟩ := r5
          obtain ⟨a6, c6, e6, h6lo, h6hi, h6⟩ := r6
          have hsz := HB1.out.size
          have up : ∀ p : Addr, p.block < w2.heap.size → W.cell? p = w2.cell? p := fun p hp => (hei.cell (by omega) (by omega)).trans (HB1.out.cell hp)
          have up2 : ∀ p : Addr, p.block < w2.heap.size → W.frozen? p = w2.frozen? p := fun p hp => (hei.frozen (by omega) (by omega)).trans (HB1.out.frozen hp)
          have g4 : W.cell? ⟨w.heap.size, 0, none⟩ = some (.int .i64 many) := (up _ (by have := HS2.out.size; simp; omega)).trans HS2.out.many
          have g5 : W.cell? ⟨w.heap.size + 1 + 1, 0, none⟩ = some v5 := (up _ (by have := HS2.out.size; simp; omega)).trans HS2.out.at5
          have g6 : W.cell? ⟨w.heap.size + 1 + 1 + 1, 0, none⟩ = some v6 := (up _ (by have := HS2.out.size; simp; omega)).trans HS2.out.at6
          have g12 : W.cell? ⟨Wa.heap.size, 0, none⟩ = some (.int .i64 1) := (hei.cell (by simp; omega) (by simp)).trans HT1.out
          have g13 := hei.at13
          have g13F := hei.at13F
          have k5 : W.cell? (a5.add pre.length) = some (.int .i64 (x.1 : Int)) := by rw [up _ (by rw [Addr.add_block]; omega), h5 _ (by simp [l5]; omega)]; simp [l5, hlt, hx]
          have k6 : W.cell? (a6.add pre.length) = some (.int .u64 (x.2 : Int)) := by rw [up _ (by rw [Addr.add_block]; omega), h6 _ (by simp [l6]; omega)]; simp [l6, hlt, hx]
          rw [e5, show (l5 E).length = E.length by simp [l5]] at g5
          rw [e6, show (l6 E).length = E.length by simp [l6]] at g6
          have hd : decide ((E.length : Int) ≤ (pre.length : Int)) = false := by simp; omega
          have hlt2 : (pre.length : Int) < (E.length : Int) := by omega
          have hlen : (pre ++ [x]).length = pre.length + 1 := by simp
          have HEIB := Lib.hid hei
          have HQ := Lib.hid hq
          have HLEN := Lib.hid hlen
          have hkb : ¬ (∃ a, oe = some a ∧ (Wa.heap.size + 1) = a.block) := fun ⟨a, e, h⟩ => by have := HNEW.out a e; omega
          have HKB := Lib.hid hkb
          clear hei hq up up2 h5 h6 e5 e6 hx hsp hlen hkb
          dsimp only
          gi_wp2_with fail
          exact ⟨(Keep.refl _ _ W).setCell (p := ⟨Wa.heap.size + 1, 0, none⟩) (show Wa.heap.size + 1 < _ by omega) HKB.out _, by rw [HLEN.out]; exact HEIB.out.next (by omega), trivial⟩
        case done1 =>
          rintro xs Wb hxs ⟨hei, _⟩ hD
          rw [hxs] at hei
          clear hxs xs
          have hsz := HB1.out.size
          have up : ∀ p : Addr, p.block < w2.heap.size → Wb.cell? p = w2.cell? p := fun p hp => (hei.cell (by omega) (by omega)).trans (HB1.out.cell hp)
          have up2 : ∀ p : Addr, p.block < w2.heap.size → Wb.frozen? p = w2.frozen? p := fun p hp => (hei.frozen (by omega) (by omega)).trans (HB1.out.frozen hp)
          have g4 : Wb.cell? ⟨w.heap.size, 0, none⟩ = some (.int .i64 many) := (up _ (by have := HS2.out.size; simp; omega)).trans HS2.out.many
          have g6 : Wb.cell? ⟨w.heap.size + 1 + 1 + 1, 0, none⟩ = some v6 := (up _ (by have := HS2.out.size; simp; omega)).trans HS2.out.at6
          have g12 : Wb.cell? ⟨Wa.heap.size, 0, none⟩ = some (.int .i64 1) := (hei.cell (by simp; omega) (by simp)).trans HT1.out
          have g13 := hei.at13
          obtain ⟨a6, c6, e6⟩ := row_slice HS2.out.r6
          rw [show (l6 E).length = E.length by simp [l6]] at e6
          rw [e6] at g6
          clear e6
          have HEIb := Lib.hid hei
          have HDb := Lib.hid hD
          have hne : ((E.length : Int) != (E.length : Int)) = false := by simp
          clear up up2 hei hD
          go_wp2_with fail
          rw [rounds_succ]
          go_wp2_with fail
          refine (works_true _).mono ?_
          rintro e w9 ⟨rfl, hb9⟩
          have HUPb := Lib.hid (HEIb.out.up HS2.out.below HB1.out (by omega))
          have HB9 := Lib.hid ((HUPb.out.alloc HUPb.out.size (.cells #[.int .i64 2] 3)).trans (hb9.mono (by have := HUPb.out.size; simp; omega)))
          have r0 : w9.cell? ⟨w.heap.size + 1, 0, none⟩ = some (.bool false) := by rw [HB9.out.cell (by have := HS2.out.size; simp; omega)]; exact HS2.out.res
          have r0F : w9.frozen? ⟨w.heap.size + 1, 0, none⟩ = false := by rw [HB9.out.frozen (by have := HS2.out.size; simp; omega)]; exact HS2.out.resF
          have hlb := (Array.getElem?_eq_some_iff.1 HDb.out).1
          have hla := (Array.getElem?_eq_some_iff.1 HD4.out).1
          have hl3 := (Array.getElem?_eq_some_iff.1 HD.out).1
          have D1 : w9.heap[W4.heap.size]? = some (.deferred (some [])) := (hb9.block _ (by simp; omega)).trans ((Below.heap_alloc _ _ _ hlb).trans HDb.out)
          have D0 : w9.heap[W3.heap.size]? = some (.deferred (some [])) := (hb9.block _ (by have := HEIb.out.size; simp; omega)).trans ((Below.heap_alloc _ _ _ (by have := HEIb.out.size; omega)).trans ((HEIb.out.same _ hla (by omega)).trans HD4.out))
          have HD1 := Lib.hid D1
          have HD0 := Lib.hid D0
          clear hb9 D1 D0
          go_wp2_with fail
          have e1 : (w9.setCell ⟨w.heap.size + 1, 0, none⟩ (.bool true)).heap[W4.heap.size]? = some (.deferred (some [])) := (Below.heap_setCell _ _ _ _ (by simp; omega)).trans HD1.out
          have e0 : (w9.setCell ⟨w.heap.size + 1, 0, none⟩ (.bool true)).heap[W3.heap.size]? = some (.deferred (some [])) := (Below.heap_setCell _ _ _ _ (by simp; omega)).trans HD0.out
          rw [hz4] at e1
          rw [hz3] at e0
          refine ⟨by simp, .inl ⟨_, _, rfl, run_takeDeferred e1, ?_⟩⟩
          have e2 : ((w9.setCell ⟨w.heap.size + 1, 0, none⟩ (.bool true)).putObj (Wa.heap.size + 1 + 1) (.deferred none)).heap[w2.heap.size + 1 + 1]? = some (.deferred (some [])) := (World.putObj_heap_other (by omega)).trans e0
          refine ⟨by simp, .inl ⟨_, _, rfl, run_takeDeferred e2, ?_⟩⟩
          have hcell : (((w9.setCell ⟨w.heap.size + 1, 0, none⟩ (.bool true)).putObj (Wa.heap.size + 1 + 1) (.deferred none)).putObj (w2.heap.size + 1 + 1) (.deferred none)).cell? ⟨w.heap.size + 1, 0, none⟩ = some (.bool true) := cell_put (cell_put (World.cell?_setCell_same' _ _ _ (by rw [r0]; rfl)) e1 _) e2 _
          exact ⟨.bool true, by simp [results, Try.results3, go_sem, hcell], rfl, below_put (below_put ((HS2.out.below.trans (HB9.out.mono hzw2)).setCell (p := ⟨w.heap.size + 1, 0, none⟩) (by simp) _) (by omega) _) (by omega) _⟩
        case stop1 =>
          intro c pre W _ hix
          exact hix.elim
      case stop0 =>
        rintro c pre Wa hsp ⟨rfl, hei, q1, q2, q3⟩ hD
        have hpl := pre_le hsp
        have hsz := HB0.out.size
        have up : ∀ p : Addr, p.block < w2.heap.size → Wa.cell? p = w2.cell? p := fun p hp => (hei.cell (by omega) (by omega)).trans (HB0.out.cell hp)
        have up2 : ∀ p : Addr, p.block < w2.heap.size → Wa.frozen? p = w2.frozen? p := fun p hp => (hei.frozen (by omega) (by omega)).trans (HB0.out.frozen hp)
        have g4 : Wa.cell? ⟨w.heap.size, 0, none⟩ = some (.int .i64 many) := (up _ (by have := HS2.out.size; simp; omega)).trans HS2.out.many
        have g6 : Wa.cell? ⟨w.heap.size + 1 + 1 + 1, 0, none⟩ = some v6 := (up _ (by have := HS2.out.size; simp; omega)).trans HS2.out.at6
        have g12 : Wa.cell? ⟨w2.heap.size, 0, none⟩ = some (.int .i64 0) := (hei.cell (by simp; omega) (by simp)).trans HT0.out
        have g13 := hei.at13
        obtain ⟨a6, c6, e6⟩ := row_slice HS2.out.r6
        rw [show (l6 E).length = E.length by simp [l6]] at e6
        rw [e6] at g6
        clear e6
        have HEI := Lib.hid hei
        have HD := Lib.hid hD
        obtain ⟨M, hM⟩ : ∃ M, max (1 : Int) many = M := ⟨_, rfl⟩
        have hmn : min (E.length : Int) M = (pre.length : Int) := by omega
        have hne : ((pre.length : Int) != (pre.length : Int)) = false := by simp
        clear up up2 hei hD hsp q1 q2 q3
        refine wpIn_wide.2 ?_
        go_wp2_with fail
        have HUP := Lib.hid (HEI.out.up HS2.out.below HB0.out (by omega))
        rw [rounds_succ]
        go_wp2_with fail
        obtain ⟨W4, hW4⟩ : ∃ W4, (Wa.alloc (.cells #[.int .i64 1] 3)).alloc (.cells #[.int .i64 0] 3) = W4 := ⟨_, rfl⟩
        have hzW : w2.heap.size + 1 < Wa.heap.size := by have := HEI.out.size; omega
        have HB1 : Hid (Below w2.heap.size w2 W4) := Lib.hid (by rw [← hW4]; exact (HUP.out.alloc HUP.out.size _).alloc (by have := HUP.out.size; simp; omega) _)
        have hz4 : W4.heap.size = Wa.heap.size + 1 + 1 := by rw [← hW4]; simp
        have hz13 : Wa.heap.size + 1 < W4.heap.size := by omega
        have hzw : w.heap.size ≤ W4.heap.size := by omega
        have HT1 : Hid (W4.cell? ⟨Wa.heap.size, 0, none⟩ = some (.int .i64 1)) := Lib.hid (by rw [← hW4]; simp [go_sem])
        have HEI1 : Hid (EI w W4 (Wa.heap.size + 1) 0 W4) := Lib.hid ⟨Nat.le_refl _, fun _ _ _ => rfl, HS2.out.below.trans (HB1.out.mono hzw2), by rw [← hW4]; simp [go_sem], by rw [← hW4]; simp [go_sem]⟩
        have HD4 : Hid (W4.heap[W3.heap.size]? = some (.deferred (some []))) := Lib.hid (by rw [← hW4, Below.heap_alloc _ _ _ (by have := (Array.getElem?_eq_some_iff.1 HD.out).1; simp; omega), Below.heap_alloc _ _ _ (Array.getElem?_eq_some_iff.1 HD.out).1]; exact HD.out)
        try rw [hW4]
        refine (wpIn_wide (n := 5)).1 ?_
        refine wpIn_turns (F := Fence.wide) (G := fun k => ∃ a, oe = some a ∧ k = a.block) rfl (by decide) (gf := 15) (lb := #[.pointer (some ⟨cb, 0, none⟩)]) rfl trivial (enters_of Try.func15 (by kernel_rfl) rfl)
          (HSEQ.out W4 HB1.out) (fun k hk => by obtain ⟨a, e, rfl⟩ := hk; have := HNEW.out a e; have := HB1.out.size; omega) (fun x => rfl)
          (fun pre W => EI w W4 (Wa.heap.size + 1) pre.length W ∧ True)
          (fun _ _ _ => False)
          (fun s A A' h hb => ⟨h.1.keep hb hz13 hzw, h.2⟩)
          (fun _ _ _ _ h _ => h)
          ⟨HEI1.out, trivial⟩
          (fun x => { tmps := #[Value.slice oa b.length cap, Value.int .i64 many, undef, Value.pointer (some { block := w.heap.size, off := 0 }), Value.pointer (some { block := w.heap.size + 1, off := 0 }), Value.pointer (some { block := w.heap.size + 1 + 1, off := 0 }), Value.pointer (some { block := w.heap.size + 1 + 1 + 1, off := 0 }), Value.int .i64 ↑i, Value.int .u64 0, Value.int .i64 0, Value.int .i64 120, Value.func (.func 15) #[] #[Value.pointer (some { block := cb, off := 0 })], Value.pointer (some { block := Wa.heap.size, off := 0 }), Value.pointer (some { block := Wa.heap.size + 1, off := 0 }), .int .i64 (x.1 : Int), .int .u64 (x.2 : Int), Value.slice oa b.length cap, Value.int .i64 ↑b.length, Value.bool (decide ((300 : Int) < ↑b.length)), undef, Value.int .i64 ↑i, Value.slice oa b.length cap, Value.int .i64 ↑b.length, Value.bool true, Value.tuple #[Value.int .u64 0, Value.int .i64 0, Value.int .i64 120], Value.slice oa b.length cap, Value.int .i64 ↑i, sv, Value.tuple #[Value.int .u64 0, Value.int .i64 0, Value.int .i64 120], Value.int .u64 0, Value.int .i64 0, Value.int .i64 120, Value.int .i64 120, Value.bool true, u34, u35, u36, u37, u38, u39, u40, u41, u42, u43, u44, Value.slice oa b.length cap, Value.func (.func 15) #[] #[Value.pointer (some { block := cb, off := 0 })], Value.func (.func 15) #[] #[Value.pointer (some { block := cb, off := 0 })], Value.bool false, Value.int .i64 1, Value.bool true, Value.int .i64 0, Value.int .i64 1, Value.func (.func 15) #[] #[Value.pointer (some { block := cb, off := 0 })], .int .i64 (x.1 : Int), .int .u64 (x.2 : Int), undef, undef, undef, undef, undef, undef, undef, undef, undef, undef, undef, undef, undef, undef, undef, undef, undef, undef, undef, undef, undef, undef, undef, undef, undef, undef, undef, undef, undef, Value.int .i64 0, Value.bool true, Value.bool true, Value.int .i64 ↑pre.length, Value.slice a6 E.length c6, Value.int .i64 ↑E.length, Value.int .i64 many, Value.int .i64 M, Value.int .i64 ↑pre.length, Value.bool false, Value.bool false, Value.bool false, Value.int .i64 0, Value.bool false, Value.bool false, undef, undef, undef, undef, Value.bool false, Value.bool false, Value.int .i64 0, undef], defers := [] }) ?assign1 ?body1 ?done1 ?stop1
        case assign1 =>
          intro l x W K hK
          simp only [encE]
          gi_wp2
          exact hK
        case body1 =>
          rintro l pre x W ⟨hei, hq⟩ hsp hszW
          obtain ⟨hlt, hx⟩ := pre_at hsp
          have r5 := (row_cell HS2.out.r5 (by simp [l5]; omega))
          have r6 := (row_cell HS2.out.r6 (by simp [l6]; omega))
          obtain ⟨a5, c5, e5, h5lo, h5hi, h5⟩ := r5
          obtain ⟨a6, c6, e6, h6lo, h6hi, h6⟩ := r6
          have hsz := HB1.out.size
          have up : ∀ p : Addr, p.block < w2.heap.size → W.cell? p = w2.cell? p := fun p hp => (hei.cell (by omega) (by omega)).trans (HB1.out.cell hp)
          have up2 : ∀ p : Addr, p.block < w2.heap.size → W.frozen? p = w2.frozen? p := fun p hp => (hei.frozen (by omega) (by omega)).trans (HB1.out.frozen hp)
          have g4 : W.cell? ⟨w.heap.size, 0, none⟩ = some (.int .i64 many) := (up _ (by have := HS2.out.size; simp; omega)).trans HS2.out.many
          have g5 : W.cell? ⟨w.heap.size + 1 + 1, 0, none⟩ = some v5 := (up _ (by have := HS2.out.size; simp; omega)).trans HS2.out.at5
          have g6 : W.cell? ⟨w.heap.size + 1 + 1 + 1, 0, none⟩ = some v6 := (up _ (by have := HS2.out.size; simp; omega)).trans HS2.out.at6
          have g12 : W.cell? ⟨Wa.heap.size, 0, none⟩ = some (.int .i64 1) := (hei.cell (by simp; omega) (by simp)).trans HT1.out
          have g13 := hei.at13
          have g13F := hei.at13F
          have k5 : W.cell? (a5.add pre.length) = some (.int .i64 (x.1 : Int)) := by rw [up _ (by rw [Addr.add_block]; omega), h5 _ (by simp [l5]; omega)]; simp [l5, hlt, hx]
          have k6 : W.cell? (a6.add pre.length) = some (.int .u64 (x.2 : Int)) := by rw [up _ (by rw [Addr.add_block]; omega), h6 _ (by simp [l6]; omega)]; simp [l6, hlt, hx]
          rw [e5, show (l5 E).length = E.length by simp [l5]] at g5
          rw [e6, show (l6 E).length = E.length by simp [l6]] at g6
          have hd : decide ((E.length : Int) ≤ (pre.length : Int)) = false := by simp; omega
          have hlt2 : (pre.length : Int) < (E.length : Int) := by omega
          have hlen : (pre ++ [x]).length = pre.length + 1 := by simp
          have HEIB := Lib.hid hei
          have HQ := Lib.hid hq
          have HLEN := Lib.hid hlen
          have hkb : ¬ (∃ a, oe = some a ∧ (Wa.heap.size + 1) = a.block) := fun ⟨a, e, h⟩ => by have := HNEW.out a e; omega
          have HKB := Lib.hid hkb
          clear hei hq up up2 h5 h6 e5 e6 hx hsp hlen hkb
          dsimp only
          gi_wp2_with fail
          exact ⟨(Keep.refl _ _ W).setCell (p := ⟨Wa.heap.size + 1, 0, none⟩) (show Wa.heap.size + 1 < _ by omega) HKB.out _, by rw [HLEN.out]; exact HEIB.out.next (by omega), trivial⟩
        case done1 =>
          rintro xs Wb hxs ⟨hei, _⟩ hD
          rw [hxs] at hei
          clear hxs xs
          have hsz := HB1.out.size
          have up : ∀ p : Addr, p.block < w2.heap.size → Wb.cell? p = w2.cell? p := fun p hp => (hei.cell (by omega) (by omega)).trans (HB1.out.cell hp)
          have up2 : ∀ p : Addr, p.block < w2.heap.size → Wb.frozen? p = w2.frozen? p := fun p hp => (hei.frozen (by omega) (by omega)).trans (HB1.out.frozen hp)
          have g4 : Wb.cell? ⟨w.heap.size, 0, none⟩ = some (.int .i64 many) := (up _ (by have := HS2.out.size; simp; omega)).trans HS2.out.many
          have g6 : Wb.cell? ⟨w.heap.size + 1 + 1 + 1, 0, none⟩ = some v6 := (up _ (by have := HS2.out.size; simp; omega)).trans HS2.out.at6
          have g12 : Wb.cell? ⟨Wa.heap.size, 0, none⟩ = some (.int .i64 1) := (hei.cell (by simp; omega) (by simp)).trans HT1.out
          have g13 := hei.at13
          obtain ⟨a6, c6, e6⟩ := row_slice HS2.out.r6
          rw [show (l6 E).length = E.length by simp [l6]] at e6
          rw [e6] at g6
          clear e6
          have HEIb := Lib.hid hei
          have HDb := Lib.hid hD
          have hne : ((E.length : Int) != (E.length : Int)) = false := by simp
          clear up up2 hei hD
          go_wp2_with fail
          rw [rounds_succ]
          go_wp2_with fail
          refine (works_true _).mono ?_
          rintro e w9 ⟨rfl, hb9⟩
          have HUPb := Lib.hid (HEIb.out.up HS2.out.below HB1.out (by omega))
          have HB9 := Lib.hid ((HUPb.out.alloc HUPb.out.size (.cells #[.int .i64 2] 3)).trans (hb9.mono (by have := HUPb.out.size; simp; omega)))
          have r0 : w9.cell? ⟨w.heap.size + 1, 0, none⟩ = some (.bool false) := by rw [HB9.out.cell (by have := HS2.out.size; simp; omega)]; exact HS2.out.res
          have r0F : w9.frozen? ⟨w.heap.size + 1, 0, none⟩ = false := by rw [HB9.out.frozen (by have := HS2.out.size; simp; omega)]; exact HS2.out.resF
          have hlb := (Array.getElem?_eq_some_iff.1 HDb.out).1
          have hla := (Array.getElem?_eq_some_iff.1 HD4.out).1
          have hl3 := (Array.getElem?_eq_some_iff.1 HD.out).1
          have D1 : w9.heap[W4.heap.size]? = some (.deferred (some [])) := (hb9.block _ (by simp; omega)).trans ((Below.heap_alloc _ _ _ hlb).trans HDb.out)
          have D0 : w9.heap[W3.heap.size]? = some (.deferred (some [])) := (hb9.block _ (by have := HEIb.out.size; simp; omega)).trans ((Below.heap_alloc _ _ _ (by have := HEIb.out.size; omega)).trans ((HEIb.out.same _ hla (by omega)).trans HD4.out))
          have HD1 := Lib.hid D1
          have HD0 := Lib.hid D0
          clear hb9 D1 D0
          go_wp2_with fail
          have e1 : (w9.setCell ⟨w.heap.size + 1, 0, none⟩ (.bool true)).heap[W4.heap.size]? = some (.deferred (some [])) := (Below.heap_setCell _ _ _ _ (by simp; omega)).trans HD1.out
          have e0 : (w9.setCell ⟨w.heap.size + 1, 0, none⟩ (.bool true)).heap[W3.heap.size]? = some (.deferred (some [])) := (Below.heap_setCell _ _ _ _ (by simp; omega)).trans HD0.out
          rw [hz4] at e1
          rw [hz3] at e0
          refine ⟨by simp, .inl ⟨_, _, rfl, run_takeDeferred e1, ?_⟩⟩
          have e2 : ((w9.setCell ⟨w.heap.size + 1, 0, none⟩ (.bool true)).putObj (Wa.heap.size + 1 + 1) (.deferred none)).heap[w2.heap.size + 1 + 1]? = some (.deferred (some [])) := (World.putObj_heap_other (by omega)).trans e0
          refine ⟨by simp, .inl ⟨_, _, rfl, run_takeDeferred e2, ?_⟩⟩
          have hcell : (((w9.setCell ⟨w.heap.size + 1, 0, none⟩ (.bool true)).putObj (Wa.heap.size + 1 + 1) (.deferred none)).putObj (w2.heap.size + 1 + 1) (.deferred none)).cell? ⟨w.heap.size + 1, 0, none⟩ = some (.bool true) := cell_put (cell_put (World.cell?_setCell_same' _ _ _ (by rw [r0]; rfl)) e1 _) e2 _
          exact ⟨.bool true, by simp [results, Try.results3, go_sem, hcell], rfl, below_put (below_put ((HS2.out.below.trans (HB9.out.mono hzw2)).setCell (p := ⟨w.heap.size + 1, 0, none⟩) (by simp) _) (by omega) _) (by omega) _⟩
        case stop1 =>
          intro c pre W _ hix
          exact hix.elim
    | some x =>
      obtain ⟨m, k⟩ := x
      have hin := readN_in hrd
      have HN := Lib.hid (pre_next hrd HP.out)
      rw [hrd] at hC
      have HC := Lib.hid (show Calls Try.prog 5 #[sv] wr fun e w' => e = .returned (.tuple #[.int .u64 m, .int .i64 k, .int .i64 0]) ∧ wr = w' from hC)
      clear hC hrd
      have h5 : wr.cell? ⟨w.heap.size + 1 + 1, 0, none⟩ = some v5 := HS.out.at5
      have h6 : wr.cell? ⟨w.heap.size + 1 + 1 + 1, 0, none⟩ = some v6 := HS.out.at6
      have g5 : wr.frozen? ⟨w.heap.size + 1 + 1, 0, none⟩ = false := HS.out.at5F
      have g6 : wr.frozen? ⟨w.heap.size + 1 + 1 + 1, 0, none⟩ = false := HS.out.at6F
      have hz : w.heap.size + 1 + 1 + 1 < wr.heap.size := HS.out.size
      have h5b : ∀ o, (wr.alloc o).cell? ⟨w.heap.size + 1 + 1, 0, none⟩ = some v5 := fun o => (HS.out.alloc o).at5
      have h6b : ∀ o, (wr.alloc o).cell? ⟨w.heap.size + 1 + 1 + 1, 0, none⟩ = some v6 := fun o => (HS.out.alloc o).at6
      have h5c : ∀ o o', ((wr.alloc o).alloc o').cell? ⟨w.heap.size + 1 + 1, 0, none⟩ = some v5 := fun o o' => ((HS.out.alloc o).alloc o').at5
      have h6c : ∀ o o', ((wr.alloc o).alloc o').cell? ⟨w.heap.size + 1 + 1 + 1, 0, none⟩ = some v6 := fun o o' => ((HS.out.alloc o).alloc o').at6
      go_upto_region 9 with (first | (go_at_call 5; refine HC.out.mono ?_; rintro e w' ⟨rfl, rfl⟩))
      have hl5 : (l5 pre).length ≤ 300 := by have h := congrArg List.length HN.out; have h2 := eachW_len b 0 (by omega); simp at h; simp [l5]; omega
      have hl6 : (l6 pre).length ≤ 300 := by have h := congrArg List.length HN.out; have h2 := eachW_len b 0 (by omega); simp at h; simp [l6]; omega
      have HL5 := Lib.hid (show l5 (pre ++ [(i, m)]) = l5 pre ++ [.int .i64 (i : Int)] by simp [l5])
      have HL6 := Lib.hid (show l6 (pre ++ [(i, m)]) = l6 pre ++ [.int .u64 (m : Int)] by simp [l6])
      go_cut [7, 9] from 20 to 44 (fun s7 s9 wx => ∃ q5 q6, s7 = .int .i64 i ∧ s9 = .int .i64 k ∧ Hid (St w many wx q5 q6 q5 q6 (l5 (pre ++ [(i, m)])) (l6 (pre ++ [(i, m)]))))
      case first =>
        refine wp_region_noPanic ?_
        go_region_law (first | (refine step_append_row rfl (.tmp 34) (.tmp 36) 24 rfl (w.heap.size + 4) 3 i3 (.int .i64 0) 1 8 Try.underlying24 HI3.out HZ3.out.1 HZ3.out.2.1 HZ3.out.2.2 rfl (by decide) v5 (l5 pre).length (l5 pre) ?hs (by first | exact HS.out.r5 | exact HS.out.r5.alloc _ | exact (HS.out.r5.alloc _).alloc _) ⟨wr.heap.size, 0, none⟩ 1 1 [.int .i64 (i : Int)] ?hx rfl ?hc (by simp [Value.oneCell']) (by unfold maxLen; omega) (by omega) (by first | exact HS.out.size | (have := HS.out.size; simp; omega)) ?_; (case hx => (simp [Act.eval]; done)); (case hs => (simp [Act.eval]; done)); (case hc => (first | exact one_cell (lit0 _ _ _) | exact one_cell (lit0b _ _ _ _) | exact one_cell (lit1 _ _ _ _) | exact one_cell hlit)); intro v5n w5n hown hg; obtain ⟨q5, z5, rfl⟩ := ownsRow_succ hown; (first | have hlit := (show w5n.cell? ⟨wr.heap.size + 1, 0, none⟩ = some (.int .u64 (m : Int)) from hg.cell (lit0b _ _ _ _) (row_ne HS.out.r5 (Nat.le_succ _))) | have hlit := (show w5n.cell? ⟨wr.heap.size, 0, none⟩ = some (.int .u64 (m : Int)) from hg.cell (lit1 _ _ _ _) (row_ne HS.out.r5 (Nat.le_refl _))) | skip); (first | have HS := Lib.hid (St.app5 HS.out hown hg) | have HS := Lib.hid (St.app5 HS.out.drew hown hg) | have HS := Lib.hid (St.app5 (HS.out.alloc _) hown hg) | have HS := Lib.hid (St.app5 (HS.out.alloc _).drew hown hg) | have HS := Lib.hid (St.app5 (HS.out.drew.alloc _) hown hg) | have HS := Lib.hid (St.app5 (HS.out.drew.alloc _).drew hown hg) | have HS := Lib.hid (St.app5 ((HS.out.alloc _).alloc _) hown hg) | have HS := Lib.hid (St.app5 ((HS.out.alloc _).alloc _).drew hown hg) | have HS := Lib.hid (St.app5 ((HS.out.alloc _).drew.alloc _) hown hg) | have HS := Lib.hid (St.app5 ((HS.out.alloc _).drew.alloc _).drew hown hg)); clear hown hg; have h5 : w5n.cell? ⟨w.heap.size + 1 + 1, 0, none⟩ = some v5 := HS.out.at5; have h6 : w5n.cell? ⟨w.heap.size + 1 + 1 + 1, 0, none⟩ = some v6 := HS.out.at6; have g5 : w5n.frozen? ⟨w.heap.size + 1 + 1, 0, none⟩ = false := HS.out.at5F; have g6 : w5n.frozen? ⟨w.heap.size + 1 + 1 + 1, 0, none⟩ = false := HS.out.at6F; have hz : w.heap.size + 1 + 1 + 1 < w5n.heap.size := HS.out.size; have h5b : ∀ o, (w5n.alloc o).cell? ⟨w.heap.size + 1 + 1, 0, none⟩ = some v5 := fun o => (HS.out.alloc o).at5; have h6b : ∀ o, (w5n.alloc o).cell? ⟨w.heap.size + 1 + 1 + 1, 0, none⟩ = some v6 := fun o => (HS.out.alloc o).at6) | (refine step_append_row rfl (.tmp 34) (.tmp 36) 24 rfl (w.heap.size + 4) 3 i3 (.int .i64 0) 1 8 Try.underlying24 HI3.out HZ3.out.1 HZ3.out.2.1 HZ3.out.2.2 rfl (by decide) v5 (l5 pre).length (l5 pre) ?hs (by first | exact HS.out.r5 | exact HS.out.r5.alloc _ | exact (HS.out.r5.alloc _).alloc _) ⟨wr.heap.size + 1, 0, none⟩ 1 1 [.int .i64 (i : Int)] ?hx rfl ?hc (by simp [Value.oneCell']) (by unfold maxLen; omega) (by omega) (by first | exact HS.out.size | (have := HS.out.size; simp; omega)) ?_; (case hx => (simp [Act.eval]; done)); (case hs => (simp [Act.eval]; done)); (case hc => (first | exact one_cell (lit0 _ _ _) | exact one_cell (lit0b _ _ _ _) | exact one_cell (lit1 _ _ _ _) | exact one_cell hlit)); intro v5n w5n hown hg; obtain ⟨q5, z5, rfl⟩ := ownsRow_succ hown; (first | have hlit := (show w5n.cell? ⟨wr.heap.size + 1, 0, none⟩ = some (.int .u64 (m : Int)) from hg.cell (lit0b _ _ _ _) (row_ne HS.out.r5 (Nat.le_succ _))) | have hlit := (show w5n.cell? ⟨wr.heap.size, 0, none⟩ = some (.int .u64 (m : Int)) from hg.cell (lit1 _ _ _ _) (row_ne HS.out.r5 (Nat.le_refl _))) | skip); (first | have HS := Lib.hid (St.app5 HS.out hown hg) | have HS := Lib.hid (St.app5 HS.out.drew hown hg) | have HS := Lib.hid (St.app5 (HS.out.alloc _) hown hg) | have HS := Lib.hid (St.app5 (HS.out.alloc _).drew hown hg) | have HS := Lib.hid (St.app5 (HS.out.drew.alloc _) hown hg) | have HS := Lib.hid (St.app5 (HS.out.drew.alloc _).drew hown hg) | have HS := Lib.hid (St.app5 ((HS.out.alloc _).alloc _) hown hg) | have HS := Lib.hid (St.app5 ((HS.out.alloc _).alloc _).drew hown hg) | have HS := Lib.hid (St.app5 ((HS.out.alloc _).drew.alloc _) hown hg) | have HS := Lib.hid (St.app5 ((HS.out.alloc _).drew.alloc _).drew hown hg)); clear hown hg; have h5 : w5n.cell? ⟨w.heap.size + 1 + 1, 0, none⟩ = some v5 := HS.out.at5; have h6 : w5n.cell? ⟨w.heap.size + 1 + 1 + 1, 0, none⟩ = some v6 := HS.out.at6; have g5 : w5n.frozen? ⟨w.heap.size + 1 + 1, 0, none⟩ = false := HS.out.at5F; have g6 : w5n.frozen? ⟨w.heap.size + 1 + 1 + 1, 0, none⟩ = false := HS.out.at6F; have hz : w.heap.size + 1 + 1 + 1 < w5n.heap.size := HS.out.size; have h5b : ∀ o, (w5n.alloc o).cell? ⟨w.heap.size + 1 + 1, 0, none⟩ = some v5 := fun o => (HS.out.alloc o).at5; have h6b : ∀ o, (w5n.alloc o).cell? ⟨w.heap.size + 1 + 1 + 1, 0, none⟩ = some v6 := fun o => (HS.out.alloc o).at6) | (refine step_append_row rfl (.tmp 34) (.tmp 36) 24 rfl (w.heap.size + 4) 3 i3 (.int .i64 0) 1 8 Try.underlying24 HI3.out HZ3.out.1 HZ3.out.2.1 HZ3.out.2.2 rfl (by decide) v5 (l5 pre).length (l5 pre) ?hs (by first | exact HS.out.r5 | exact HS.out.r5.alloc _ | exact (HS.out.r5.alloc _).alloc _) ⟨w6n.heap.size, 0, none⟩ 1 1 [.int .i64 (i : Int)] ?hx rfl ?hc (by simp [Value.oneCell']) (by unfold maxLen; omega) (by omega) (by first | exact HS.out.size | (have := HS.out.size; simp; omega)) ?_; (case hx => (simp [Act.eval, Act.put]; done)); (case hs => (simp [Act.eval, Act.put]; done)); (case hc => (first | exact one_cell (lit0 _ _ _) | exact one_cell (lit0b _ _ _ _) | exact one_cell (lit1 _ _ _ _) | exact one_cell hlit)); intro v5n w5n hown hg; obtain ⟨q5, z5, rfl⟩ := ownsRow_succ hown; (first | have hlit := (show w5n.cell? ⟨wr.heap.size + 1, 0, none⟩ = some (.int .u64 (m : Int)) from hg.cell (lit0b _ _ _ _) (row_ne HS.out.r5 (Nat.le_succ _))) | have hlit := (show w5n.cell? ⟨wr.heap.size, 0, none⟩ = some (.int .u64 (m : Int)) from hg.cell (lit1 _ _ _ _) (row_ne HS.out.r5 (Nat.le_refl _))) | skip); (first | have HS := Lib.hid (St.app5 HS.out hown hg) | have HS := Lib.hid (St.app5 HS.out.drew hown hg) | have HS := Lib.hid (St.app5 (HS.out.alloc _) hown hg) | have HS := Lib.hid (St.app5 (HS.out.alloc _).drew hown hg) | have HS := Lib.hid (St.app5 (HS.out.drew.alloc _) hown hg) | have HS := Lib.hid (St.app5 (HS.out.drew.alloc _).drew hown hg) | have HS := Lib.hid (St.app5 ((HS.out.alloc _).alloc _) hown hg) | have HS := Lib.hid (St.app5 ((HS.out.alloc _).alloc _).drew hown hg) | have HS := Lib.hid (St.app5 ((HS.out.alloc _).drew.alloc _) hown hg) | have HS := Lib.hid (St.app5 ((HS.out.alloc _).drew.alloc _).drew hown hg)); clear hown hg; have h5 : w5n.cell? ⟨w.heap.size + 1 + 1, 0, none⟩ = some v5 := HS.out.at5; have h6 : w5n.cell? ⟨w.heap.size + 1 + 1 + 1, 0, none⟩ = some v6 := HS.out.at6; have g5 : w5n.frozen? ⟨w.heap.size + 1 + 1, 0, none⟩ = false := HS.out.at5F; have g6 : w5n.frozen? ⟨w.heap.size + 1 + 1 + 1, 0, none⟩ = false := HS.out.at6F; have hz : w.heap.size + 1 + 1 + 1 < w5n.heap.size := HS.out.size; have h5b : ∀ o, (w5n.alloc o).cell? ⟨w.heap.size + 1 + 1, 0, none⟩ = some v5 := fun o => (HS.out.alloc o).at5; have h6b : ∀ o, (w5n.alloc o).cell? ⟨w.heap.size + 1 + 1 + 1, 0, none⟩ = some v6 := fun o => (HS.out.alloc o).at6) | (refine step_append_row rfl (.tmp 38) (.tmp 40) 25 rfl (w.heap.size + 4) 26 i6 (.int .u64 0) 1 8 Try.underlying25 HI6.out HZ6.out.1 HZ6.out.2.1 HZ6.out.2.2 rfl (by decide) v6 (l6 pre).length (l6 pre) ?hs (by first | exact HS.out.r6 | exact HS.out.r6.alloc _ | exact (HS.out.r6.alloc _).alloc _) ⟨wr.heap.size, 0, none⟩ 1 1 [.int .u64 (m : Int)] ?hx rfl ?hc (by simp [Value.oneCell']) (by unfold maxLen; omega) (by omega) (by first | exact HS.out.size | (have := HS.out.size; simp; omega)) ?_; (case hx => (simp [Act.eval]; done)); (case hs => (simp [Act.eval]; done)); (case hc => (first | exact one_cell (lit0 _ _ _) | exact one_cell (lit0b _ _ _ _) | exact one_cell (lit1 _ _ _ _) | exact one_cell hlit)); intro v6n w6n hown hg; obtain ⟨q6, z6, rfl⟩ := ownsRow_succ hown; (first | have hlit := (show w6n.cell? ⟨wr.heap.size + 1, 0, none⟩ = some (.int .i64 (i : Int)) from hg.cell (lit0b _ _ _ _) (row_ne HS.out.r6 (Nat.le_succ _))) | have hlit := (show w6n.cell? ⟨wr.heap.size, 0, none⟩ = some (.int .i64 (i : Int)) from hg.cell (lit1 _ _ _ _) (row_ne HS.out.r6 (Nat.le_refl _))) | skip); (first | have HS := Lib.hid (St.app6 HS.out hown hg) | have HS := Lib.hid (St.app6 HS.out.drew hown hg) | have HS := Lib.hid (St.app6 (HS.out.alloc _) hown hg) | have HS := Lib.hid (St.app6 (HS.out.alloc _).drew hown hg) | have HS := Lib.hid (St.app6 (HS.out.drew.alloc _) hown hg) | have HS := Lib.hid (St.app6 (HS.out.drew.alloc _).drew hown hg) | have HS := Lib.hid (St.app6 ((HS.out.alloc _).alloc _) hown hg) | have HS := Lib.hid (St.app6 ((HS.out.alloc _).alloc _).drew hown hg) | have HS := Lib.hid (St.app6 ((HS.out.alloc _).drew.alloc _) hown hg) | have HS := Lib.hid (St.app6 ((HS.out.alloc _).drew.alloc _).drew hown hg)); clear hown hg; have h5 : w6n.cell? ⟨w.heap.size + 1 + 1, 0, none⟩ = some v5 := HS.out.at5; have h6 : w6n.cell? ⟨w.heap.size + 1 + 1 + 1, 0, none⟩ = some v6 := HS.out.at6; have g5 : w6n.frozen? ⟨w.heap.size + 1 + 1, 0, none⟩ = false := HS.out.at5F; have g6 : w6n.frozen? ⟨w.heap.size + 1 + 1 + 1, 0, none⟩ = false := HS.out.at6F; have hz : w.heap.size + 1 + 1 + 1 < w6n.heap.size := HS.out.size; have h5b : ∀ o, (w6n.alloc o).cell? ⟨w.heap.size + 1 + 1, 0, none⟩ = some v5 := fun o => (HS.out.alloc o).at5; have h6b : ∀ o, (w6n.alloc o).cell? ⟨w.heap.size + 1 + 1 + 1, 0, none⟩ = some v6 := fun o => (HS.out.alloc o).at6) | (refine step_append_row rfl (.tmp 38) (.tmp 40) 25 rfl (w.heap.size + 4) 26 i6 (.int .u64 0) 1 8 Try.underlying25 HI6.out HZ6.out.1 HZ6.out.2.1 HZ6.out.2.2 rfl (by decide) v6 (l6 pre).length (l6 pre) ?hs (by first | exact HS.out.r6 | exact HS.out.r6.alloc _ | exact (HS.out.r6.alloc _).alloc _) ⟨wr.heap.size + 1, 0, none⟩ 1 1 [.int .u64 (m : Int)] ?hx rfl ?hc (by simp [Value.oneCell']) (by unfold maxLen; omega) (by omega) (by first | exact HS.out.size | (have := HS.out.size; simp; omega)) ?_; (case hx => (simp [Act.eval]; done)); (case hs => (simp [Act.eval]; done)); (case hc => (first | exact one_cell (lit0 _ _ _) | exact one_cell (lit0b _ _ _ _) | exact one_cell (lit1 _ _ _ _) | exact one_cell hlit)); intro v6n w6n hown hg; obtain ⟨q6, z6, rfl⟩ := ownsRow_succ hown; (first | have hlit := (show w6n.cell? ⟨wr.heap.size + 1, 0, none⟩ = some (.int .i64 (i : Int)) from hg.cell (lit0b _ _ _ _) (row_ne HS.out.r6 (Nat.le_succ _))) | have hlit := (show w6n.cell? ⟨wr.heap.size, 0, none⟩ = some (.int .i64 (i : Int)) from hg.cell (lit1 _ _ _ _) (row_ne HS.out.r6 (Nat.le_refl _))) | skip); (first | have HS := Lib.hid (St.app6 HS.out hown hg) | have HS := Lib.hid (St.app6 HS.out.drew hown hg) | have HS := Lib.hid (St.app6 (HS.out.alloc _) hown hg) | have HS := Lib.hid (St.app6 (HS.out.alloc _).drew hown hg) | have HS := Lib.hid (St.app6 (HS.out.drew.alloc _) hown hg) | have HS := Lib.hid (St.app6 (HS.out.drew.alloc _).drew hown hg) | have HS := Lib.hid (St.app6 ((HS.out.alloc _).alloc _) hown hg) | have HS := Lib.hid (St.app6 ((HS.out.alloc _).alloc _).drew hown hg) | have HS := Lib.hid (St.app6 ((HS.out.alloc _).drew.alloc _) hown hg) | have HS := Lib.hid (St.app6 ((HS.out.alloc _).drew.alloc _).drew hown hg)); clear hown hg; have h5 : w6n.cell? ⟨w.heap.size + 1 + 1, 0, none⟩ = some v5 := HS.out.at5; have h6 : w6n.cell? ⟨w.heap.size + 1 + 1 + 1, 0, none⟩ = some v6 := HS.out.at6; have g5 : w6n.frozen? ⟨w.heap.size + 1 + 1, 0, none⟩ = false := HS.out.at5F; have g6 : w6n.frozen? ⟨w.heap.size + 1 + 1 + 1, 0, none⟩ = false := HS.out.at6F; have hz : w.heap.size + 1 + 1 + 1 < w6n.heap.size := HS.out.size; have h5b : ∀ o, (w6n.alloc o).cell? ⟨w.heap.size + 1 + 1, 0, none⟩ = some v5 := fun o => (HS.out.alloc o).at5; have h6b : ∀ o, (w6n.alloc o).cell? ⟨w.heap.size + 1 + 1 + 1, 0, none⟩ = some v6 := fun o => (HS.out.alloc o).at6) | (refine step_append_row rfl (.tmp 38) (.tmp 40) 25 rfl (w.heap.size + 4) 26 i6 (.int .u64 0) 1 8 Try.underlying25 HI6.out HZ6.out.1 HZ6.out.2.1 HZ6.out.2.2 rfl (by decide) v6 (l6 pre).length (l6 pre) ?hs (by first | exact HS.out.r6 | exact HS.out.r6.alloc _ | exact (HS.out.r6.alloc _).alloc _) ⟨w5n.heap.size, 0, none⟩ 1 1 [.int .u64 (m : Int)] ?hx rfl ?hc (by simp [Value.oneCell']) (by unfold maxLen; omega) (by omega) (by first | exact HS.out.size | (have := HS.out.size; simp; omega)) ?_; (case hx => (simp [Act.eval]; done)); (case hs => (simp [Act.eval]; done)); (case hc => (first | exact one_cell (lit0 _ _ _) | exact one_cell (lit0b _ _ _ _) | exact one_cell (lit1 _ _ _ _) | exact one_cell hlit)); intro v6n w6n hown hg; obtain ⟨q6, z6, rfl⟩ := ownsRow_succ hown; (first | have hlit := (show w6n.cell? ⟨wr.heap.size + 1, 0, none⟩ = some (.int .i64 (i : Int)) from hg.cell (lit0b _ _ _ _) (row_ne HS.out.r6 (Nat.le_succ _))) | have hlit := (show w6n.cell? ⟨wr.heap.size, 0, none⟩ = some (.int .i64 (i : Int)) from hg.cell (lit1 _ _ _ _) (row_ne HS.out.r6 (Nat.le_refl _))) | skip); (first | have HS := Lib.hid (St.app6 HS.out hown hg) | have HS := Lib.hid (St.app6 HS.out.drew hown hg) | have HS := Lib.hid (St.app6 (HS.out.alloc _) hown hg) | have HS := Lib.hid (St.app6 (HS.out.alloc _).drew hown hg) | have HS := Lib.hid (St.app6 (HS.out.drew.alloc _) hown hg) | have HS := Lib.hid (St.app6 (HS.out.drew.alloc _).drew hown hg) | have HS := Lib.hid (St.app6 ((HS.out.alloc _).alloc _) hown hg) | have HS := Lib.hid (St.app6 ((HS.out.alloc _).alloc _).drew hown hg) | have HS := Lib.hid (St.app6 ((HS.out.alloc _).drew.alloc _) hown hg) | have HS := Lib.hid (St.app6 ((HS.out.alloc _).drew.alloc _).drew hown hg)); clear hown hg; have h5 : w6n.cell? ⟨w.heap.size + 1 + 1, 0, none⟩ = some v5 := HS.out.at5; have h6 : w6n.cell? ⟨w.heap.size + 1 + 1 + 1, 0, none⟩ = some v6 := HS.out.at6; have g5 : w6n.frozen? ⟨w.heap.size + 1 + 1, 0, none⟩ = false := HS.out.at5F; have g6 : w6n.frozen? ⟨w.heap.size + 1 + 1 + 1, 0, none⟩ = false := HS.out.at6F; have hz : w.heap.size + 1 + 1 + 1 < w6n.heap.size := HS.out.size; have h5b : ∀ o, (w6n.alloc o).cell? ⟨w.heap.size + 1 + 1, 0, none⟩ = some v5 := fun o => (HS.out.alloc o).at5; have h6b : ∀ o, (w6n.alloc o).cell? ⟨w.heap.size + 1 + 1 + 1, 0, none⟩ = some v6 := fun o => (HS.out.alloc o).at6) | fail "no arm")
        all_goals
          refine NoPanic.normal ?_
          go_wp2_with fail
          go_meet
          refine ⟨.slice (some ⟨q5, 0, none⟩) ((l5 pre).length + 1) z5, .slice (some ⟨q6, 0, none⟩) ((l6 pre).length + 1) z6, rfl, rfl, Lib.hid ?_⟩
          rw [HL5.out, HL6.out]
          first
            | exact (HS.out.put5 _).put6 _
            | exact (HS.out.drew.put5 _).put6 _
            | exact ((HS.out.alloc _).put5 _).put6 _
            | exact ((HS.out.alloc _).drew.put5 _).put6 _
            | exact ((HS.out.drew.alloc _).put5 _).put6 _
            | exact (((HS.out.alloc _).alloc _).put5 _).put6 _
      case rest =>
        obtain ⟨q5, q6, rfl, rfl, HS9⟩ := hcut
        clear h5 h6 g5 g6 hz h5b h6b h5c h6c HS
        go_wp2_with fail
        go_roundw
        case rel => exact ⟨pre ++ [(i, m)], i + k, q5, q6, by go_num, by omega, HN, HS9⟩
        case measure => simp [intOf]; omega
end Go.Proofs.Ytkjdhkpnbgflhaa
