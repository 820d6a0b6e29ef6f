/-
  key.Decode.
-/
import Derived.Test.YtcedeipmboekaaaGreatDoorKBegun
import Derived.Test.YtcedeipmboekaaaGreatDoorVOL
import Derived.Defers
import Derived.Recover
namespace Go.Proofs.YtcedeipmboekaaaGreatDoor
open Go.RowKit

def vc4K (v : Vl) : List Value := [.int .i64 v.k, .int .i64 v.i, .int .u64 v.u, .string v.s]
def vcellsK (l : List Vl) : List Value := l.flatMap vc4K
theorem vcellsK_len : ∀ l : List Vl, (vcellsK l).length = l.length * 4
  | [] => rfl
  | x :: l => by
    show (vc4K x ++ vcellsK l).length = _
    rw [List.length_append, vcellsK_len l, List.length_cons]
    show 4 + _ = _
    omega
theorem vcellsK_at : ∀ (l : List Vl) (j : Nat) (h : j < l.length) (i : Nat), i < 4 → (vcellsK l)[j * 4 + i]? = (vc4K l[j])[i]?
  | x :: l, 0, _, i, hi => by
    show (vc4K x ++ vcellsK l)[0 * 4 + i]? = (vc4K x)[i]?
    rw [List.getElem?_append_left (by show 0 * 4 + i < 4; omega), show 0 * 4 + i = i by omega]
  | x :: l, j + 1, h, i, hi => by
    show (vc4K x ++ vcellsK l)[(j + 1) * 4 + i]? = (vc4K (x :: l)[j + 1])[i]?
    rw [List.getElem?_append_right (by show 4 ≤ (j + 1) * 4 + i; omega), show (j + 1) * 4 + i - (vc4K x).length = j * 4 + i by show (j + 1) * 4 + i - 4 = _; omega, vcellsK_at l j (by simpa using h) i hi]
    rfl
theorem vcellsK_snoc (l : List Vl) (v : Vl) : vcellsK (l ++ [v]) = vcellsK l ++ vc4K v := by
  unfold vcellsK
  rw [List.flatMap_append]
  simp
theorem addK4 (b j : Nat) : (⟨b, 0, none⟩ : Addr).add (j * 4) = ⟨b, j * 4, none⟩ := by rw [Addr.add_lit, Nat.zero_add]
theorem sliceK_own {w : World} {base : Nat} {v : Value} {l : List Vl} (h : w.ownsRow base 42 4 v l.length (vcellsK l)) : SliceOf w v l := by
  have h0 := h
  rcases h.2 with ⟨e, hn⟩ | ⟨g, cap, cur, e, _, _, hnc, _⟩
  · exact .inl ⟨e, List.eq_nil_of_length_eq_zero hn⟩
  · subst e
    refine .inr ⟨_, cap, rfl, hnc, fun j hj => ?_⟩
    rw [addK4]
    have q : ∀ i, i < 4 → w.cell? ⟨g, j * 4 + i, none⟩ = (vc4K l[j])[i]? := fun i hi => by
      rw [h0.cellAt (j * 4 + i) (by omega), vcellsK_at l j hj i hi]
    exact ⟨q 0 (by omega), q 1 (by omega), q 2 (by omega), q 3 (by omega)⟩
theorem infoVK : (Tryz.prog.info? 42).map (fun i => (i.zero, i.size, i.bytes)) = some (some (.agg #[.int .i64 0, .int .i64 0, .int .u64 0, .string ⟨#[]⟩]), 4, 40) := by kernel_rfl
theorem ownK_slice {W : World} {B n : Nat} {v : Value} {xs : List Value} (h : W.ownsRow B 42 4 v n xs) : ∃ a c, v = .slice a n c := by
  rcases h.2 with ⟨e0, h0⟩ | ⟨g, cap, cur, e0, _⟩
  · exact ⟨none, 0, by rw [e0, h0]⟩
  · exact ⟨_, _, e0⟩
/-- append(l, v) -/
theorem appendV_run {w : World} {base n : Nat} {a7 : Option Addr} {c7 : Nat} {vs : List Vl} {x : Vl} (hown : w.ownsRow base 42 4 (.slice a7 n c7) n (vcellsK vs)) (hn : n ≤ 100000) (hbase : base ≤ w.heap.size) (ty : TypeId) :
    ∃ a8 c8 w', (Builtin.append_ #[22, 22] ty #[.slice a7 n c7, .slice (some ⟨w.heap.size, 0, none⟩) 1 1]).run Tryz.prog (w.alloc (.cells #[.int .i64 x.k, .int .i64 x.i, .int .u64 x.u, .string x.s] 42)) = .ok (.slice a8 (n + 1) c8) w' ∧ w'.ownsRow base 42 4 (.slice a8 (n + 1) c8) (n + 1) (vcellsK (vs ++ [x])) ∧ (w.alloc (.cells #[.int .i64 x.k, .int .i64 x.i, .int .u64 x.u, .string x.s] 42)).grownBy w' (Value.slice a7 n c7).ownBlock := by
  obtain ⟨i0, hi0, hz0, hz1, hz2⟩ := info_parts infoVK
  obtain ⟨v', w', hrun, r1, r2, _⟩ := run_append_own (P := Tryz.prog) (w.alloc (.cells #[.int .i64 x.k, .int .i64 x.i, .int .u64 x.u, .string x.s] 42)) base 22 ty 42 i0 (.agg #[.int .i64 0, .int .i64 0, .int .u64 0, .string ⟨#[]⟩]) 4 40 Tryz.underlying22 hi0 hz0 hz1 hz2 rfl (by decide) (.slice a7 n c7) n (vcellsK vs) (hown.alloc _) ⟨w.heap.size, 0, none⟩ 1 1 (vc4K x) rfl (by
      intro j' u' hj'
      match j', hj' with
      | 0, hj' => simp [vc4K] at hj'; subst hj'; simp [Addr.add, go_sem]
      | 1, hj' => simp [vc4K] at hj'; subst hj'; simp [Addr.add, go_sem]
      | 2, hj' => simp [vc4K] at hj'; subst hj'; simp [Addr.add, go_sem]
      | 3, hj' => simp [vc4K] at hj'; subst hj'; simp [Addr.add, go_sem]) (by intro u' hu'; simp [vc4K] at hu'; rcases hu' with rfl | rfl | rfl | rfl <;> rfl) (by unfold maxLen; omega) (by omega) (by simp; omega)
  obtain ⟨a8, c8, rfl⟩ := ownK_slice r1
  rw [← vcellsK_snoc] at r1
  exact ⟨a8, c8, w', hrun, r1, r2⟩

theorem readKey_lt {l : List UInt8} {v : Vl} {k : Nat} (h : readKey l = some (v, k)) : 1 ≤ k ∧ k ≤ l.length := ⟨(keyB_readKey h).2.1, (keyB_readKey h).2.2.1⟩
theorem readKeys_fuel : ∀ (f g : Nat) (l : List UInt8), l.length ≤ f → l.length ≤ g → readKeys f l = readKeys g l
  | f, g, [], _, _ => by cases f <;> cases g <;> rfl
  | 0, _, _ :: _, h, _ => by simp at h
  | _ + 1, 0, _ :: _, _, h => by simp at h
  | f + 1, g + 1, x :: t, hf, hg => by
    unfold readKeys
    cases hr : readKey (x :: t) with
    | none => rfl
    | some y =>
      obtain ⟨v, k⟩ := y
      obtain ⟨h1, h2⟩ := readKey_lt hr
      simp only
      rw [readKeys_fuel f g ((x :: t).drop k) (by rw [List.length_drop]; simp at hf h2 ⊢; omega) (by rw [List.length_drop]; simp at hg h2 ⊢; omega)]
/-- the values whose key l is -/
def RK (l : List UInt8) : Option (List Vl) := readKeys l.length l
theorem RK_nil : RK [] = some [] := rfl
theorem RK_cons (x : UInt8) (t : List UInt8) : RK (x :: t) = match readKey (x :: t) with
    | none => none
    | some (v, k) => (RK ((x :: t).drop k)).map (v :: ·) := by
  show readKeys (t.length + 1) (x :: t) = _
  unfold readKeys
  cases hr : readKey (x :: t) with
  | none => rfl
  | some y =>
    obtain ⟨v, k⟩ := y
    obtain ⟨h1, h2⟩ := readKey_lt hr
    simp only
    unfold RK
    rw [readKeys_fuel t.length ((x :: t).drop k).length ((x :: t).drop k) (by rw [List.length_drop]; simp at h2 ⊢; omega) (Nat.le_refl _)]
    cases readKeys ((x :: t).drop k).length ((x :: t).drop k) <;> rfl
/-- vs are read, i bytes are taken -/
def DRel (s : ByteArray) (i : Nat) (vs : List Vl) : Prop := RK s.data.toList = (RK (s.data.toList.drop i)).map (vs ++ ·)
theorem DRel.zero (s : ByteArray) : DRel s 0 [] := by
  unfold DRel
  rw [List.drop_zero]
  cases RK s.data.toList <;> rfl
theorem drop_byte {s : ByteArray} {i : Nat} (hi : i < s.size) : ∃ x, s.data.toList.drop i = x :: s.data.toList.drop (i + 1) ∧ byteK s i = x.toNat := by
  have hl : i < s.data.toList.length := by rw [Array.length_toList]; exact hi
  refine ⟨s.data.toList[i], List.drop_eq_getElem_cons hl, ?_⟩
  unfold byteK
  rw [List.getD_eq_getElem?_getD, List.getElem?_eq_getElem hl]
  rfl
theorem DRel.no {s : ByteArray} {i : Nat} {vs : List Vl} (h : DRel s i vs) (hi : i < s.size) (hb : bodyK (byteK s i) (s.data.toList.drop (i + 1)) = none) : RK s.data.toList = none := by
  obtain ⟨x, hx, hx2⟩ := drop_byte hi
  unfold DRel at h
  rw [h, hx, RK_cons, readKey_body, ← hx2, hb]
  rfl
theorem DRel.next {s : ByteArray} {i n : Nat} {vs : List Vl} {v : Vl} (h : DRel s i vs) (hi : i < s.size) (hb : bodyK (byteK s i) (s.data.toList.drop (i + 1)) = some (v, n)) : DRel s (i + 1 + n) (vs ++ [v]) := by
  obtain ⟨x, hx, hx2⟩ := drop_byte hi
  unfold DRel at h ⊢
  rw [h, hx, RK_cons, readKey_body, ← hx2, hb]
  simp only [Option.map_some]
  rw [← hx, List.drop_drop, show i + (1 + n) = i + 1 + n by omega]
  cases RK (s.data.toList.drop (i + 1 + n)) with
  | none => rfl
  | some ws => simp
theorem DRel.done {s : ByteArray} {vs : List Vl} (h : DRel s s.size vs) : RK s.data.toList = some vs := by
  unfold DRel at h
  rw [h, List.drop_of_length_le (by rw [Array.length_toList]; exact Nat.le_refl _), RK_nil]
  simp
theorem bodyK_len {i n : Nat} {s : ByteArray} {v : Vl} (hi : i < s.size) (hb : bodyK (byteK s i) (s.data.toList.drop (i + 1)) = some (v, n)) : i + 1 + n ≤ s.size := by
  obtain ⟨x, hx, hx2⟩ := drop_byte hi
  have h1 : readKey (x :: s.data.toList.drop (i + 1)) = some (v, 1 + n) := by rw [readKey_body, ← hx2, hb]; rfl
  have h2 := (readKey_lt h1).2
  have : s.data.toList.length = s.size := by rw [Array.length_toList]; rfl
  simp at h2
  omega
end Go.Proofs.YtcedeipmboekaaaGreatDoor
namespace Go.Proofs.YtcedeipmboekaaaGreatDoor
open Go.RowKit Go.Shelf
attribute [local go_sem] Oper.semAt_some

theorem wpAnyInK_three {F : Fence} {n : Nat} {P : Program} {md : Region.Mode} {ops : Array Oper} {Q : Exit → Act → World → Prop} {fuel : Nat} {listed : Array Bool} {a : Act} {w : World} (i j k : Nat) (h1 : Region.ready md ops listed = [i, j, k]) (hi : wpOpIn F n P ops Q i (wpAnyIn F n P md ops Q fuel (listed.setIfInBounds i true)) a w) (hj : wpOpIn F n P ops Q j (wpAnyIn F n P md ops Q fuel (listed.setIfInBounds j true)) a w) (hk : wpOpIn F n P ops Q k (wpAnyIn F n P md ops Q fuel (listed.setIfInBounds k true)) a w) : wpAnyIn F n P md ops Q (fuel + 1) listed a w := by
  unfold wpAnyIn
  refine ⟨fun h0 => ?_, fun x hx => ?_⟩
  · rw [h1] at h0
    cases h0
  · rw [h1] at hx
    simp only [List.mem_cons, List.not_mem_nil, or_false] at hx
    rcases hx with rfl | rfl | rfl
    · exact hi
    · exact hj
    · exact hk
/-- the state of Decode's loop: vs are read, i bytes are taken; the reader stands at r -/
structure DSt (w : World) (C R m Lb B : Nat) (s : ByteArray) (i r : Nat) (W : World) : Prop where
  rd : RdK W R m s r
  le : r ≤ s.size
  box : W.cell? ⟨C, 0, none⟩ = some (.pointer (some ⟨R, 0, none⟩))
  lst : ∃ vs n a c, W.cell? ⟨Lb, 0, none⟩ = some (.slice a n c) ∧ vs.length = n ∧ n ≤ i ∧ W.ownsRow B 42 4 (.slice a n c) n (vcellsK vs) ∧ DRel s i vs
  free : W.frozen? ⟨Lb, 0, none⟩ = false
  size : B ≤ W.heap.size + 2
  grown : w.grownBy W (some R)
theorem DSt.put {w W : World} {C R m Lb B lp : Nat} {s : ByteArray} {i r : Nat} (h : DSt w C R m Lb B s i r W) (hC : C < lp) (hR : R < lp) (hm : m < lp) (hL : Lb < lp) (hw : w.heap.size ≤ lp) (hB : lp < B) (o : Obj) : DSt w C R m Lb B s i r (W.putObj lp o) := by
  obtain ⟨⟨r0, r1, r2, r3, r4, r5⟩, h1, h2, ⟨vs, n, a, c, h3, h4, h4', h5, h6⟩, h7, h8, h9⟩ := h
  have q : ∀ (g o' : Nat), g < lp → (W.putObj lp o).cell? ⟨g, o', none⟩ = W.cell? ⟨g, o', none⟩ := fun g o' hg => World.cell?_of_block (a := ⟨g, o', none⟩) (World.putObj_heap_other (by show g ≠ lp; omega))
  have qf : ∀ (g o' : Nat), g < lp → (W.putObj lp o).frozen? ⟨g, o', none⟩ = W.frozen? ⟨g, o', none⟩ := fun g o' hg => World.frozen?_of_block (a := ⟨g, o', none⟩) (World.putObj_heap_other (by show g ≠ lp; omega))
  have hg : W.grownBy (W.putObj lp o) (some lp) := ⟨rfl, rfl, rfl, by simp, fun k hk hr => World.putObj_heap_other (fun e => hr (by rw [e]))⟩
  refine ⟨⟨(q _ _ hR).trans r0, (q _ _ hR).trans r1, (q _ _ hR).trans r2, (qf _ _ hR).trans r3, (World.putObj_heap_other (by omega)).trans r4, r5⟩, h1, (q _ _ hC).trans h2, ⟨vs, n, a, c, (q _ _ hL).trans h3, h4, h4', h5.kept hg (.inr (fun e => by have := (h5.lt lp e).1; omega)), h6⟩, (qf _ _ hL).trans h7, by simpa using h8, ⟨h9.os, h9.tape, h9.output, by simpa using h9.size, fun k hk hr => (World.putObj_heap_other (by omega)).trans (h9.block k hk hr)⟩⟩
theorem DSt.grow {w W W' : World} {C R m Lb B : Nat} {s : ByteArray} {i r r' : Nat} (h : DSt w C R m Lb B s i r W) (hCR : C ≠ R) (hLR : Lb ≠ R) (hBR : R < B) (hr : RdK W' R m s r') (hle : r' ≤ s.size) (hg : W.grownBy W' (some R)) : DSt w C R m Lb B s i r' W' := by
  obtain ⟨_, h1, h2, ⟨vs, n, a, c, h3, h4, h4', h5, h6⟩, h7, h8, h9⟩ := h
  have lC := World.block_lt_of_cell? W _ h2
  have lL := World.block_lt_of_cell? W _ h3
  refine ⟨hr, hle, (hg.cell_far _ lC (fun e => by cases e; exact hCR rfl)).trans h2, ⟨vs, n, a, c, (hg.cell_far _ lL (fun e => by cases e; exact hLR rfl)).trans h3, h4, h4', h5.kept hg (.inr (fun e => by have := (h5.lt R e).1; omega)), h6⟩, (hg.frozen_far _ lL (fun e => by cases e; exact hLR rfl)).trans h7, by have := hg.size; omega, h9.trans hg⟩
theorem keep2_grown {B R : Nat} {W W' : World} (hg : W.grownBy W' (some R)) (hR : R < B) (hs : B + 2 ≤ W.heap.size) : Keep2 B W W' :=
  ⟨hg.size, fun k h1 h2 => hg.block k (by omega) (fun e => by cases e; omega)⟩
/-- what Decode's function tells -/
def D1Post (w : World) (R : Nat) (s : ByteArray) (e : Ending) (w' : World) : Prop :=
  match RK s.data.toList with
  | some vs => ∃ a c, e = .returned (.slice a vs.length c) ∧ SliceOf w' (.slice a vs.length c) vs ∧ (∀ x, a = some x → w.heap.size ≤ x.block) ∧ w.grownBy w' (some R)
  | none => KGone w R e w'
set_option maxRecDepth 100000 in
set_option maxHeartbeats 4000000 in
theorem qDecode1_any (C R m : Nat) (s : ByteArray) (w : World) (hC : w.cell? ⟨C, 0, none⟩ = some (.pointer (some ⟨R, 0, none⟩))) (hr : RdK w R m s 0) (hCR : C ≠ R) (hs : s.size ≤ 2400) :
    Calls Tryz.prog 28 #[.pointer (some ⟨C, 0, none⟩)] w (D1Post w R s) := by
  have hmf : ∀ (fn : Fn) (first cap : Array Value) (w : World), (Instr.makeFunc fn first cap).run Tryz.prog w = .ok (.func fn first cap) w := fun _ _ _ _ => rfl
  have hR := hr.lt
  have hM := hr.mlt
  have hCl : C < w.heap.size := World.block_lt_of_cell? w _ hC
  have HR := Lib.hid hr
  have HCC := Lib.hid hC
  have hRe : w.cell? ⟨R, 0, none⟩ = some (.string s) := hr.bytes
  refine (callsIn_wide (n := 6)).1 ?_
  refine callsIn_of_wpAt Tryz.func28 rfl ?_
  simp only [Tryz.ntmps28, List.size_toArray, List.length_cons, List.length_nil, Nat.reduceAdd, Nat.reduceSub, Array.replicate_succ, Array.replicate_zero, List.push_toArray, List.append_toArray, List.nil_append, List.cons_append]
  clear hr hRe
  refine wpAt_seq (wpAt_of_wpIn (wpIn_wide.2 ?_))
  go_wp2_with fail
  refine wpAt_seq (wpAt_of_wpIn (wpIn_wide.2 ?_))
  go_wp2_with fail
  refine wpAt_seq ?_
  refine wpAt_seq (wpAt_of_wpIn (wpIn_wide.2 ?_))
  go_wp2_with fail
  refine wpAt_block ?_
  obtain ⟨W0, hW0⟩ : ∃ W0, w.alloc (.cells #[.slice none 0 0] 22) = W0 := ⟨_, rfl⟩
  have hz0 : W0.heap.size = w.heap.size + 1 := by rw [← hW0]; simp
  have hD0 : DSt w C R m w.heap.size (W0.heap.size + 2) s 0 0 W0 := by
    have hb0 : Below w.heap.size w W0 := by rw [← hW0]; exact (Below.refl _ _).alloc (Nat.le_refl _) _
    refine ⟨HR.out.keep hb0, Nat.zero_le _, (hb0.cell hCl).trans HCC.out, ⟨[], 0, none, 0, by rw [← hW0]; simp [go_sem], rfl, Nat.le_refl _, World.ownsRow_nil _ _ _ _, DRel.zero s⟩, by rw [← hW0]; simp [go_sem], Nat.le_refl _, kgrown_below hb0 _⟩
  have HD0 := Lib.hid hD0
  have hzz : w.heap.size + 1 ≤ W0.heap.size := by omega
  have hzz2 : W0.heap.size ≤ w.heap.size + 1 := by omega
  rw [hW0]
  clear hW0 hz0 hD0
  refine wpAt_turnsP ⟨_, Tryz.func28⟩ (gf := 29) (fb := #[.pointer (some ⟨R, 0, none⟩)]) (lb := #[]) rfl (enters_of Tryz.func29 (by kernel_rfl) rfl)
    (begun_seq 5 (by decide) R m s (by omega)) (fun _ => rfl)
    (fun i W => DSt w C R m w.heap.size (W0.heap.size + 2) s i i W) (fun i W => DSt w C R m w.heap.size (W0.heap.size + 2) s i (i + 1) W) (fun _ _ _ => False) (fun ch W => (∃ t, ch = [{ v := .iface 90 (.string t), recovered := false }]) ∧ RK s.data.toList = none ∧ w.grownBy W (some R))
    (fun i A h => ⟨h.rd, h.le⟩)
    (fun i A A' h hlt hst hs2 => ⟨h.grow hCR (by omega) (by omega) hst.1 hlt hst.2, keep2_grown hst.2 (by omega) hs2⟩)
    (fun A A' h => by obtain ⟨q, rfl⟩ := h; exact ⟨Nat.le_refl _, fun _ _ _ => rfl⟩)
    (fun i W o _ h => h.put (by omega) (by omega) (by omega) (by omega) (by omega) (by omega) o) (fun i W o _ h => h.put (by omega) (by omega) (by omega) (by omega) (by omega) (by omega) o)
    (fun _ _ _ _ _ h => h.elim)
    (fun i A A' h hf => by obtain ⟨q, rfl⟩ := hf; exact h.grow hCR (by omega) (by omega) (h.rd.keep (below_drewN (Below.refl _ A) q)) h.le (kgrown_drewN A q _)) (fun _ _ _ _ h _ => h.elim)
    (fun o o' => HD0.out.grow hCR (by omega) (by omega) ((HD0.out.rd.alloc o).alloc o') HD0.out.le ((World.grownBy_alloc _ _ _).trans (World.grownBy_alloc _ _ _)))
    (fun i => { tmps := #[.pointer (some ⟨C, 0, none⟩), .slice none 0 0, .pointer (some ⟨w.heap.size, 0, none⟩), undef, .int .i64 (byteK s i : Nat), .pointer (some ⟨R, 0, none⟩), .func (.func 29) #[.pointer (some ⟨R, 0, none⟩)] #[], .int .i64 i, .int .i64 (byteK s i : Nat), undef, undef, undef, undef, undef, undef, undef], defers := [] })
    ?assign ?body ?done (fun _ _ _ h _ => h.elim) ?die
  case assign =>
    intro lp x W K hK
    simp only [encK]
    gi_wp2
    exact hK
  case done =>
    intro W hD hdf
    obtain ⟨vs, n, a, c, h3, h4, h4', h5, h6⟩ := hD.lst
    have hrk := h6.done
    have HP : Hid (D1Post w R s (.returned (.slice a n c)) (W.putObj W0.heap.size (.deferred none))) := Lib.hid (by
      unfold D1Post
      rw [hrk]
      have ho := ownsRow_putObj h5 (.deferred none) hdf rfl
      subst h4
      exact ⟨a, c, rfl, sliceK_own ho, fun x hx => by subst hx; have := (ho.lt x.block rfl).1; omega, hD.grown.os, hD.grown.tape, hD.grown.output, by simpa using hD.grown.size, fun k hk hr => (World.putObj_heap_other (by omega)).trans (hD.grown.block k hk hr)⟩)
    have HDF := Lib.hid hdf
    clear hrk h4 h4' h5 h6 hD hdf
    show wpAt _ _ _ _ _ _ _
    refine wpAt_of_wpIn (wpIn_wide.2 ?_)
    go_wp2_with fail
    refine ⟨by simp, .inl ⟨_, _, rfl, run_takeDeferred HDF.out, ?_⟩⟩
    exact ⟨.slice a n c, by simp [results, Tryz.results28, go_sem], HP.out⟩
  case die =>
    rintro ch W ⟨⟨t, rfl⟩, hno, hg⟩ hdf
    refine ⟨by simp, .inl ⟨_, _, rfl, run_takeDeferred hdf, ?_⟩⟩
    show D1Post w R s _ _
    unfold D1Post
    rw [hno]
    exact ⟨⟨t, rfl⟩, hg.os, hg.tape, hg.output, by simpa using hg.size, fun k hk hr => (World.putObj_heap_other (by omega)).trans (hg.block k hk hr)⟩
  case body =>
    intro lp i W hD hi hsz
    have hbk : byteK s i < 256 := by unfold byteK; exact UInt8.toNat_lt _
    have hV := qvalue_any (byteK s i) R m s (i + 1) W.drew hbk (hD.rd.keep (Below.refl _ _).drew) (by omega) hD.le
    have k2 := hD.box
    obtain ⟨vs, nn, a, c, h3, h4, h4', h5, h6⟩ := hD.lst
    have hzW : w.heap.size ≤ W.heap.size := by omega
    cases hb : bodyK (byteK s i) (s.data.toList.drop (i + 1)) with
    | none =>
      have hno := h6.no hi hb
      rw [hb] at hV
      have HC := Lib.hid hV
      have HKP : Hid (∀ w5, W.drew.grownBy w5 (some R) → Keep2 W0.heap.size W w5) := Lib.hid fun w5 hg => keep2_grown ((show W.grownBy W.drew (some R) from kgrown_drewN W 1 _).trans hg) (by omega) hsz
      have HGP : Hid (∀ w5, W.drew.grownBy w5 (some R) → RK s.data.toList = none ∧ w.grownBy w5 (some R)) := Lib.hid fun w5 hg => ⟨hno, hD.grown.trans ((show W.grownBy W.drew (some R) from kgrown_drewN W 1 _).trans hg)⟩
      clear hV hb h4 h4' h5 h6 hno hD
      gi_wp2
      refine wpIn_region_any (by kernel_rfl) ?_
      change wpAnyIn _ _ _ _ _ _ _ _ _ (World.drew _)
      -- NO
      refine wpAnyInK_three 0 1 2 (by kernel_rfl) ?_ ?_ ?_
      · unfold wpOpIn
        go_simp
        refine wpAnyInK_two 1 2 (by kernel_rfl) ?_ ?_
        · unfold wpOpIn
          go_simp
          refine wpAnyInK_one 2 (by kernel_rfl) ?_
          unfold wpOpIn
          go_simp
          refine wpAnyInK_one 3 (by kernel_rfl) ?_
          unfold wpOpIn
          go_simp
          refine ⟨trivial, (CallsIn.inRound lp (callsIn_wide.2 HC.out)).mono ?_⟩
          rintro e w5 ⟨⟨t, rfl⟩, hg5⟩
          exact ⟨rfl, HKP.out w5 hg5, ⟨t, rfl⟩, HGP.out w5 hg5⟩
        · unfold wpOpIn
          go_simp
          refine wpAnyInK_one 1 (by kernel_rfl) ?_
          unfold wpOpIn
          go_simp
          refine wpAnyInK_one 3 (by kernel_rfl) ?_
          unfold wpOpIn
          go_simp
          refine ⟨trivial, (CallsIn.inRound lp (callsIn_wide.2 HC.out)).mono ?_⟩
          rintro e w5 ⟨⟨t, rfl⟩, hg5⟩
          exact ⟨rfl, HKP.out w5 hg5, ⟨t, rfl⟩, HGP.out w5 hg5⟩
      · unfold wpOpIn
        go_simp
        refine wpAnyInK_two 0 2 (by kernel_rfl) ?_ ?_
        · unfold wpOpIn
          go_simp
          refine wpAnyInK_one 2 (by kernel_rfl) ?_
          unfold wpOpIn
          go_simp
          refine wpAnyInK_one 3 (by kernel_rfl) ?_
          unfold wpOpIn
          go_simp
          refine ⟨trivial, (CallsIn.inRound lp (callsIn_wide.2 HC.out)).mono ?_⟩
          rintro e w5 ⟨⟨t, rfl⟩, hg5⟩
          exact ⟨rfl, HKP.out w5 hg5, ⟨t, rfl⟩, HGP.out w5 hg5⟩
        · unfold wpOpIn
          go_simp
          refine wpAnyInK_two 0 3 (by kernel_rfl) ?_ ?_
          · unfold wpOpIn
            go_simp
            refine wpAnyInK_one 3 (by kernel_rfl) ?_
            unfold wpOpIn
            go_simp
            refine ⟨trivial, (CallsIn.inRound lp (callsIn_wide.2 HC.out)).mono ?_⟩
            rintro e w5 ⟨⟨t, rfl⟩, hg5⟩
            exact ⟨rfl, HKP.out w5 hg5, ⟨t, rfl⟩, HGP.out w5 hg5⟩
          · unfold wpOpIn
            go_simp
            refine ⟨trivial, (CallsIn.inRound lp (callsIn_wide.2 HC.out)).mono ?_⟩
            rintro e w5 ⟨⟨t, rfl⟩, hg5⟩
            exact ⟨rfl, HKP.out w5 hg5, ⟨t, rfl⟩, HGP.out w5 hg5⟩
      · unfold wpOpIn
        go_simp
        refine wpAnyInK_two 0 1 (by kernel_rfl) ?_ ?_
        · unfold wpOpIn
          go_simp
          refine wpAnyInK_one 1 (by kernel_rfl) ?_
          unfold wpOpIn
          go_simp
          refine wpAnyInK_one 3 (by kernel_rfl) ?_
          unfold wpOpIn
          go_simp
          refine ⟨trivial, (CallsIn.inRound lp (callsIn_wide.2 HC.out)).mono ?_⟩
          rintro e w5 ⟨⟨t, rfl⟩, hg5⟩
          exact ⟨rfl, HKP.out w5 hg5, ⟨t, rfl⟩, HGP.out w5 hg5⟩
        · unfold wpOpIn
          go_simp
          refine wpAnyInK_two 0 3 (by kernel_rfl) ?_ ?_
          · unfold wpOpIn
            go_simp
            refine wpAnyInK_one 3 (by kernel_rfl) ?_
            unfold wpOpIn
            go_simp
            refine ⟨trivial, (CallsIn.inRound lp (callsIn_wide.2 HC.out)).mono ?_⟩
            rintro e w5 ⟨⟨t, rfl⟩, hg5⟩
            exact ⟨rfl, HKP.out w5 hg5, ⟨t, rfl⟩, HGP.out w5 hg5⟩
          · unfold wpOpIn
            go_simp
            refine ⟨trivial, (CallsIn.inRound lp (callsIn_wide.2 HC.out)).mono ?_⟩
            rintro e w5 ⟨⟨t, rfl⟩, hg5⟩
            exact ⟨rfl, HKP.out w5 hg5, ⟨t, rfl⟩, HGP.out w5 hg5⟩
      -- NOEND
    | some y =>
      obtain ⟨v, n⟩ := y
      have hlen := bodyK_len hi hb
      have hnx := h6.next hi hb
      rw [hb] at hV
      have HC := Lib.hid hV
      have HST : Hid (∀ e w5, KBody W.drew R m s (i + 1) (some (v, n)) e w5 → e = .returned (.agg #[.int .i64 v.k, .int .i64 v.i, .int .u64 v.u, .string v.s]) ∧ ∃ a8 c8 w7, (Builtin.append_ #[22, 22] 22 #[.slice a nn c, .slice (some ⟨w5.heap.size, 0, none⟩) 1 1]).run Tryz.prog (w5.alloc (.cells #[.int .i64 v.k, .int .i64 v.i, .int .u64 v.u, .string v.s] 42)) = .ok (.slice a8 (nn + 1) c8) w7 ∧
          w5.cell? ⟨w.heap.size, 0, none⟩ = some (.slice a nn c) ∧ w.heap.size < w5.heap.size ∧ w7.cell? ⟨w.heap.size, 0, none⟩ = some (.slice a nn c) ∧ w7.frozen? ⟨w.heap.size, 0, none⟩ = false ∧ Hid (Keep2 W0.heap.size W (w7.setCell ⟨w.heap.size, 0, none⟩ (.slice a8 (nn + 1) c8))) ∧ Hid (DSt w C R m w.heap.size (W0.heap.size + 2) s (i + 1 + n) (i + 1 + n) (w7.setCell ⟨w.heap.size, 0, none⟩ (.slice a8 (nn + 1) c8)))) := Lib.hid fun e w5 hk => by
        obtain ⟨rfl, hr5, hg5⟩ := hk
        have hg : W.grownBy w5 (some R) := (show W.grownBy W.drew (some R) from kgrown_drewN W 1 _).trans hg5
        have hD5 := hD.grow (i := i) hCR (by omega) (by omega) hr5 hlen hg
        have ho5 : w5.ownsRow (W0.heap.size + 2) 42 4 (.slice a nn c) nn (vcellsK vs) := h5.kept hg (.inr (fun e => by have := (h5.lt R e).1; omega))
        have hz5 := hg.size
        obtain ⟨a8, c8, w7, hrun, hown7, hg7⟩ := appendV_run (x := v) ho5 (by omega) (by omega) 22
        have hlo : ∀ r, (Value.slice a nn c).ownBlock = some r → W0.heap.size + 2 ≤ r := fun r hr => (ho5.lt r hr).1
        have hfar : ∀ g o, g < W0.heap.size + 2 → w7.cell? ⟨g, o, none⟩ = w5.cell? ⟨g, o, none⟩ := fun g o hg0 => (hg7.cell_far ⟨g, o, none⟩ (by simp; omega) (fun e => by have := hlo g e.symm; omega)).trans (World.cell?_alloc_lt _ _ _ (by show g < _; omega))
        have hfarf : ∀ g o, g < W0.heap.size + 2 → w7.frozen? ⟨g, o, none⟩ = w5.frozen? ⟨g, o, none⟩ := fun g o hg0 => (hg7.frozen_far ⟨g, o, none⟩ (by simp; omega) (fun e => by have := hlo g e.symm; omega)).trans (((Below.refl w5.heap.size w5).alloc (Nat.le_refl _) _).frozen (p := ⟨g, o, none⟩) (by show g < _; omega))
        have hblk : ∀ k, k < W0.heap.size + 2 → w7.heap[k]? = w5.heap[k]? := fun k hk => (hg7.block k (by simp; omega) (fun e => by have := hlo k e.symm; omega)).trans (Below.heap_alloc _ _ _ (by omega))
        have hc5 : w5.cell? ⟨w.heap.size, 0, none⟩ = some (.slice a nn c) := (hg.cell_far ⟨w.heap.size, 0, none⟩ (World.block_lt_of_cell? W _ h3) (fun e => by have : w.heap.size = R := Option.some.inj e; omega)).trans h3
        have hz7 := hg7.size
        rw [World.size_alloc] at hz7
        have hset : ∀ k, k ≠ w.heap.size → (w7.setCell ⟨w.heap.size, 0, none⟩ (.slice a8 (nn + 1) c8)).heap[k]? = w7.heap[k]? := fun k hk => Below.heap_setCell _ _ _ _ (by show k ≠ _; exact hk)
        refine ⟨rfl, a8, c8, w7, hrun, hc5, by omega, (hfar _ _ (by omega)).trans hc5, (hfarf _ _ (by omega)).trans hD5.free, Lib.hid ⟨by simp; omega, fun k h1 h2 => ?_⟩, Lib.hid ?_⟩
        · rw [hset k (by omega), hblk k (by omega)]
          exact (keep2_grown hg (by omega) hsz).same k h1 h2
        · obtain ⟨q0, q1, q2, q3, q4, q5⟩ := hr5
          have e : ∀ g o, g < W0.heap.size + 2 → g ≠ w.heap.size → (w7.setCell ⟨w.heap.size, 0, none⟩ (.slice a8 (nn + 1) c8)).cell? ⟨g, o, none⟩ = w5.cell? ⟨g, o, none⟩ := fun g o h1 h2 => (World.cell?_setCell_far _ _ _ _ (show w.heap.size ≠ g from fun e => h2 e.symm)).trans (hfar g o h1)
          refine ⟨⟨(e R 0 (by omega) (by omega)).trans q0, (e R 1 (by omega) (by omega)).trans q1, (e R 2 (by omega) (by omega)).trans q2, by rw [World.frozen?_setCell, hfarf _ _ (by omega)]; exact q3, by rw [hset m (by omega), hblk m (by omega)]; exact q4, q5⟩, hlen, (e C 0 (by omega) (by omega)).trans hD5.box, ⟨vs ++ [v], nn + 1, a8, c8, ?_, by simp [h4], by omega, ?_, hnx⟩, by rw [World.frozen?_setCell, hfarf _ _ (by omega)]; exact hD5.free, by simp; omega, ?_⟩
          · rw [World.cell?_setCell_same' _ _ _ (by rw [hfar _ _ (by omega), hc5]; rfl)]
          · exact ownsRow_setCell_below hown7 (by show w.heap.size < _; omega) _
          · exact ⟨hg7.os.trans hD5.grown.os, hg7.tape.trans hD5.grown.tape, hg7.output.trans hD5.grown.output, by simp; omega, fun k hk hr => by rw [hset k (by omega), hblk k (by omega)]; exact hD5.grown.block k hk hr⟩
      clear hV hb h4 h4' h5 h6 hnx hD
      gi_wp2
      refine wpIn_region_any (by kernel_rfl) ?_
      change wpAnyIn _ _ _ _ _ _ _ _ _ (World.drew _)
      -- YES
      refine wpAnyInK_three 0 1 2 (by kernel_rfl) ?_ ?_ ?_
      · unfold wpOpIn
        go_simp
        refine wpAnyInK_two 1 2 (by kernel_rfl) ?_ ?_
        · unfold wpOpIn
          go_simp
          refine wpAnyInK_one 2 (by kernel_rfl) ?_
          unfold wpOpIn
          go_simp
          refine wpAnyInK_one 3 (by kernel_rfl) ?_
          unfold wpOpIn
          go_simp
          refine ⟨trivial, (CallsIn.inRound lp (callsIn_wide.2 HC.out)).mono ?_⟩
          rintro e w5 he5
          obtain ⟨rfl, a8, c8, w7, hrun, k0, kb, k1, k2, HK4, HK3⟩ := HST.out e w5 he5
          have HRUN := Lib.hid hrun
          clear he5 hrun
          dsimp only
          refine wpAnyInK_one 4 (by kernel_rfl) ?_
          unfold wpOpIn
          go_simp
          refine wpAnyInK_one 5 (by kernel_rfl) ?_
          refine wpOpInK_append (fun _ => trivial) rfl rfl (s := .tmp 9) (x := .tmp 13) (t := 22) rfl rfl rfl HRUN.out ?_
          refine wpAnyInK_one 6 (by kernel_rfl) ?_
          unfold wpOpIn
          go_simp
          refine ⟨by kernel_rfl, ?_⟩
          exact ⟨HK4.out, _, by omega, HK3.out⟩
        · unfold wpOpIn
          go_simp
          refine wpAnyInK_one 1 (by kernel_rfl) ?_
          unfold wpOpIn
          go_simp
          refine wpAnyInK_one 3 (by kernel_rfl) ?_
          unfold wpOpIn
          go_simp
          refine ⟨trivial, (CallsIn.inRound lp (callsIn_wide.2 HC.out)).mono ?_⟩
          rintro e w5 he5
          obtain ⟨rfl, a8, c8, w7, hrun, k0, kb, k1, k2, HK4, HK3⟩ := HST.out e w5 he5
          have HRUN := Lib.hid hrun
          clear he5 hrun
          dsimp only
          refine wpAnyInK_one 4 (by kernel_rfl) ?_
          unfold wpOpIn
          go_simp
          refine wpAnyInK_one 5 (by kernel_rfl) ?_
          refine wpOpInK_append (fun _ => trivial) rfl rfl (s := .tmp 9) (x := .tmp 13) (t := 22) rfl rfl rfl HRUN.out ?_
          refine wpAnyInK_one 6 (by kernel_rfl) ?_
          unfold wpOpIn
          go_simp
          refine ⟨by kernel_rfl, ?_⟩
          exact ⟨HK4.out, _, by omega, HK3.out⟩
      · unfold wpOpIn
        go_simp
        refine wpAnyInK_two 0 2 (by kernel_rfl) ?_ ?_
        · unfold wpOpIn
          go_simp
          refine wpAnyInK_one 2 (by kernel_rfl) ?_
          unfold wpOpIn
          go_simp
          refine wpAnyInK_one 3 (by kernel_rfl) ?_
          unfold wpOpIn
          go_simp
          refine ⟨trivial, (CallsIn.inRound lp (callsIn_wide.2 HC.out)).mono ?_⟩
          rintro e w5 he5
          obtain ⟨rfl, a8, c8, w7, hrun, k0, kb, k1, k2, HK4, HK3⟩ := HST.out e w5 he5
          have HRUN := Lib.hid hrun
          clear he5 hrun
          dsimp only
          refine wpAnyInK_one 4 (by kernel_rfl) ?_
          unfold wpOpIn
          go_simp
          refine wpAnyInK_one 5 (by kernel_rfl) ?_
          refine wpOpInK_append (fun _ => trivial) rfl rfl (s := .tmp 9) (x := .tmp 13) (t := 22) rfl rfl rfl HRUN.out ?_
          refine wpAnyInK_one 6 (by kernel_rfl) ?_
          unfold wpOpIn
          go_simp
          refine ⟨by kernel_rfl, ?_⟩
          exact ⟨HK4.out, _, by omega, HK3.out⟩
        · unfold wpOpIn
          go_simp
          refine wpAnyInK_two 0 3 (by kernel_rfl) ?_ ?_
          · unfold wpOpIn
            go_simp
            refine wpAnyInK_one 3 (by kernel_rfl) ?_
            unfold wpOpIn
            go_simp
            refine ⟨trivial, (CallsIn.inRound lp (callsIn_wide.2 HC.out)).mono ?_⟩
            rintro e w5 he5
            obtain ⟨rfl, a8, c8, w7, hrun, k0, kb, k1, k2, HK4, HK3⟩ := HST.out e w5 he5
            have HRUN := Lib.hid hrun
            clear he5 hrun
            dsimp only
            refine wpAnyInK_one 4 (by kernel_rfl) ?_
            unfold wpOpIn
            go_simp
            refine wpAnyInK_one 5 (by kernel_rfl) ?_
            refine wpOpInK_append (fun _ => trivial) rfl rfl (s := .tmp 9) (x := .tmp 13) (t := 22) rfl rfl rfl HRUN.out ?_
            refine wpAnyInK_one 6 (by kernel_rfl) ?_
            unfold wpOpIn
            go_simp
            refine ⟨by kernel_rfl, ?_⟩
            exact ⟨HK4.out, _, by omega, HK3.out⟩
          · unfold wpOpIn
            go_simp
            refine ⟨trivial, (CallsIn.inRound lp (callsIn_wide.2 HC.out)).mono ?_⟩
            rintro e w5 he5
            obtain ⟨rfl, a8, c8, w7, hrun, k0, kb, k1, k2, HK4, HK3⟩ := HST.out e w5 he5
            have HRUN := Lib.hid hrun
            clear he5 hrun
            dsimp only
            refine wpAnyInK_two 0 4 (by kernel_rfl) ?_ ?_
            · unfold wpOpIn
              go_simp
              refine wpAnyInK_one 4 (by kernel_rfl) ?_
              unfold wpOpIn
              go_simp
              refine wpAnyInK_one 5 (by kernel_rfl) ?_
              refine wpOpInK_append (fun _ => trivial) rfl rfl (s := .tmp 9) (x := .tmp 13) (t := 22) rfl rfl rfl HRUN.out ?_
              refine wpAnyInK_one 6 (by kernel_rfl) ?_
              unfold wpOpIn
              go_simp
              refine ⟨by kernel_rfl, ?_⟩
              exact ⟨HK4.out, _, by omega, HK3.out⟩
            · unfold wpOpIn
              go_simp
              refine wpAnyInK_one 0 (by kernel_rfl) ?_
              unfold wpOpIn
              go_simp
              refine wpAnyInK_one 5 (by kernel_rfl) ?_
              refine wpOpInK_append (fun _ => trivial) rfl rfl (s := .tmp 9) (x := .tmp 13) (t := 22) rfl rfl rfl HRUN.out ?_
              refine wpAnyInK_one 6 (by kernel_rfl) ?_
              unfold wpOpIn
              go_simp
              refine ⟨by kernel_rfl, ?_⟩
              exact ⟨HK4.out, _, by omega, HK3.out⟩
      · unfold wpOpIn
        go_simp
        refine wpAnyInK_two 0 1 (by kernel_rfl) ?_ ?_
        · unfold wpOpIn
          go_simp
          refine wpAnyInK_one 1 (by kernel_rfl) ?_
          unfold wpOpIn
          go_simp
          refine wpAnyInK_one 3 (by kernel_rfl) ?_
          unfold wpOpIn
          go_simp
          refine ⟨trivial, (CallsIn.inRound lp (callsIn_wide.2 HC.out)).mono ?_⟩
          rintro e w5 he5
          obtain ⟨rfl, a8, c8, w7, hrun, k0, kb, k1, k2, HK4, HK3⟩ := HST.out e w5 he5
          have HRUN := Lib.hid hrun
          clear he5 hrun
          dsimp only
          refine wpAnyInK_one 4 (by kernel_rfl) ?_
          unfold wpOpIn
          go_simp
          refine wpAnyInK_one 5 (by kernel_rfl) ?_
          refine wpOpInK_append (fun _ => trivial) rfl rfl (s := .tmp 9) (x := .tmp 13) (t := 22) rfl rfl rfl HRUN.out ?_
          refine wpAnyInK_one 6 (by kernel_rfl) ?_
          unfold wpOpIn
          go_simp
          refine ⟨by kernel_rfl, ?_⟩
          exact ⟨HK4.out, _, by omega, HK3.out⟩
        · unfold wpOpIn
          go_simp
          refine wpAnyInK_two 0 3 (by kernel_rfl) ?_ ?_
          · unfold wpOpIn
            go_simp
            refine wpAnyInK_one 3 (by kernel_rfl) ?_
            unfold wpOpIn
            go_simp
            refine ⟨trivial, (CallsIn.inRound lp (callsIn_wide.2 HC.out)).mono ?_⟩
            rintro e w5 he5
            obtain ⟨rfl, a8, c8, w7, hrun, k0, kb, k1, k2, HK4, HK3⟩ := HST.out e w5 he5
            have HRUN := Lib.hid hrun
            clear he5 hrun
            dsimp only
            refine wpAnyInK_one 4 (by kernel_rfl) ?_
            unfold wpOpIn
            go_simp
            refine wpAnyInK_one 5 (by kernel_rfl) ?_
            refine wpOpInK_append (fun _ => trivial) rfl rfl (s := .tmp 9) (x := .tmp 13) (t := 22) rfl rfl rfl HRUN.out ?_
            refine wpAnyInK_one 6 (by kernel_rfl) ?_
            unfold wpOpIn
            go_simp
            refine ⟨by kernel_rfl, ?_⟩
            exact ⟨HK4.out, _, by omega, HK3.out⟩
          · unfold wpOpIn
            go_simp
            refine ⟨trivial, (CallsIn.inRound lp (callsIn_wide.2 HC.out)).mono ?_⟩
            rintro e w5 he5
            obtain ⟨rfl, a8, c8, w7, hrun, k0, kb, k1, k2, HK4, HK3⟩ := HST.out e w5 he5
            have HRUN := Lib.hid hrun
            clear he5 hrun
            dsimp only
            refine wpAnyInK_two 0 4 (by kernel_rfl) ?_ ?_
            · unfold wpOpIn
              go_simp
              refine wpAnyInK_one 4 (by kernel_rfl) ?_
              unfold wpOpIn
              go_simp
              refine wpAnyInK_one 5 (by kernel_rfl) ?_
              refine wpOpInK_append (fun _ => trivial) rfl rfl (s := .tmp 9) (x := .tmp 13) (t := 22) rfl rfl rfl HRUN.out ?_
              refine wpAnyInK_one 6 (by kernel_rfl) ?_
              unfold wpOpIn
              go_simp
              refine ⟨by kernel_rfl, ?_⟩
              exact ⟨HK4.out, _, by omega, HK3.out⟩
            · unfold wpOpIn
              go_simp
              refine wpAnyInK_one 0 (by kernel_rfl) ?_
              unfold wpOpIn
              go_simp
              refine wpAnyInK_one 5 (by kernel_rfl) ?_
              refine wpOpInK_append (fun _ => trivial) rfl rfl (s := .tmp 9) (x := .tmp 13) (t := 22) rfl rfl rfl HRUN.out ?_
              refine wpAnyInK_one 6 (by kernel_rfl) ?_
              unfold wpOpIn
              go_simp
              refine ⟨by kernel_rfl, ?_⟩
              exact ⟨HK4.out, _, by omega, HK3.out⟩
      -- YESEND
end Go.Proofs.YtcedeipmboekaaaGreatDoor
namespace Go.Proofs.YtcedeipmboekaaaGreatDoor
open Go.RowKit

theorem asNoneK (s : ByteArray) (w : World) : (Instr.typeAssert (.iface 90 (.string s)) 20 90 true).run Tryz.prog w = .ok (.tuple #[.string s, .bool true]) w := by kernel_rfl
theorem asNilK (w : World) : (Instr.typeAssert .nilIface 20 90 true).run Tryz.prog w = .ok (.tuple #[.string ⟨#[]⟩, .bool false]) w := by kernel_rfl
set_option maxRecDepth 100000 in
set_option maxHeartbeats 1000000 in
theorem qcatchL_panicking (p : Addr) (x : Int) (s : ByteArray) (w : World) (hc : w.cell? p = some (.int .i64 x)) (hz : w.frozen? p = false) :
    CallsD Tryz.prog 53 #[.pointer (some p)] (.panicking [{ v := .iface 90 (.string s), recovered := false }]) w fun e u' w' =>
      e = .returned (.tuple #[]) ∧ u' = .panicking [{ v := .iface 90 (.string s), recovered := true }] ∧ w.setCell p (.int .i64 150) = w' := by
  refine callsD_of_wpS Tryz.func53 rfl fun c₀ cs hu => ?_
  apply wpS_seq
  apply wpS_region
  simp [wpOpsS, go_sem, recoverD, hu, Tryz.ntmps53, Exit.thenS]
  refine wpS_of_wp ?_
  rw [show (#[Value.pointer (some p)] ++ ((Array.replicate 15 undef).setIfInBounds 3 (Value.iface 90 (Value.string s))).setIfInBounds 0 (Value.iface 90 (Value.string s)) : Array Value) = #[.pointer (some p), .iface 90 (.string s), undef, undef, .iface 90 (.string s), undef, undef, undef, undef, undef, undef, undef, undef, undef, undef, undef] from rfl]
  have HU := Lib.hid hu
  clear hu
  have hTA := asNoneK s
  go_wp2
  simp [bodyPostS, results, Tryz.results53, go_sem]
set_option maxRecDepth 100000 in
set_option maxHeartbeats 1000000 in
theorem qcatchL_idle (p : Addr) (w : World) :
    CallsD Tryz.prog 53 #[.pointer (some p)] .returning w fun e u' w' => e = .returned (.tuple #[]) ∧ u' = .returning ∧ w = w' := by
  refine callsD_of_wpS Tryz.func53 rfl fun c₀ cs hu => ?_
  apply wpS_seq
  apply wpS_region
  simp [wpOpsS, go_sem, recoverD, hu, Tryz.ntmps53, Exit.thenS]
  refine wpS_of_wp ?_
  rw [show (#[Value.pointer (some p)] ++ ((Array.replicate 15 undef).setIfInBounds 3 Value.nilIface).setIfInBounds 0 Value.nilIface : Array Value) = #[.pointer (some p), .nilIface, undef, undef, .nilIface, undef, undef, undef, undef, undef, undef, undef, undef, undef, undef, undef] from rfl]
  have HU := Lib.hid hu
  clear hu
  have hTA := asNilK
  go_wp2
  have hu := HU.out
  cases c₀
  simp_all [bodyPostS, results, Tryz.results53, go_sem]
/-- what attempt tells of Decode's function -/
def TLPost (w : World) (R : Nat) (o : Option (List Vl)) (e : Ending) (w' : World) : Prop :=
  match o with
  | some vs => ∃ a c, e = .returned (.tuple #[.slice a vs.length c, .int .i64 0]) ∧ SliceOf w' (.slice a vs.length c) vs ∧ w.grownBy w' (some R)
  | none => e = .returned (.tuple #[.slice none 0 0, .int .i64 150]) ∧ w.grownBy w' (some R)
theorem cellEK {w w1 : World} {R : Nat} (hR : R < w.heap.size) (hg : (w.alloc (.cells #[.int .i64 0] 25)).grownBy w1 (some R)) : w1.cell? ⟨w.heap.size, 0, none⟩ = some (.int .i64 0) ∧ w1.frozen? ⟨w.heap.size, 0, none⟩ = false := by
  refine ⟨?_, ?_⟩
  · rw [hg.cell_far _ (by simp) (by simp; omega)]; simp [go_sem]
  · rw [hg.frozen_far _ (by simp) (by simp; omega)]; simp [go_sem]
theorem slice_setK {w : World} {v : Value} {l : List Vl} {B : Nat} {x : Value} (h : SliceOf w v l) (hz : ∀ a n c, v = .slice (some a) n c → a.block ≠ B) : SliceOf (w.setCell ⟨B, 0, none⟩ x) v l := by
  rcases h with ⟨rfl, rfl⟩ | ⟨a, cap, rfl, hc, ha⟩
  · exact .inl ⟨rfl, rfl⟩
  · refine .inr ⟨a, cap, rfl, hc, fun j hj => ?_⟩
    have hne := hz a _ _ rfl
    obtain ⟨h0, h1, h2, h3⟩ := ha j hj
    have hb : (a.add (j * 4)).block = a.block := Addr.add_block _ _
    refine ⟨?_, ?_, ?_, ?_⟩
    · rw [World.cell?_setCell_far _ _ _ _ (by rw [hb]; exact fun e => hne e.symm)]; exact h0
    · rw [World.cell?_setCell_far _ _ _ _ (by simp only [hb]; exact fun e => hne e.symm)]; exact h1
    · rw [World.cell?_setCell_far _ _ _ _ (by simp only [hb]; exact fun e => hne e.symm)]; exact h2
    · rw [World.cell?_setCell_far _ _ _ _ (by simp only [hb]; exact fun e => hne e.symm)]; exact h3
set_option maxRecDepth 100000 in
set_option maxHeartbeats 1000000 in
theorem qattemptL_yes (R C : Nat) (vs : List Vl) (w : World) (hR : R < w.heap.size)
    (H : Calls Tryz.prog 28 #[.pointer (some ⟨C, 0, none⟩)] (w.alloc (.cells #[.int .i64 0] 25)) fun e w' => ∃ a c, e = .returned (.slice a vs.length c) ∧ SliceOf w' (.slice a vs.length c) vs ∧ (∀ x, a = some x → w.heap.size + 1 ≤ x.block) ∧ (w.alloc (.cells #[.int .i64 0] 25)).grownBy w' (some R)) :
    Calls Tryz.prog 27 #[.func (.func 28) #[] #[.pointer (some ⟨C, 0, none⟩)]] w (TLPost w R (some vs)) := by
  have hmf : ∀ (fn : Fn) (first cap : Array Value) (w : World), (Instr.makeFunc fn first cap).run Tryz.prog w = .ok (.func fn first cap) w := fun _ _ _ _ => rfl
  have HH := Lib.hid H
  clear H
  go_enter_defers Tryz.func27, Tryz.ntmps27
  go_wp2_with fail
  refine HH.out.mono ?_
  rintro e w1 ⟨a, c, rfl, hv, hne, hg⟩
  obtain ⟨c0, f0⟩ := cellEK hR hg
  have HV := Lib.hid hv
  have HNE := Lib.hid hne
  have HG := Lib.hid ((World.grownBy_alloc w _ _).trans hg)
  clear hv hg hne
  go_wp2_with fail
  refine leaves_cons (f := 53) (args := #[.pointer (some ⟨w.heap.size, 0, none⟩)]) (by simp) (by simp [go_sem]) ?_
  refine (qcatchL_idle ⟨w.heap.size, 0, none⟩ _).mono ?_
  rintro e u' w'' ⟨rfl, rfl, rfl⟩
  simp [Leaves, settle, results, Tryz.results27, go_sem, c0]
  exact ⟨a, c, rfl, slice_setK HV.out (fun y n c' hy => by simp only [Value.slice.injEq] at hy; have := HNE.out y hy.1; omega), kgrown_set HG.out (Nat.le_refl _)⟩
set_option maxRecDepth 100000 in
set_option maxHeartbeats 1000000 in
theorem qattemptL_no (R C : Nat) (w : World) (hR : R < w.heap.size)
    (H : Calls Tryz.prog 28 #[.pointer (some ⟨C, 0, none⟩)] (w.alloc (.cells #[.int .i64 0] 25)) (KGone (w.alloc (.cells #[.int .i64 0] 25)) R)) :
    Calls Tryz.prog 27 #[.func (.func 28) #[] #[.pointer (some ⟨C, 0, none⟩)]] w (TLPost w R none) := by
  have hmf : ∀ (fn : Fn) (first cap : Array Value) (w : World), (Instr.makeFunc fn first cap).run Tryz.prog w = .ok (.func fn first cap) w := fun _ _ _ _ => rfl
  have HH := Lib.hid H
  clear H
  go_enter_defers Tryz.func27, Tryz.ntmps27
  go_wp2_with fail
  refine HH.out.mono ?_
  rintro e w1 ⟨⟨q, rfl⟩, hg⟩
  obtain ⟨c0, f0⟩ := cellEK hR hg
  have HG := Lib.hid ((World.grownBy_alloc w _ _).trans hg)
  clear hg
  refine leaves_cons (f := 53) (args := #[.pointer (some ⟨w.heap.size, 0, none⟩)]) (by simp) (by simp [go_sem]) ?_
  refine (qcatchL_panicking ⟨w.heap.size, 0, none⟩ 0 q _ c0 f0).mono ?_
  rintro e u' w'' ⟨rfl, rfl, rfl⟩
  simp [Leaves, settle, results, Tryz.results27, go_sem, c0]
  exact ⟨rfl, kgrown_set HG.out (Nat.le_refl _)⟩
/-- Decode's answer -/
def decO (s : ByteArray) : Option (List Vl) := if 2000 < s.size then none else RK s.data.toList
def DecPostK (w : World) (s : ByteArray) (e : Ending) (w' : World) : Prop :=
  (match decO s with
   | some vs => ∃ a c, e = .returned (.tuple #[.slice a vs.length c, .int .i64 0]) ∧ SliceOf w' (.slice a vs.length c) vs
   | none => e = .returned (.tuple #[.slice none 0 0, .int .i64 150])) ∧ Below w.heap.size w w'
set_option maxRecDepth 100000 in
set_option maxHeartbeats 1000000 in
theorem qDecode_any (s : ByteArray) (w : World) (hs : s.size ≤ 1000000) : Calls Tryz.prog 13 #[.string s] w (DecPostK w s) := by
  have hmf : ∀ (fn : Fn) (first cap : Array Value) (w : World), (Instr.makeFunc fn first cap).run Tryz.prog w = .ok (.func fn first cap) w := fun _ _ _ _ => rfl
  by_cases h2 : 2000 < s.size
  · have HO := Lib.hid (show decO s = none by unfold decO; rw [if_pos h2])
    have h2' : (2000 : Int) < (s.size : Int) := by omega
    go_enter Tryz.func13, Tryz.ntmps13
    go_wp2_with fail
    go_ret2
    unfold DecPostK
    rw [HO.out]
    exact ⟨rfl, Below.refl _ _⟩
  · have HO := Lib.hid (show decO s = RK s.data.toList by unfold decO; rw [if_neg h2])
    have h2' : ¬ (2000 : Int) < (s.size : Int) := by omega
    -- the world in which attempt is called
    obtain ⟨W1, hW1⟩ : ∃ W1, ((w.alloc (.map keyKinds 5)).alloc (.cells #[.string s, .int .i64 0, .map (some w.heap.size)] 89)).alloc (.cells #[.pointer (some ⟨w.heap.size + 1, 0, none⟩)] 62) = W1 := ⟨_, rfl⟩
    have hz1 : W1.heap.size = w.heap.size + 3 := by rw [← hW1]; simp
    have hb1 : Below w.heap.size w W1 := by rw [← hW1]; exact (((Below.refl _ _).alloc (Nat.le_refl _) _).alloc (by simp) _).alloc (by simp; omega) _
    have hrd : RdK W1 (w.heap.size + 1) w.heap.size s 0 := by
      rw [← hW1]
      refine ⟨by simp [go_sem], by simp [go_sem], by simp [go_sem], by simp [go_sem], ?_, by omega⟩
      rw [Below.heap_alloc _ _ _ (by simp; omega), Below.heap_alloc _ _ _ (by simp)]
      exact heap_alloc_at _ _
    have hbox : W1.cell? ⟨w.heap.size + 2, 0, none⟩ = some (.pointer (some ⟨w.heap.size + 1, 0, none⟩)) := by rw [← hW1]; simp [go_sem]
    have hb2 : Below W1.heap.size W1 (W1.alloc (.cells #[.int .i64 0] 25)) := (Below.refl _ _).alloc (Nat.le_refl _) _
    have H1 := qDecode1_any (w.heap.size + 2) (w.heap.size + 1) w.heap.size s (W1.alloc (.cells #[.int .i64 0] 25)) ((hb2.cell (by rw [hz1]; show w.heap.size + 2 < _; omega)).trans hbox) (hrd.keep hb2) (by omega) (by omega)
    have HT : Hid (Calls Tryz.prog 27 #[.func (.func 28) #[] #[.pointer (some ⟨w.heap.size + 2, 0, none⟩)]] W1 (TLPost W1 (w.heap.size + 1) (RK s.data.toList))) := Lib.hid (by
      unfold D1Post at H1
      cases hrk : RK s.data.toList with
      | some vs =>
        rw [hrk] at H1
        refine qattemptL_yes _ _ vs W1 (by omega) (H1.mono ?_)
        rintro e w' ⟨a, c, h1, h2, h3, h4⟩
        exact ⟨a, c, h1, h2, fun x hx => by have := h3 x hx; rw [World.size_alloc] at this; exact this, h4⟩
      | none =>
        rw [hrk] at H1
        exact qattemptL_no _ _ W1 (by omega) H1)
    have HP : Hid (∀ e w', TLPost W1 (w.heap.size + 1) (RK s.data.toList) e w' → ∃ v n, e = .returned (.tuple #[v, n]) ∧ DecPostK w s (.returned (.tuple #[v, n])) w') := Lib.hid fun e w' h => by
      have hg : ∀ h : W1.grownBy w' (some (w.heap.size + 1)), Below w.heap.size w w' := fun h => hb1.trans ⟨h.os, h.tape, h.output, h.size, fun k hk => h.block k (by omega) (fun e => by have := Option.some.inj e; omega)⟩
      unfold DecPostK
      rw [HO.out]
      cases hrk : RK s.data.toList with
      | some vs =>
        rw [hrk] at h
        obtain ⟨a, c, rfl, h2, h3⟩ := h
        exact ⟨_, _, rfl, ⟨a, c, rfl, h2⟩, hg h3⟩
      | none =>
        rw [hrk] at h
        obtain ⟨rfl, h3⟩ := h
        exact ⟨_, _, rfl, rfl, hg h3⟩
    have HW1 := Lib.hid hW1
    clear hW1 hz1 hb1 hrd hbox hb2 H1 HO
    go_enter Tryz.func13, Tryz.ntmps13
    go_wp2_with fail
    refine (qnewReader_any s w).mono ?_
    rintro e w1 ⟨rfl, rfl⟩
    go_wp2_with fail
    rw [HW1.out]
    refine HT.out.mono ?_
    rintro e w2 hw2
    obtain ⟨v, n, rfl, hp⟩ := HP.out e w2 hw2
    have HPP := Lib.hid hp
    clear hp hw2
    go_wp2_with fail
    go_ret2
    exact HPP.out
end Go.Proofs.YtcedeipmboekaaaGreatDoor
