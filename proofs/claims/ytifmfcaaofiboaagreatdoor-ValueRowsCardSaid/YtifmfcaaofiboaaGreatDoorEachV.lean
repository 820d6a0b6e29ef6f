/-
  value.Each: the iterator's contract.
-/
import Derived.Test.YtifmfcaaofiboaaGreatDoorPie
import Derived.Test.YtifmfcaaofiboaaGreatDoorPieV
import Derived.LoopN
namespace Go.Proofs.YtifmfcaaofiboaaGreatDoor
open Go.RowKit Go.Shelf
attribute [local go_sem] Oper.semAt_some

theorem scope_wideV {n : Nat} {P : Program} {c : Code} {Q : Exit → Act → World → Prop} {a : Act} {w : World} (h : c.wpIn Fence.wide n P (Exit.noGoto Q) a w) : (Code.scope c).wpIn Fence.wide n P Q a w :=
  wpIn_wide.2 (wp_scope_straight (wpIn_wide.1 h))
theorem round_anyV {P : Program} {n m l' l f : Nat} {tmps : Array Value} {assign body : Code} {w : World} {R : Ending → World → Prop} (h : RoundIn Fence.wide n P l f tmps assign body w R) : RoundIn (Fence.wide.inRound l') m P l f tmps assign body w R :=
  ⟨trivial, fun c cs _ => h.2 c cs (room_wide _)⟩
theorem heap_alloc_new (w : World) (o : Obj) : (w.alloc o).heap[w.heap.size]? = some o := World.alloc_heap_new w o
theorem pieces_any (s : ByteArray) (w : World) : Calls Tryz.prog 62 #[.string s] w fun e w' => e = .returned (.func (.func 91) #[] #[.pointer (some ⟨w.heap.size, 0, none⟩)]) ∧ w'.cell? ⟨w.heap.size, 0, none⟩ = some (.string s) ∧ Below w.heap.size w w' := by
  have hmf : ∀ (fn : Fn) (first cap : Array Value) (w : World), (Instr.makeFunc fn first cap).run Tryz.prog w = .ok (.func fn first cap) w := fun _ _ _ _ => rfl
  go_enter Tryz.func62, Tryz.ntmps62
  go_wp2_with fail
  go_ret
  exact ⟨rfl, by simp [go_sem], (Below.refl _ w).alloc (Nat.le_refl _) _⟩
theorem Each_anyV (s : ByteArray) (w : World) : Calls Tryz.prog 45 #[.string s] w fun e w' => e = .returned (.func (.func 61) #[] #[.pointer (some ⟨w.heap.size, 0, none⟩)]) ∧ w'.cell? ⟨w.heap.size, 0, none⟩ = some (.string s) ∧ Below w.heap.size w w' := by
  have hmf : ∀ (fn : Fn) (first cap : Array Value) (w : World), (Instr.makeFunc fn first cap).run Tryz.prog w = .ok (.func fn first cap) w := fun _ _ _ _ => rfl
  go_enter Tryz.func45, Tryz.ntmps45
  go_wp2_with fail
  go_ret
  exact ⟨rfl, by simp [go_sem], (Below.refl _ w).alloc (Nat.le_refl _) _⟩
def encV (x : Nat × Vl) : Array Value := #[.int .i64 x.1, x.2.val]
set_option maxRecDepth 100000 in
set_option maxHeartbeats 4000000 in
theorem eachV_turns (n : Nat) (hn : 4 ≤ n) (c0 : Nat) (s : List UInt8) (hs : s.length ≤ 100000) (hpl : ∀ x ∈ pieW 0 s, x.2.length ≤ 800) (mx : Int) (w : World) (h0 : w.cell? ⟨c0, 0, none⟩ = some (.string ⟨s.toArray⟩)) (h2 : w.cell? ⟨2, 0, none⟩ = some (.int .i64 mx))
    (G : Nat → Prop) (hGl : ∀ k, G k → k < w.heap.size) (hG2 : G 2) :
    SeqTurns Fence.wide n Tryz.prog 61 #[.pointer (some ⟨c0, 0, none⟩)] encV G (fun xs => xs = partsW (pieW 0 s)) (fun xs => xs <+: partsW (pieW 0 s)) w := fun ll J Jx W hW hJ hJx hY hJ0 => by
  have HY := Lib.hid hY
  have HJ0 := Lib.hid hJ0
  have k0 : W.cell? ⟨c0, 0, none⟩ = some (.string ⟨s.toArray⟩) := (hW.cell (World.block_lt_of_cell? w _ h0)).trans h0
  have k2 : W.cell? ⟨2, 0, none⟩ = some (.int .i64 mx) := (hW.cell (World.block_lt_of_cell? w _ h2)).trans h2
  have HGW : Hid (∀ k, G k → k < W.heap.size) := Lib.hid fun k hk => Nat.lt_of_lt_of_le (hGl k hk) hW.size
  have HK2 := Lib.hid k2
  have HPL := Lib.hid hpl
  have HG2 := Lib.hid hG2
  clear hY hJ0 h0 h2 hW k2 hpl hG2
  refine callsIn_of_wp_marks Tryz.func61 rfl trivial ?_ rfl
  simp only [Tryz.ntmps61, List.size_toArray, List.length_cons, List.length_nil, Nat.reduceAdd, Nat.reduceSub, Array.replicate_succ, Array.replicate_zero, List.push_toArray, List.append_toArray, List.nil_append, List.cons_append]
  have hc0 := World.block_lt_of_cell? W _ k0
  simp only at hc0
  gi_wp2_with fail
  refine scope_wideV ?_
  refine wpIn_wide.2 ?_
  go_wp2_with fail
  refine wp_label ?_
  go_wp2_with fail
  obtain ⟨W1, hW1⟩ : ∃ W1, W.alloc (.cells #[.func (.yield ll) #[] #[]] 109) = W1 := ⟨_, rfl⟩
  have hb1 : Below W.heap.size W W1 := by rw [← hW1]; exact (Below.refl _ W).alloc (Nat.le_refl _) _
  have hy1 : W1.cell? ⟨W.heap.size, 0, none⟩ = some (.func (.yield ll) #[] #[]) := by rw [← hW1]; simp [go_sem]
  have hz1 : W1.heap.size = W.heap.size + 1 := by rw [← hW1]; simp
  have HY1 := Lib.hid hy1
  have HB1 := Lib.hid hb1
  rw [hW1]
  clear hW1 hy1 hb1
  refine (pieces_any _ W1).mono ?_
  rintro e w4 ⟨rfl, hb0, hb4⟩
  rw [hz1] at hb0
  have hz4 : W.heap.size + 2 ≤ w4.heap.size := by
    have := World.block_lt_of_cell? w4 _ hb0
    simp at this
    omega
  have hb14 : Below W.heap.size W w4 := HB1.out.trans (hb4.mono (by omega))
  have hy4 : w4.cell? ⟨W.heap.size, 0, none⟩ = some (.func (.yield ll) #[] #[]) := (hb4.cell (by show W.heap.size < W1.heap.size; omega)).trans HY1.out
  have hc2 := World.block_lt_of_cell? W _ HK2.out
  simp only at hc2
  have hm4 : w4.cell? ⟨2, 0, none⟩ = some (.int .i64 mx) := (hb14.cell (by show 2 < W.heap.size; omega)).trans HK2.out
  have HT := Lib.hid (pie_turns (n - 1) (by omega) (W.heap.size + 1) s hs mx w4 hb0 hm4 (fun k => k < w4.heap.size ∧ (W.heap.size ≤ k ∨ G k)) (fun k hk => hk.1) ⟨by omega, .inr HG2.out⟩)
  have HJ4 := Lib.hid (hJ _ _ _ HJ0.out hb14)
  have HY4 := Lib.hid hy4
  clear hb0 hb4 hb14 hy4 hm4 HJ0 HB1 HY1 HK2
  go_wp2_with fail
  refine (wpIn_wide (n := n)).1 ?_
  refine wpIn_turns (F := Fence.wide) (G := fun k => k < w4.heap.size ∧ (W.heap.size ≤ k ∨ G k)) rfl (by omega) (gf := 91) (lb := #[.pointer (some ⟨W.heap.size + 1, 0, none⟩)]) rfl trivial (enters_of Tryz.func91 (by kernel_rfl) rfl)
    HT.out (fun k hk => hk.1) (fun x => rfl)
    (fun pre V => AllV pre ∧ J (partsW pre) V ∧ V.heap[W.heap.size]? = w4.heap[W.heap.size]? ∧ w4.heap.size ≤ V.heap.size)
    (fun c pre V => c = .exit 0 ∧ ((∃ xs, xs = partsW (pieW 0 s) ∧ J xs V) ∨ (∃ p, p <+: partsW (pieW 0 s) ∧ Jx p V)))
    (fun a A A' h hb => ⟨h.1, hJ _ _ _ h.2.1 (hb.mono (by omega)), (hb.block _ (by omega)).trans h.2.2.1, Nat.le_trans h.2.2.2 hb.size⟩)
    (fun c a A A' h hb => ⟨h.1, h.2.imp (fun ⟨xs, e, hj⟩ => ⟨xs, e, hJ _ _ _ hj (hb.mono (by omega))⟩) (fun ⟨p, e, hj⟩ => ⟨p, e, hJx _ _ _ hj (hb.mono (by omega))⟩)⟩)
    ⟨fun x hx => by (cases hx), HJ4.out, rfl, Nat.le_refl _⟩
    (fun x => { tmps := #[.func (.yield ll) #[] #[], .pointer (some ⟨c0, 0, none⟩), .pointer (some ⟨W.heap.size, 0, none⟩), .int .i64 x.1, .string ⟨x.2.toArray⟩, undef, undef, .string ⟨s.toArray⟩, .func (.func 91) #[] #[.pointer (some ⟨W.heap.size + 1, 0, none⟩)], .int .i64 x.1, .string ⟨x.2.toArray⟩, undef, undef, undef, undef, undef, undef, undef, undef, undef, undef, undef, undef, undef, undef], defers := [] }) ?assign ?body ?done ?stop
  case assign =>
    intro lp x V K hK
    simp only [encP]
    gi_wp2
    exact hK
  case body =>
    rintro lp pre x V ⟨hall, hj, hyb, hz⟩ hsp hszV
    obtain ⟨i, b⟩ := x
    have hbl : b.length ≤ 800 := HPL.out (i, b) (hsp.subset (by simp))
    have yV : V.cell? ⟨W.heap.size, 0, none⟩ = some (.func (.yield ll) #[] #[]) := (World.cell?_of_block (a := ⟨W.heap.size, 0, none⟩) hyb).trans HY4.out
    have hbs : (⟨b.toArray⟩ : ByteArray).size = b.length := by simp [ByteArray.size]
    have HP := Lib.hid (parse_any ⟨b.toArray⟩ V (by omega))
    have HBD : Hid (∀ (V2 : World) (jump : Prop), Below V.heap.size V V2 → Keep w4.heap.size (fun k => k < w4.heap.size ∧ (W.heap.size ≤ k ∨ G k)) V V2) := Lib.hid fun V2 _ hb => ⟨hb.size, fun k hk _ => hb.block k hk⟩
    have HSP := Lib.hid hsp
    have HALL := Lib.hid hall
    have HJV := Lib.hid hj
    have HYB := Lib.hid hyb
    clear hsp hall hj hyb
    have hKP : ∀ V2 V3 : World, Keep W.heap.size G V2 V3 → Keep w4.heap.size (fun k => k < w4.heap.size ∧ (W.heap.size ≤ k ∨ G k)) V2 V3 := fun V2 V3 h => ⟨h.size, fun k hk hh => h.same k hk (by rcases hh with hh | hh; exact .inl (by omega); exact hh.2)⟩
    have HKP := Lib.hid hKP
    clear hKP
    have hzW : W.heap.size < V.heap.size := by omega
    gi_wp2
    refine ⟨trivial, fun _ => by omega, (CallsIn.inRound lp (callsIn_wide.2 HP.out)).mono ?_⟩
    intro e w5 hpp
    cases hv : valO b with
    | none =>
      obtain ⟨nn, bb, rfl, _, hb5⟩ := valO_none hv hpp
      have hz5 := hb5.size
      have HQ : Hid (Keep w4.heap.size (fun k => k < w4.heap.size ∧ (W.heap.size ≤ k ∨ G k)) V (w5.alloc (.cells #[.int .i64 0, .int .i64 0, .int .u64 0, .string ⟨#[]⟩] 25)) ∧ ∃ xs, xs = partsW (pieW 0 s) ∧ J xs (w5.alloc (.cells #[.int .i64 0, .int .i64 0, .int .u64 0, .string ⟨#[]⟩] 25))) := Lib.hid (by
        have hb6 := hb5.alloc hz5 (.cells #[.int .i64 0, .int .i64 0, .int .u64 0, .string ⟨#[]⟩] 25)
        exact ⟨HBD.out _ True hb6, _, parts_stop HALL.out hv HSP.out, hJ _ _ _ HJV.out (hb6.mono (by omega))⟩)
      clear hpp hb5 hv
      simp only [zeroV]
      gi_wp2
      exact ⟨HQ.out.1, rfl, .inl HQ.out.2⟩
    | some v =>
      obtain ⟨rfl, hb5⟩ := valO_some hv hpp
      have hz5 := hb5.size
      obtain ⟨vk, vi, vu, vs⟩ := v
      have hb6 := hb5.alloc hz5 (.cells #[.int .i64 vk, .int .i64 vi, .int .u64 vu, .string vs] 25)
      have hHY := HY.out (partsW pre) (i, ⟨vk, vi, vu, vs⟩) _ (hJ _ _ _ HJV.out (hb6.mono (by omega))) (parts_pre HALL.out hv HSP.out) (by simp; omega)
      rw [← parts_snoc HALL.out hv] at hHY
      have HPP := Lib.hid (parts_pre HALL.out hv HSP.out)
      rw [← parts_snoc HALL.out hv] at HPP
      have HAL2 := Lib.hid (allV_snoc (x := (i, b)) HALL.out hv)
      have y5 : w5.cell? ⟨W.heap.size, 0, none⟩ = some (.func (.yield ll) #[] #[]) := (hb5.cell (by show W.heap.size < V.heap.size; omega)).trans yV
      have hlt5 : W.heap.size < w5.heap.size := by omega
      have HB6 := Lib.hid hb6
      obtain ⟨fn, tmps, assign, body, hy, hR⟩ := hHY
      have HR := Lib.hid hR
      unfold encV Vl.val at hy
      clear hpp hb5 hb6 hv hR
      simp only [Vl.val]
      gi_wp2
      refine ⟨fun _ => by omega, (round_anyV HR.out).mono ?_⟩
      rintro e w7 (⟨rfl, hJ7, hk7⟩ | ⟨rfl, hJ7, hk7⟩)
      · have HQ : Hid (Keep w4.heap.size (fun k => k < w4.heap.size ∧ (W.heap.size ≤ k ∨ G k)) V w7 ∧ AllV (pre ++ [(i, b)]) ∧ J (partsW (pre ++ [(i, b)])) w7 ∧ w7.heap[W.heap.size]? = w4.heap[W.heap.size]? ∧ w4.heap.size ≤ w7.heap.size) := Lib.hid (by
          have hk := (HBD.out _ True HB6.out).trans (HKP.out _ _ hk7)
          exact ⟨hk, HAL2.out, hJ7, (hk.same _ hzW (.inr ⟨by omega, .inl (Nat.le_refl _)⟩)).trans HYB.out, Nat.le_trans hz hk.size⟩)
        clear hJ7 hk7
        gi_wp2
        exact HQ.out
      · have HQ : Hid (Keep w4.heap.size (fun k => k < w4.heap.size ∧ (W.heap.size ≤ k ∨ G k)) V w7 ∧ ∃ p, p <+: partsW (pieW 0 s) ∧ Jx p w7) := Lib.hid ⟨(HBD.out _ True HB6.out).trans (HKP.out _ _ hk7), _, HPP.out, hJ7⟩
        clear hJ7 hk7
        gi_wp2
        exact ⟨HQ.out.1, rfl, .inr HQ.out.2⟩
  case done =>
    rintro xs V rfl ⟨hall, hj, hyb, hz⟩ hD
    have HD := Lib.hid hD
    have hvz := (Array.getElem?_eq_some_iff.1 hD).1
    have HJV := Lib.hid (hJ.put (.deferred none) hj (by omega : W.heap.size ≤ w4.heap.size) hvz)
    clear hD hj hyb hall
    refine ⟨by simp, .inl ⟨_, _, rfl, run_takeDeferred HD.out, _, results_none rfl _ _ _, ⟨_, rfl⟩, .inl ⟨_, rfl, HJV.out⟩⟩⟩
  case stop =>
    rintro c pre V hsp ⟨rfl, hjx⟩ hD
    have hvz := (Array.getElem?_eq_some_iff.1 hD).1
    have HJX : Hid ((∃ xs, xs = partsW (pieW 0 s) ∧ J xs (V.putObj w4.heap.size (.deferred none))) ∨ (∃ p, p <+: partsW (pieW 0 s) ∧ Jx p (V.putObj w4.heap.size (.deferred none)))) := Lib.hid (hjx.imp (fun ⟨xs, e, hj⟩ => ⟨xs, e, hJ.put _ hj (by omega) hvz⟩) (fun ⟨p, e, hj⟩ => ⟨p, e, hJx.put _ hj (by omega) hvz⟩))
    clear hjx
    gi_wp2_with fail
    simp only [Exit.noGoto]
    refine ⟨by simp, .inl ⟨_, _, rfl, run_takeDeferred hD, _, results_none rfl _ _ _, ⟨_, rfl⟩, HJX.out⟩⟩
end Go.Proofs.YtifmfcaaofiboaaGreatDoor
