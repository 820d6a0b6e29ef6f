/-
  key: layBytes, walked.
-/
import Derived.Test.YtcedeipmboekaaaGreatDoorKLayB
import Derived.Shelf.Abstract
namespace Go.Proofs.YtcedeipmboekaaaGreatDoor
open Go.RowKit Go.Shelf
attribute [local go_sem] Oper.semAt_some

set_option maxRecDepth 100000 in
set_option maxHeartbeats 4000000 in
theorem qlayBytes_any (k i u : Int) (s : ByteArray) (w : World) (hs : s.size ≤ 300) :
    Calls Tryz.prog 49 #[.agg #[.int .i64 k, .int .i64 i, .int .u64 u, .string s]] w (LayPost w (grpB s.data.toList)) := by
  have hmf : ∀ (fn : Fn) (first cap : Array Value) (w : World), (Instr.makeFunc fn first cap).run Tryz.prog w = .ok (.func fn first cap) w := fun _ _ _ _ => rfl
  obtain ⟨l, hl⟩ : ∃ l, s.data.toList = l := ⟨_, rfl⟩
  have hsz : s.size = l.length := by rw [← hl, Array.length_toList]; rfl
  refine (callsIn_wide (n := 5)).1 ?_
  refine callsIn_of_wp_marks Tryz.func49 rfl trivial ?_ rfl
  simp only [Tryz.ntmps49, List.size_toArray, List.length_cons, List.length_nil, Nat.reduceAdd, Nat.reduceSub, Array.replicate_succ, Array.replicate_zero, List.push_toArray, List.append_toArray, List.nil_append, List.cons_append]
  refine wpIn_wide.2 ?_
  obtain ⟨W0, hW0⟩ : ∃ W0, ((w.alloc (.cells #[.int .i64 k, .int .i64 i, .int .u64 u, .string s] 42)).alloc (.cells #[.slice none 0 0] 55)).alloc (.cells #[.int .u8 0, .int .u8 0, .int .u8 0, .int .u8 0, .int .u8 0, .int .u8 0, .int .u8 0, .int .u8 0, .int .u8 0] 111) = W0 := ⟨_, rfl⟩
  have hz0 : W0.heap.size = w.heap.size + 3 := by rw [← hW0]; simp
  obtain ⟨cap, W1, hcv, hcap, hcells, hb1, hz1⟩ := conv_bytes 9 Tryz.underlying9 s W0
  rw [hz0, hsz] at hcv
  rw [hl, hz0] at hcells
  rw [← hW0] at hcv
  have HW0 := Lib.hid hW0
  have HC := Lib.hid hcells
  have HB1 := Lib.hid hb1
  have HZ0 := Lib.hid hz0
  have HZ1 := Lib.hid hz1
  have HL := Lib.hid hl
  have HSZ := Lib.hid hsz
  clear hW0 hcells hb1 hz0 hz1 hl hsz
  go_wp2_with fail
  refine (qChunk_any _ _ _ _ rfl _).mono ?_
  rintro e W2 ⟨rfl, hW2⟩
  have hz2 : W2.heap.size = w.heap.size + 6 := by rw [← hW2]; simp [HZ1.out, HZ0.out]
  have hb2 : Below W1.heap.size W1 W2 := by rw [← hW2]; exact ((Below.refl _ _).alloc (Nat.le_refl _) _).alloc (by simp) _
  have hpb : W2.cell? ⟨W1.heap.size, 0, none⟩ = some (.slice (some ⟨w.heap.size + 3, 0, none⟩) l.length cap) := by rw [← hW2]; simp [go_sem]
  have hpn : W2.cell? ⟨W1.heap.size + 1, 0, none⟩ = some (.int .i64 8) := by rw [← hW2]; simp [go_sem]
  have hz1 : W1.heap.size = w.heap.size + 4 := by rw [HZ1.out, HZ0.out]
  have hb02 : Below W0.heap.size W0 W2 := HB1.out.trans (hb2.mono (by rw [HZ1.out]; omega))
  have hw0 : Below w.heap.size w W0 := by rw [← HW0.out]; exact (((Below.refl _ _).alloc (Nat.le_refl _) _).alloc (by simp) _).alloc (by simp; omega) _
  have hI0 : LBI w (w.heap.size + 1) (w.heap.size + 1 + 1) (w.heap.size + 3) (W2.heap.size + 2) l 0 W2 := by
    refine ⟨⟨.slice none 0 0, ?_, World.ownsRow_nil _ _ _ _⟩, ?_, ⟨0, 0, 0, 0, 0, 0, 0, 0, 0, rfl, Row9.keep (w := W0) (N := W0.heap.size) (Row9.of (t := 111) ?_) hb02 (by rw [HZ0.out]; omega)⟩, fun j hj => ?_, hw0.trans (hb02.mono (by rw [HZ0.out]; omega))⟩
    · rw [hb02.cell (by rw [HZ0.out]; show w.heap.size + 1 < _; omega), ← HW0.out]
      simp [go_sem]
    · rw [hb02.frozen (by rw [HZ0.out]; show w.heap.size + 1 < _; omega), ← HW0.out]
      simp [go_sem]
    · rw [← HW0.out]
      have := heap_alloc_at ((w.alloc (.cells #[.int .i64 k, .int .i64 i, .int .u64 u, .string s] 42)).alloc (.cells #[.slice none 0 0] 55)) (.cells #[.int .u8 0, .int .u8 0, .int .u8 0, .int .u8 0, .int .u8 0, .int .u8 0, .int .u8 0, .int .u8 0, .int .u8 0] 111)
      rw [World.size_alloc, World.size_alloc] at this
      exact this
    · rw [hb2.cell (by rw [hz1]; show w.heap.size + 3 < _; omega)]
      exact HC.out j hj
  have hl300 : l.length ≤ 300 := by rw [← HSZ.out]; exact hs
  have hcap2 : l.length ≤ cap := by rw [← HSZ.out]; exact hcap
  have HI0 := Lib.hid hI0
  have HPB := Lib.hid hpb
  have HPN := Lib.hid hpn
  have hs1 : w.heap.size + 6 ≤ W2.heap.size := by omega
  have hs1' : W2.heap.size ≤ w.heap.size + 6 := by omega
  have hs2 : w.heap.size + 4 ≤ W1.heap.size := by omega
  have hs2' : W1.heap.size ≤ w.heap.size + 4 := by omega
  have HZ2 := Lib.hid hz2
  obtain ⟨L, hL⟩ : ∃ L, l.length = L := ⟨_, rfl⟩
  have HLL := Lib.hid hL
  rw [hL] at hl300 hcap2 HPB ⊢
  clear hI0 hpb hpn hz1 hb02 hw0 hb2 hz2 hW2 HB1 HC HW0 HZ0 HZ1 hcv hcap hs hL
  go_wp2_with fail
  refine (wpIn_wide (n := 5)).1 ?_
  refine wpIn_turnsX (F := Fence.wide) (G := fun k => k = W1.heap.size ∨ k = W1.heap.size + 1) (m := 0) rfl (by decide) (gf := 95) (fb := #[]) (lb := #[.pointer (some ⟨W1.heap.size, 0, none⟩), .pointer (some ⟨W1.heap.size + 1, 0, none⟩)]) rfl trivial (enters_of Tryz.func95 (by kernel_rfl) rfl)
    (chunk1_turns 4 (by decide) W1.heap.size (W1.heap.size + 1) ⟨w.heap.size + 3, 0, none⟩ L cap W2 HPB.out HPN.out (by omega) hcap2) (fun k hk => by omega) (fun x => rfl)
    (fun pre W => pre = List.range pre.length ∧ W2.heap.size ≤ W.heap.size ∧ LBI w (w.heap.size + 1) (w.heap.size + 1 + 1) (w.heap.size + 3) (W2.heap.size + 2) l pre.length W)
    (fun _ _ _ => False)
    ⟨fun pre A A' h hb => ⟨h.1, Nat.le_trans h.2.1 hb.size, h.2.2.ext (N := W2.heap.size) (by omega) (by omega) (by omega) (by omega) h.2.1 hb⟩, fun pre A lp r o hlo h hr => ⟨h.1, by simpa using h.2.1, h.2.2.put (N := W2.heap.size) (by omega) (by omega) (by omega) (by omega) hlo hr o⟩⟩
    (fun c => ⟨fun _ _ _ h _ => h.elim, fun _ _ _ _ _ _ h _ => h.elim⟩)
    (fun _ _ _ _ _ _ _ _ => trivial)
    ⟨rfl, Nat.le_refl _, HI0.out⟩
    (fun x => { tmps := #[.agg #[.int .i64 k, .int .i64 i, .int .u64 u, .string s], .pointer (some ⟨w.heap.size, 0, none⟩), .slice none 0 0, .pointer (some ⟨w.heap.size + 1, 0, none⟩), .pointer (some ⟨w.heap.size + 1 + 1, 0, none⟩), .slice (some ⟨w.heap.size + 3, 8 * x, none⟩) (min 8 (L - 8 * x)) (min 8 (L - 8 * x)), .pointer (some ⟨w.heap.size, 3, none⟩), .string s, .slice (some ⟨w.heap.size + 3, 0, none⟩) L cap, .func (.func 95) #[] #[.pointer (some ⟨W1.heap.size, 0, none⟩), .pointer (some ⟨W1.heap.size + 1, 0, none⟩)], .slice (some ⟨w.heap.size + 3, 8 * x, none⟩) (min 8 (L - 8 * x)) (min 8 (L - 8 * x)), undef, undef, undef, undef, undef, undef, undef, undef, undef, undef, undef, undef, undef, undef, undef], defers := [] })
    ?assign ?body ?done ?stop
  case assign =>
    intro lp x W K hK
    simp only [encC]
    gi_wp2
    exact hK
  case stop => exact fun c pre W _ h => h.elim
  case done =>
    rintro xs W rfl ⟨_, hsW, hI⟩ hdf
    simp only [List.length_range] at hI
    obtain ⟨⟨v, h1, h2⟩, h3, ⟨a, b, c, d, e, f, g, h, j, h4, h5⟩, h6, h7⟩ := hI
    have hgrp : accG l ((L + 7) / 8) ++ [a, b, c, d, e, f, g, h, j] = grpB l := by rw [← h4, ← HLL.out]; exact grp_chunks _ l (Nat.le_refl _)
    have hlen := accG_len l ((L + 7) / 8) (by rw [HLL.out]; omega)
    obtain ⟨va, vc, rfl⟩ := own_slice h2
    obtain ⟨vn, hvn⟩ : ∃ vn, (accG l ((L + 7) / 8)).length = vn := ⟨_, rfl⟩
    obtain ⟨v', w', hrun, hown', hg'⟩ := append_run (w := W.drew) (base := w.heap.size) (World.ownsRow.mono h2 (by omega)).drew (row9_bytes h5.drew) (by simp) (by have := HLL.out; simp; omega) (by show _ ≤ W.heap.size; omega) 55
    rw [hgrp] at hown'
    obtain ⟨a7, c7, rfl⟩ := own_slice hown'
    have hblk : ∀ r, (Value.slice va (accG l ((L + 7) / 8)).length vc).ownBlock = some r → W2.heap.size + 2 ≤ r := fun r hr => (h2.lt r hr).1
    have hD : w'.heap[W2.heap.size]? = some (.deferred (some [])) := (hg'.block _ (by exact (Array.getElem?_eq_some_iff.1 hdf).1) (fun e => by have := hblk _ e.symm; omega)).trans hdf
    have hgB : Below w.heap.size W.drew w' := ⟨hg'.os, hg'.tape, hg'.output, hg'.size, fun k hk => hg'.block k (by show k < W.heap.size; omega) (fun e => by have := hblk _ e.symm; omega)⟩
    have HPOST := Lib.hid (And.intro (bytes_put (BytesOf.own hown') hD (.deferred none)) ((h7.drew.trans hgB).trans (show Below w.heap.size w' (w'.putObj W2.heap.size (.deferred none)) from ⟨rfl, rfl, rfl, by simp, fun k hk => World.putObj_heap_other (by omega)⟩)))
    rw [hvn] at h1 hrun
    obtain ⟨gn, hgn⟩ : ∃ gn, (grpB l).length = gn := ⟨_, rfl⟩
    rw [hgn] at hrun HPOST
    have HRUN := Lib.hid hrun
    have HD := Lib.hid hD
    clear hrun hown' hg' hblk hgB hlen hgrp h2 h3 h4 h5 h6 h7 hvn hgn hdf hD
    go_wp2_with fail
    refine (wpIn_wide (n := 5)).1 ?_
    refine wpIn_region_any (by kernel_rfl) ?_
    change wpAnyIn _ _ _ _ _ _ _ _ _ (World.drew _)
    refine wpAnyInK_two 0 1 (by kernel_rfl) ?_ ?_
    · unfold wpOpIn
      go_simp
      refine wpAnyInK_one 1 (by kernel_rfl) ?_
      unfold wpOpIn
      go_simp
      refine wpAnyInK_one 2 (by kernel_rfl) ?_
      refine wpOpInK_append (fun _ => trivial) rfl rfl (s := .tmp 23) (x := .tmp 24) (t := 55) rfl rfl rfl HRUN.out ?_
      refine wpAnyInK_one 3 (by kernel_rfl) ?_
      unfold wpOpIn
      go_simp
      refine ⟨by kernel_rfl, ?_⟩
      go_wp2_with fail
      refine ⟨by simp, .inl ⟨_, _, rfl, run_takeDeferred HD.out, ?_⟩⟩
      refine ⟨.slice a7 gn c7, by simp [results, Tryz.results49, go_sem], ?_⟩
      rw [HL.out]
      exact ⟨_, rfl, HPOST.out.1, HPOST.out.2⟩
    · unfold wpOpIn
      go_simp
      refine wpAnyInK_one 0 (by kernel_rfl) ?_
      unfold wpOpIn
      go_simp
      refine wpAnyInK_one 2 (by kernel_rfl) ?_
      refine wpOpInK_append (fun _ => trivial) rfl rfl (s := .tmp 23) (x := .tmp 24) (t := 55) rfl rfl rfl HRUN.out ?_
      refine wpAnyInK_one 3 (by kernel_rfl) ?_
      unfold wpOpIn
      go_simp
      refine ⟨by kernel_rfl, ?_⟩
      go_wp2_with fail
      refine ⟨by simp, .inl ⟨_, _, rfl, run_takeDeferred HD.out, ?_⟩⟩
      refine ⟨.slice a7 gn c7, by simp [results, Tryz.results49, go_sem], ?_⟩
      rw [HL.out]
      exact ⟨_, rfl, HPOST.out.1, HPOST.out.2⟩
  case body =>
    rintro lp pre x W ⟨hpre, hsW, hI⟩ ⟨k', hk', hk16⟩ _ hsz2
    obtain ⟨rfl, rfl⟩ := snoc_rangeK hk'
    simp only [List.length_range] at hI
    have hx : 8 * x < L := by omega
    obtain ⟨m, hm⟩ : ∃ m, m = min 8 (L - 8 * x) := ⟨_, rfl⟩
    have hm1 : 1 ≤ m := by omega
    have hm8 : m ≤ 8 := by omega
    have hpl : (pc l x).length = m := by rw [pc_length, HLL.out, hm]
    obtain ⟨ga, gb, gc, gd, ge, gf, gg, gh, gj, hg⟩ := list9 (grpL (pc l x) (UInt8.ofNat m)) (grpL_length _ (by omega))
    have hlast : lastK l (x + 1) = [ga, gb, gc, gd, ge, gf, gg, gh, gj] := by unfold lastK; rw [if_neg (by omega), Nat.add_sub_cancel, hpl, hg]
    have HG : Hid (∀ W' : World, (∀ j (h : j < l.length), W'.cell? ⟨w.heap.size + 3, j, none⟩ = some (.int .u8 (l[j].toNat : Int))) → Calls Tryz.prog 65 #[.slice (some ⟨w.heap.size + 3, 8 * x, none⟩) m m, .int .u8 (m : Int)] W' fun e w' => e = .returned (.agg #[.int .u8 ga.toNat, .int .u8 gb.toNat, .int .u8 gc.toNat, .int .u8 gd.toNat, .int .u8 ge.toNat, .int .u8 gf.toNat, .int .u8 gg.toNat, .int .u8 gh.toNat, .int .u8 gj.toNat]) ∧ Below W'.heap.size W' w') := Lib.hid fun W' h => by
      have hb := src_piece HLL.out h x
      rw [← hm, Addr.add_lit, Nat.zero_add] at hb
      have := qgroupOf_any _ (pc l x) (UInt8.ofNat m) W' hb (by omega)
      rw [show (((UInt8.ofNat m).toNat : Nat) : Int) = (m : Int) by rw [UInt8.toNat_ofNat']; omega, hg] at this
      exact this
    have HLA := Lib.hid hlast
    rw [← hm]
    clear hlast hpl hg hm hk' hk16 hpre HI0 HPB HPN
    obtain ⟨⟨v, h1, h2⟩, h3, ⟨a, b, c, d, e, f, g, h, j, h4, h5⟩, h6, h7⟩ := hI
    rcases Nat.eq_zero_or_pos x with rfl | hx0
    · obtain ⟨rfl, rfl, rfl, rfl, rfl, rfl, rfl, rfl, rfl⟩ : a = 0 ∧ b = 0 ∧ c = 0 ∧ d = 0 ∧ e = 0 ∧ f = 0 ∧ g = 0 ∧ h = 0 ∧ j = 0 := by
        have : [a, b, c, d, e, f, g, h, j] = List.replicate 9 (0 : UInt8) := h4.symm
        simpa [List.replicate] using this
      have hc8 : W.cell? ⟨w.heap.size + 1 + 1, 8, none⟩ = some (.int .u8 0) := h5.c8
      have HR := Lib.hid h5
      have H1 := Lib.hid (And.intro h1 h2)
      have H3 := Lib.hid h3
      have H6 := Lib.hid h6
      have H7 := Lib.hid h7
      clear h1 h2 h3 h4 h5 h6 h7
      gi_wp2
      refine ⟨trivial, (CallsIn.inRound lp (callsIn_wide.2 (HG.out _ H6.out))).mono ?_⟩
      rintro e W3 ⟨rfl, hb3⟩
      have HR3 := HR.out.keep hb3 (by omega)
      obtain ⟨e0, e1, e2, e3, e4, e5, e6, e7, e8, er⟩ := HR3
      have HB3 := Lib.hid hb3
      clear hb3
      gi_wp2
      have hI3 : LBI w (w.heap.size + 1) (w.heap.size + 1 + 1) (w.heap.size + 3) (W2.heap.size + 2) l (0 + 1) (set9 W3 (w.heap.size + 1 + 1) ga gb gc gd ge gf gg gh gj) := by
        refine LBI.set (.inr ?_) (by omega) (by omega) (by omega) (by omega) HLA.out
        obtain ⟨g1, g2⟩ := H1.out
        have hlt := World.block_lt_of_cell? _ _ g1
        exact ⟨⟨v, by rw [HB3.out.cell (by exact hlt)]; exact g1, g2.kept (row := none) ⟨HB3.out.os, HB3.out.tape, HB3.out.output, HB3.out.size, fun k hk _ => HB3.out.block k hk⟩ (by cases (v).ownBlock <;> simp)⟩, by rw [HB3.out.frozen (by exact hlt)]; exact H3.out, ⟨_, _, _, _, _, _, _, _, _, ⟨e0, e1, e2, e3, e4, e5, e6, e7, e8, er⟩⟩, fun j hj => by rw [HB3.out.cell (by show w.heap.size + 3 < _; omega)]; exact H6.out j hj, H7.out.trans (HB3.out.mono (by omega))⟩
      refine ⟨set9_keep (keepM_below HB3.out) (by omega) (by omega), ?_, ?_, ?_⟩
      · simp only [List.length_append, List.length_range, List.length_cons, List.length_nil, Nat.zero_add]
        exact List.range_succ.symm
      · have := HB3.out.size
        exact Nat.le_trans (m := W3.heap.size) (by omega) (Nat.le_of_eq (set9_size W3 (w.heap.size + 1 + 1) ga gb gc gd ge gf gg gh gj).symm)
      · simp only [List.length_append, List.length_range, List.length_cons, List.length_nil, Nat.zero_add]
        exact hI3
    · obtain ⟨y, rfl⟩ : ∃ y, x = y + 1 := ⟨x - 1, by omega⟩
      have hpy : (pc l y).length = 8 := by have := HLL.out; rw [pc_length]; omega
      obtain ⟨p0, p1, p2, p3, p4, p5, p6, p7, hp⟩ := list8 (pc l y) hpy
      obtain ⟨rfl, rfl, rfl, rfl, rfl, rfl, rfl, rfl, rfl⟩ : a = p0 ∧ b = p1 ∧ c = p2 ∧ d = p3 ∧ e = p4 ∧ f = p5 ∧ g = p6 ∧ h = p7 ∧ j = 8 := by
        have : [a, b, c, d, e, f, g, h, j] = grpL (pc l y) (UInt8.ofNat (pc l y).length) := h4.symm
        rw [hpy, hp] at this
        simpa [grpL, padG] using this
      have hc8 : W.cell? ⟨w.heap.size + 1 + 1, 8, none⟩ = some (.int .u8 8) := h5.c8
      obtain ⟨Wd, hWd⟩ : ∃ Wd, (W.setCell ⟨w.heap.size + 1 + 1, 8, none⟩ (.int .u8 9)).drew = Wd := ⟨_, rfl⟩
      have qd : ∀ q : Addr, w.heap.size + 1 + 1 ≠ q.block → Wd.cell? q = W.cell? q := fun q hq => by rw [← hWd]; exact World.cell?_setCell_far _ _ _ _ hq
      have hrow : Row9 Wd (w.heap.size + 1 + 1) a b c d e f g h 9 := by
        rw [← hWd]
        obtain ⟨c0, c1, c2, c3, c4, c5, c6, c7, c8, fr⟩ := h5
        exact ⟨by simp [go_sem, c0], by simp [go_sem, c1], by simp [go_sem, c2], by simp [go_sem, c3], by simp [go_sem, c4], by simp [go_sem, c5], by simp [go_sem, c6], by simp [go_sem, c7], by simp [go_sem, c8], fun o => by simp [go_sem, fr]⟩
      have hbd : Below W2.heap.size W Wd ∨ True := .inr trivial
      have hsd : Wd.heap.size = W.heap.size := by rw [← hWd]; simp
      have hown : Wd.ownsRow (W2.heap.size + 2) 5 1 v (accG l (y + 1)).length (u8s (accG l (y + 1))) := by
        rw [← hWd]
        exact (ownsRow_setCell_below h2 (by show w.heap.size + 1 + 1 < _; omega) _).drew
      have hbdw : Below w.heap.size w Wd := by
        rw [← hWd]
        exact (h7.setCell (by show w.heap.size ≤ w.heap.size + 1 + 1; omega) _).drew
      have hlen := accG_len l (y + 1) (by have := HLL.out; omega)
      obtain ⟨v', w', hrun, hown', hg'⟩ := append_run hown (row9_bytes hrow) (by simp) (by have := HLL.out; simp; omega) (by omega) 55
      obtain ⟨a7, c7, rfl⟩ := own_slice hown'
      obtain ⟨n7, hn7⟩ : ∃ n7, (accG l (y + 1) ++ [a, b, c, d, e, f, g, h, 9]).length = n7 := ⟨_, rfl⟩
      rw [hn7] at hrun
      have hblk : ∀ r, v.ownBlock = some r → W2.heap.size + 2 ≤ r := fun r hr => (hown.lt r hr).1
      have hfar : ∀ q : Addr, q.block < W2.heap.size + 2 → w'.cell? q = Wd.cell? q := fun q hq => hg'.cell_far q (by omega) (by
        intro e
        have := hblk _ e.symm
        omega)
      have hfarf : ∀ q : Addr, q.block < W2.heap.size + 2 → w'.frozen? q = Wd.frozen? q := fun q hq => hg'.frozen_far q (by omega) (by
        intro e
        have := hblk _ e.symm
        omega)
      have hc1 : w'.cell? ⟨w.heap.size + 1, 0, none⟩ = some v := (hfar ⟨w.heap.size + 1, 0, none⟩ (by show w.heap.size + 1 < _; omega)).trans ((qd ⟨w.heap.size + 1, 0, none⟩ (by show w.heap.size + 1 + 1 ≠ w.heap.size + 1; omega)).trans h1)
      have hf1 : w'.frozen? ⟨w.heap.size + 1, 0, none⟩ = false := (hfarf ⟨w.heap.size + 1, 0, none⟩ (by show w.heap.size + 1 < _; omega)).trans (by rw [← hWd]; simpa [go_sem] using h3)
      have hfr8 := h5.fr
      have HR : Hid (Row9 (w'.setCell ⟨w.heap.size + 1, 0, none⟩ (.slice a7 n7 c7)) (w.heap.size + 1 + 1) a b c d e f g h 9) := Lib.hid (by
        have q : ∀ o, (w'.setCell ⟨w.heap.size + 1, 0, none⟩ (.slice a7 n7 c7)).cell? ⟨w.heap.size + 1 + 1, o, none⟩ = Wd.cell? ⟨w.heap.size + 1 + 1, o, none⟩ := fun o => (World.cell?_setCell_far _ _ _ _ (by show w.heap.size + 1 ≠ w.heap.size + 1 + 1; omega)).trans (hfar _ (by show w.heap.size + 1 + 1 < _; omega))
        exact ⟨(q 0).trans hrow.c0, (q 1).trans hrow.c1, (q 2).trans hrow.c2, (q 3).trans hrow.c3, (q 4).trans hrow.c4, (q 5).trans hrow.c5, (q 6).trans hrow.c6, (q 7).trans hrow.c7, (q 8).trans hrow.c8, fun o => by rw [World.frozen?_setCell, hfarf _ (by show w.heap.size + 1 + 1 < _; omega)]; exact hrow.fr o⟩)
      have H1 : Hid ((w'.setCell ⟨w.heap.size + 1, 0, none⟩ (.slice a7 n7 c7)).cell? ⟨w.heap.size + 1, 0, none⟩ = some (.slice a7 n7 c7) ∧ (w'.setCell ⟨w.heap.size + 1, 0, none⟩ (.slice a7 n7 c7)).ownsRow (W2.heap.size + 2) 5 1 (.slice a7 n7 c7) (accG l (y + 1 + 1)).length (u8s (accG l (y + 1 + 1)))) := Lib.hid (by
        refine ⟨by simp [go_sem, hc1], ?_⟩
        rw [accG_next, hp]
        refine ownsRow_setCell_below ?_ (by show w.heap.size + 1 < _; omega) _
        rw [← hn7]
        exact hown')
      have H3 : Hid ((w'.setCell ⟨w.heap.size + 1, 0, none⟩ (.slice a7 n7 c7)).frozen? ⟨w.heap.size + 1, 0, none⟩ = false) := Lib.hid (by rw [World.frozen?_setCell]; exact hf1)
      have H6 : Hid (∀ j (h : j < l.length), (w'.setCell ⟨w.heap.size + 1, 0, none⟩ (.slice a7 n7 c7)).cell? ⟨w.heap.size + 3, j, none⟩ = some (.int .u8 (l[j].toNat : Int))) := Lib.hid fun j hj => by
        rw [World.cell?_setCell_far _ _ _ _ (by show w.heap.size + 1 ≠ w.heap.size + 3; omega), hfar _ (by show w.heap.size + 3 < _; omega), qd _ (by show w.heap.size + 1 + 1 ≠ w.heap.size + 3; omega)]
        exact h6 j hj
      have hgB : Below w.heap.size Wd w' := ⟨hg'.os, hg'.tape, hg'.output, hg'.size, fun k hk => hg'.block k (by omega) (fun e => by have := hblk _ e.symm; omega)⟩
      have H7 : Hid (Below w.heap.size w (w'.setCell ⟨w.heap.size + 1, 0, none⟩ (.slice a7 n7 c7))) := Lib.hid ((hbdw.trans hgB).setCell (by show w.heap.size ≤ w.heap.size + 1; omega) _)
      have HK7 : Hid (KeepM W2.heap.size (0 + 2) (fun k => k = W1.heap.size ∨ k = W1.heap.size + 1) W (w'.setCell ⟨w.heap.size + 1, 0, none⟩ (.slice a7 n7 c7))) := Lib.hid (by
        refine KeepM.setCell ?_ (by show ¬ (W2.heap.size ≤ w.heap.size + 1 ∧ w.heap.size + 1 < _); omega) (by show ¬ (w.heap.size + 1 = _ ∨ w.heap.size + 1 = _); omega) _
        refine KeepM.trans (Y := Wd) ?_ (keepM_grown hg' (fun r hr => by have := hblk _ hr; omega))
        rw [← hWd]
        exact ((KeepM.refl _ _ _ W).setCell (p := ⟨w.heap.size + 1 + 1, 8, none⟩) (by show ¬ (W2.heap.size ≤ w.heap.size + 1 + 1 ∧ w.heap.size + 1 + 1 < _); omega) (by show ¬ (w.heap.size + 1 + 1 = _ ∨ w.heap.size + 1 + 1 = _); omega) _).trans ⟨Nat.le_refl _, fun _ _ _ => rfl⟩)
      have hs7 := hg'.size
      have HRUN := Lib.hid hrun
      have hvs : v = v := rfl
      clear hrun hown hown' hg' hfar hfarf hbdw hgB hn7 hp hpy h2 h3 h5 h6 h7 hrow hlen hbd hvs
      have hsx1 : w'.heap.size ≤ (w'.setCell ⟨w.heap.size + 1, 0, none⟩ (.slice a7 n7 c7)).heap.size := by simp
      have hsx2 : (w'.setCell ⟨w.heap.size + 1, 0, none⟩ (.slice a7 n7 c7)).heap.size ≤ w'.heap.size := by simp
      have hcd : Wd.cell? ⟨w.heap.size + 1, 0, none⟩ = some v := (qd ⟨w.heap.size + 1, 0, none⟩ (by show w.heap.size + 1 + 1 ≠ w.heap.size + 1; omega)).trans h1
      clear qd h1
      gi_wp2
      refine wpIn_region_any (by kernel_rfl) ?_
      change wpAnyIn _ _ _ _ _ _ _ _ _ (World.drew _)
      rw [hWd]
      clear hWd
      refine wpAnyInK_two 0 1 (by kernel_rfl) ?_ ?_
      · unfold wpOpIn
        go_simp
        refine wpAnyInK_one 1 (by kernel_rfl) ?_
        unfold wpOpIn
        go_simp
        refine wpAnyInK_one 2 (by kernel_rfl) ?_
        refine wpOpInK_append (fun _ => trivial) rfl rfl (s := .tmp 15) (x := .tmp 16) (t := 55) rfl rfl rfl HRUN.out ?_
        refine wpAnyInK_one 3 (by kernel_rfl) ?_
        unfold wpOpIn
        go_simp
        refine ⟨by kernel_rfl, ?_⟩
        gi_wp2
        refine ⟨trivial, (CallsIn.inRound lp (callsIn_wide.2 (HG.out _ H6.out))).mono ?_⟩
        rintro e W3 ⟨rfl, hb3⟩
        have HR3 := HR.out.keep hb3 (by omega)
        obtain ⟨e0, e1, e2, e3, e4, e5, e6, e7, e8, er⟩ := HR3
        have HB3 := Lib.hid hb3
        clear hb3
        gi_wp2
        have hI3 : LBI w (w.heap.size + 1) (w.heap.size + 1 + 1) (w.heap.size + 3) (W2.heap.size + 2) l (y + 1 + 1) (set9 W3 (w.heap.size + 1 + 1) ga gb gc gd ge gf gg gh gj) := by
          refine LBI.set (.inr ?_) (by omega) (by omega) (by omega) (by omega) HLA.out
          obtain ⟨g1, g2⟩ := H1.out
          have hlt := World.block_lt_of_cell? _ _ g1
          exact ⟨⟨.slice a7 n7 c7, by rw [HB3.out.cell (by exact hlt)]; exact g1, g2.kept (row := none) ⟨HB3.out.os, HB3.out.tape, HB3.out.output, HB3.out.size, fun k hk _ => HB3.out.block k hk⟩ (by cases (Value.slice a7 n7 c7).ownBlock <;> simp)⟩, by rw [HB3.out.frozen (by exact hlt)]; exact H3.out, ⟨_, _, _, _, _, _, _, _, _, ⟨e0, e1, e2, e3, e4, e5, e6, e7, e8, er⟩⟩, fun j hj => by rw [HB3.out.cell (by show w.heap.size + 3 < _; omega)]; exact H6.out j hj, H7.out.trans (HB3.out.mono (by omega))⟩
        refine ⟨set9_keep (HK7.out.trans (keepM_below HB3.out)) (by omega) (by omega), ?_, ?_, ?_⟩
        · simp only [List.length_append, List.length_range, List.length_cons, List.length_nil, Nat.zero_add]
          exact List.range_succ.symm
        · have := HB3.out.size
          exact Nat.le_trans (m := W3.heap.size) (by omega) (Nat.le_of_eq (set9_size W3 (w.heap.size + 1 + 1) ga gb gc gd ge gf gg gh gj).symm)
        · simp only [List.length_append, List.length_range, List.length_cons, List.length_nil, Nat.zero_add]
          exact hI3
      · unfold wpOpIn
        go_simp
        refine wpAnyInK_one 0 (by kernel_rfl) ?_
        unfold wpOpIn
        go_simp
        refine wpAnyInK_one 2 (by kernel_rfl) ?_
        refine wpOpInK_append (fun _ => trivial) rfl rfl (s := .tmp 15) (x := .tmp 16) (t := 55) rfl rfl rfl HRUN.out ?_
        refine wpAnyInK_one 3 (by kernel_rfl) ?_
        unfold wpOpIn
        go_simp
        refine ⟨by kernel_rfl, ?_⟩
        gi_wp2
        refine ⟨trivial, (CallsIn.inRound lp (callsIn_wide.2 (HG.out _ H6.out))).mono ?_⟩
        rintro e W3 ⟨rfl, hb3⟩
        have HR3 := HR.out.keep hb3 (by omega)
        obtain ⟨e0, e1, e2, e3, e4, e5, e6, e7, e8, er⟩ := HR3
        have HB3 := Lib.hid hb3
        clear hb3
        gi_wp2
        have hI3 : LBI w (w.heap.size + 1) (w.heap.size + 1 + 1) (w.heap.size + 3) (W2.heap.size + 2) l (y + 1 + 1) (set9 W3 (w.heap.size + 1 + 1) ga gb gc gd ge gf gg gh gj) := by
          refine LBI.set (.inr ?_) (by omega) (by omega) (by omega) (by omega) HLA.out
          obtain ⟨g1, g2⟩ := H1.out
          have hlt := World.block_lt_of_cell? _ _ g1
          exact ⟨⟨.slice a7 n7 c7, by rw [HB3.out.cell (by exact hlt)]; exact g1, g2.kept (row := none) ⟨HB3.out.os, HB3.out.tape, HB3.out.output, HB3.out.size, fun k hk _ => HB3.out.block k hk⟩ (by cases (Value.slice a7 n7 c7).ownBlock <;> simp)⟩, by rw [HB3.out.frozen (by exact hlt)]; exact H3.out, ⟨_, _, _, _, _, _, _, _, _, ⟨e0, e1, e2, e3, e4, e5, e6, e7, e8, er⟩⟩, fun j hj => by rw [HB3.out.cell (by show w.heap.size + 3 < _; omega)]; exact H6.out j hj, H7.out.trans (HB3.out.mono (by omega))⟩
        refine ⟨set9_keep (HK7.out.trans (keepM_below HB3.out)) (by omega) (by omega), ?_, ?_, ?_⟩
        · simp only [List.length_append, List.length_range, List.length_cons, List.length_nil, Nat.zero_add]
          exact List.range_succ.symm
        · have := HB3.out.size
          exact Nat.le_trans (m := W3.heap.size) (by omega) (Nat.le_of_eq (set9_size W3 (w.heap.size + 1 + 1) ga gb gc gd ge gf gg gh gj).symm)
        · simp only [List.length_append, List.length_range, List.length_cons, List.length_nil, Nat.zero_add]
          exact hI3
end Go.Proofs.YtcedeipmboekaaaGreatDoor
