/-
  disk: Copy.
-/
import Derived.Test.YtlnemefegkjjiaaDoorDApart
import Derived.Test.YtlnemefegkjjiaaDoorDWorks
namespace Go.Proofs.YtlnemefegkjjiaaDoor
open Go.RowKit

theorem eq_slT (a : Addr) (n c : Nat) (W : World) : (binOp .eql 49 (.slice (some a) n c) (.slice none 0 0)).run Tryd.prog W = .ok (.bool false) W := by kernel_rfl
theorem eq_slTN (W : World) : (binOp .eql 49 (.slice none 0 0) (.slice none 0 0)).run Tryd.prog W = .ok (.bool true) W := by kernel_rfl
set_option maxRecDepth 100000 in
set_option maxHeartbeats 2000000 in
theorem clonT_any (N : Nat) (v : Value) (B : List (Th × Nat × Nat)) (w : World) (h : w.ownsRow N 68 6 v B.length (B.flatMap fun x => thC x.1 x.2.1 x.2.2)) (hB : B.length ≤ 1000) :
    Calls Tryd.prog 36 #[v] w fun e w' => ∃ v', e = .returned v' ∧ w'.ownsRow w.heap.size 68 6 v' B.length (B.flatMap fun x => thC x.1 x.2.1 x.2.2) ∧ Below w.heap.size w w' := by
  rcases h.2 with ⟨rfl, h0⟩ | ⟨g, cap, cur, rfl, hg, h1, h2, h3, h4, h5⟩
  · have hq := eq_slTN
    have hnil : B = [] := List.length_eq_zero_iff.1 h0
    subst hnil
    clear h
    go_enter Tryd.func36, Tryd.ntmps36
    go_wp2_with fail
    go_ret
    exact ⟨_, rfl, World.ownsRow_nil _ _ _ _, Below.refl _ _⟩
  · have hq := eq_slT
    obtain ⟨i0, hi0, hz0, hz1, hz2⟩ := info_parts infoT
    obtain ⟨w1, hw1⟩ : ∃ w1, w.alloc (.cells #[] 68) = w1 := ⟨_, rfl⟩
    have hb1 : Below w.heap.size w w1 := by rw [← hw1]; exact (Below.refl _ w).alloc (Nat.le_refl _) _
    have hn1 : w1.heap[w.heap.size]? = some (.cells #[] 68 (0, 0)) := by rw [← hw1]; exact heap_alloc_at w _
    have hown : w1.ownsRow w.heap.size 68 6 (.slice (some ⟨w.heap.size, 0, none⟩) 0 0) 0 [] := ⟨rfl, .inr ⟨w.heap.size, 0, #[], rfl, Nat.le_refl _, hn1, Nat.le_refl _, Nat.zero_le _, rfl, rfl⟩⟩
    have hcells : ∀ j u, (B.flatMap fun x => thC x.1 x.2.1 x.2.2)[j]? = some u → w1.cell? ((⟨g, 0, none⟩ : Addr).add j) = some u := by
      intro j u hj
      have hc := h.cells rfl j u hj
      rw [hb1.cell (World.block_lt_of_cell? w _ hc)]
      exact hc
    have hone : ∀ u ∈ (B.flatMap fun x => thC x.1 x.2.1 x.2.2), u.oneCell' = true := by
      intro u hu
      obtain ⟨x, _, hx⟩ := List.mem_flatMap.1 hu
      exact thC_one _ _ _ u hx
    obtain ⟨v', w2, hr, hrow, hgr, _⟩ := run_append_own_at (P := Tryd.prog) w1 w.heap.size 49 49 68 i0 _ 6 56 Tryd.underlying49 hi0 hz0 hz1 hz2 rfl (by decide) (.slice (some ⟨w.heap.size, 0, none⟩) 0 0) 0 [] hown ⟨g, 0, none⟩ B.length cap (B.flatMap fun x => thC x.1 x.2.1 x.2.2) (flat_len B) hcells hone (by unfold maxLen; omega) (by omega) hb1.size
    have H : Hid (w2.ownsRow w.heap.size 68 6 v' B.length (B.flatMap fun x => thC x.1 x.2.1 x.2.2) ∧ Below w.heap.size w w2) := Lib.hid ⟨by
      rw [Nat.zero_add, List.nil_append] at hrow
      exact hrow, hb1.grown hgr hb1.size (fun k hk => by
        simp [Value.ownBlock] at hk
        omega)⟩
    clear h hg h1 h2 h3 h4 h5 hown hcells hone hrow hgr hb1 hn1 hB
    generalize (B.flatMap fun x => thC x.1 x.2.1 x.2.2) = xs at *
    generalize B.length = n at *
    go_enter Tryd.func36, Tryd.ntmps36
    go_wp2_with (first | (at_builtin; refine wpList_app rfl _ _ _ _ rfl _ _ rfl rfl _ w2 hr ?_))
    go_ret
    exact ⟨_, rfl, H.out⟩
theorem ownsRow_base {w : World} {N M e size n : Nat} {v : Value} {xs : List Value} (h : w.ownsRow M e size v n xs) (hb : N ≤ M) : w.ownsRow N e size v n xs := by
  refine ⟨h.1, ?_⟩
  rcases h.2 with h0 | ⟨g, cap, cur, e0, h1, h2⟩
  · exact .inl h0
  · exact .inr ⟨g, cap, cur, e0, Nat.le_trans hb h1, h2⟩
/-- what of the old disk lies in a world that came of it -/
structure Old (w W : World) (N p mf ms : Nat) (V U : Nat → Value) (lv : Value) (B : List (Th × Nat × Nat)) (D : Dk) : Prop where
  below : Below w.heap.size w W
  ff : Fs W mf V D.F
  gg : Fs W ms U D.G
  row : W.ownsRow N 68 6 lv B.length (B.flatMap fun x => thC x.1 x.2.1 x.2.2)
theorem DkW.old {N : Nat} {w W : World} {Φ : Nat → Prop} {p mf ms : Nat} {V U : Nat → Value} {lv : Value} {B : List (Th × Nat × Nat)} {D : Dk} (h : DkW N w Φ p mf ms V U lv B D) (hb : Below w.heap.size w W) : Old w W N p mf ms V U lv B D := by
  have h2 := h.keep hb.size (fun k hk => hb.block k (h.lt k hk).2)
  exact ⟨hb, h2.ff, h2.gg, h2.row⟩
/-- the new disk, put together -/
theorem DkW.copied {N : Nat} {w wa w1 wb w2 wc w3 wd : World} {Φ : Nat → Prop} {p mf ms : Nat} {V U V1 U1 : Nat → Value} {lv lv1 : Value} {B : List (Th × Nat × Nat)} {D : Dk} (h : DkW N w Φ p mf ms V U lv B D) (hN : N ≤ w.heap.size)
    (hba : Below w.heap.size w wa) (f1 : Fs w1 wa.heap.size V1 D.F) (o1 : ∀ f g, (V1 f).ownBlock = some g → wa.heap.size < g) (hb1 : Below wa.heap.size wa w1)
    (hbb : Below w1.heap.size w1 wb) (f2 : Fs w2 wb.heap.size U1 D.G) (o2 : ∀ f g, (U1 f).ownBlock = some g → wb.heap.size < g) (hb2 : Below wb.heap.size wb w2)
    (hbc : Below w2.heap.size w2 wc) (r3 : w3.ownsRow wc.heap.size 68 6 lv1 B.length (B.flatMap fun x => thC x.1 x.2.1 x.2.2)) (hb3 : Below wc.heap.size wc w3) (hbd : Below w3.heap.size w3 wd) :
    ∃ Φ', DkAt N (wd.alloc (.cells #[.map (some wa.heap.size), .map (some wb.heap.size), lv1, .int .i64 D.room] 51)) Φ' wd.heap.size D ∧ TurnD w (wd.alloc (.cells #[.map (some wa.heap.size), .map (some wb.heap.size), lv1, .int .i64 D.room] 51)) Φ Φ' := by
  obtain ⟨we, hwe⟩ : ∃ we, wd.alloc (.cells #[.map (some wa.heap.size), .map (some wb.heap.size), lv1, .int .i64 D.room] 51) = we := ⟨_, rfl⟩
  have hp : we.heap[wd.heap.size]? = some (.cells #[.map (some wa.heap.size), .map (some wb.heap.size), lv1, .int .i64 D.room] 51 (0, 0)) := by rw [← hwe]; exact heap_alloc_at wd _
  have hbe : Below wd.heap.size wd we := by rw [← hwe]; exact (Below.refl _ wd).alloc (Nat.le_refl _) _
  have hze : we.heap.size = wd.heap.size + 1 := by rw [← hwe]; simp
  rw [hwe]
  have s0 := hba.size
  have s1 := hb1.size
  have s2 := hbb.size
  have s3 := hb2.size
  have s4 := hbc.size
  have s5 := hb3.size
  have s6 := hbd.size
  have k1 : Below w1.heap.size w1 we := hbb.trans ((hb2.mono (by omega)).trans ((hbc.mono (by omega)).trans ((hb3.mono (by omega)).trans ((hbd.mono (by omega)).trans (hbe.mono (by omega))))))
  have k2 : Below w2.heap.size w2 we := hbc.trans ((hb3.mono (by omega)).trans ((hbd.mono (by omega)).trans (hbe.mono (by omega))))
  have k3 : Below w3.heap.size w3 we := hbd.trans (hbe.mono (by omega))
  have k0 : Below w.heap.size w we := hba.trans ((hb1.mono (by omega)).trans (k1.mono (by omega)))
  have m1 := f1.map.lt
  have m2 := f2.map.lt
  have v1 : ∀ f g, (V1 f).ownBlock = some g → g < w1.heap.size := fun f g hg => (f1.row f).lt g hg
  have u1 : ∀ f g, (U1 f).ownBlock = some g → g < w2.heap.size := fun f g hg => (f2.row f).lt g hg
  refine ⟨grewΦ w we Φ, ⟨wa.heap.size, wb.heap.size, V1, U1, lv1, B, ⟨hp, f1.keep (k1.block _ m1) (fun f g hg => k1.block _ (v1 f g hg)), f2.keep (k2.block _ m2) (fun f g hg => k2.block _ (u1 f g hg)), by omega, fun f f' g _ ha hb => ?_, fun f g ha hb => ?_, ownsRow_base (ownsRow_same r3 (fun g hg => k3.block _ (r3.lt g hg).2)) (by omega), fun x hx => (h.bx x hx).same (k0.block _ (h.lt _ (h.fb x hx).1).2) (k0.block _ (h.lt _ (h.fb x hx).2).2), h.lb, .inr ⟨by omega, by omega⟩, .inr ⟨by omega, by omega⟩, .inr ⟨by omega, by omega⟩, fun f g hg => .inr ?_, fun f g hg => .inr ?_, fun g hg => .inr ?_, fun x hx => ⟨.inl (h.fb x hx).1, .inl (h.fb x hx).2⟩, fun k hk => ?_⟩⟩, ⟨k0.os, k0.tape, k0.output, k0.size, fun k hk _ => k0.block k hk, fun k hk => ?_⟩⟩
  · have := v1 f g ha
    have := o2 f' g hb
    omega
  · have := v1 f g ha
    have := o2 f g hb
    omega
  · have := v1 f g hg
    have := o1 f g hg
    exact ⟨by omega, by omega⟩
  · have := u1 f g hg
    have := o2 f g hg
    exact ⟨by omega, by omega⟩
  · have := r3.lt g hg
    exact ⟨by omega, by omega⟩
  · rcases hk with hk | hk
    · exact ⟨(h.lt k hk).1, by have := (h.lt k hk).2; omega⟩
    · exact ⟨by omega, hk.2⟩
  · rcases hk with hk | hk
    · exact .inl hk
    · exact .inr hk.1
set_option maxRecDepth 100000 in
set_option maxHeartbeats 4000000 in
theorem Copy_any {N : Nat} {w : World} {Φ : Nat → Prop} {p : Nat} {D : Dk} (h : DkAt N w Φ p D) (hs : N ≤ w.heap.size) (hi : D.Inv) (hfew : D.L.length ≤ 1000) :
    Calls Tryd.prog 21 #[.pointer (some ⟨p, 0, none⟩)] w fun e w' => ∃ p', e = .returned (.pointer (some ⟨p', 0, none⟩)) ∧ ∃ Φ', DkAt N w' Φ' p' D ∧ TurnD w w' Φ Φ' := by
  obtain ⟨mf, ms, V, U, lv, B, h⟩ := h
  have hpl := (h.lt p h.fp).2
  have hB : B.length ≤ 1000 := by
    have := congrArg List.length h.lb
    rw [List.length_map] at this
    omega
  have c0 : w.cell? ⟨p, 0, none⟩ = some (.map (some mf)) := by simp [World.cell?, h.p0]
  have c1 : w.cell? ⟨p, 1, none⟩ = some (.map (some ms)) := by simp [World.cell?, h.p0]
  have c2 : w.cell? ⟨p, 2, none⟩ = some lv := by simp [World.cell?, h.p0]
  have c3 : w.cell? ⟨p, 3, none⟩ = some (.int .i64 D.room) := by simp [World.cell?, h.p0]
  have HI := Lib.hid (isNone_ok p mf w h.isDisk)
  have HS : Hid (∀ W, Below w.heap.size w W → W.cell? ⟨p, 0, none⟩ = some (.map (some mf)) ∧ W.cell? ⟨p, 1, none⟩ = some (.map (some ms)) ∧ W.cell? ⟨p, 2, none⟩ = some lv ∧ W.cell? ⟨p, 3, none⟩ = some (.int .i64 D.room)) := Lib.hid fun W hb => ⟨(hb.cell hpl).trans c0, (hb.cell hpl).trans c1, (hb.cell hpl).trans c2, (hb.cell hpl).trans c3⟩
  have HF : ∀ f, (D.F f).length ≤ 100000000 := fun f => by
    by_cases hf : f < 64
    · exact hi.len f hf
    · have : V f = nilS := Classical.byContradiction fun hne => by
        obtain ⟨es, c, _, he⟩ := h.ff.map
        exact hf (he.range hne)
      rw [(h.ff.row f).nil_iff.1 this]
      exact Nat.zero_le _
  have HG : ∀ f, (D.G f).length ≤ 100000000 := fun f => by
    by_cases hf : f < 64
    · have h1 := len_le_sum D.G f hf
      have h2 := hi.sums 0
      have h3 := hi.room
      rw [List.take_zero] at h2
      have h2' : sumF D.G ≤ D.room := h2
      omega
    · have : U f = nilS := Classical.byContradiction fun hne => by
        obtain ⟨es, c, _, he⟩ := h.gg.map
        exact hf (he.range hne)
      rw [(h.gg.row f).nil_iff.1 this]
      exact Nat.zero_le _
  have H1 : Hid (∀ W, Below w.heap.size w W → Calls Tryd.prog 35 #[.map (some mf)] W fun e w' => ∃ V', e = .returned (.map (some W.heap.size)) ∧ Fs w' W.heap.size V' D.F ∧ (∀ f g, (V' f).ownBlock = some g → W.heap.size < g) ∧ Below W.heap.size W w') := Lib.hid fun W hb => apart_any mf V D.F W (h.old hb).ff HF
  have H2 : Hid (∀ W, Below w.heap.size w W → Calls Tryd.prog 35 #[.map (some ms)] W fun e w' => ∃ V', e = .returned (.map (some W.heap.size)) ∧ Fs w' W.heap.size V' D.G ∧ (∀ f g, (V' f).ownBlock = some g → W.heap.size < g) ∧ Below W.heap.size W w') := Lib.hid fun W hb => apart_any ms U D.G W (h.old hb).gg HG
  have H3 : Hid (∀ W, Below w.heap.size w W → Calls Tryd.prog 36 #[lv] W fun e w' => ∃ v', e = .returned v' ∧ w'.ownsRow W.heap.size 68 6 v' B.length (B.flatMap fun x => thC x.1 x.2.1 x.2.2) ∧ Below W.heap.size W w') := Lib.hid fun W hb => clonT_any N lv B W (h.old hb).row hB
  have HC := Lib.hid (fun (wa w1 wb w2 wc w3 wd : World) (V1 U1 : Nat → Value) (lv1 : Value) => h.copied (wa := wa) (w1 := w1) (wb := wb) (w2 := w2) (wc := wc) (w3 := w3) (wd := wd) (V1 := V1) (U1 := U1) (lv1 := lv1) hs)
  clear h hs hi hfew HF HG hB
  have hcc0 := HS.out w.drew (Below.refl _ w).drew
  clear c0 c1 c2 c3
  go_enter Tryd.func21, Tryd.ntmps21
  go_wp2_with (first | (go_at_call 26; refine HI.out.mono ?_; rintro e w0 ⟨rfl, rfl⟩))
  go_region_held3 (fun W => W.cell? ⟨p, 0, none⟩ = some (.map (some mf)) ∧ W.cell? ⟨p, 1, none⟩ = some (.map (some ms)) ∧ W.cell? ⟨p, 2, none⟩ = some lv ∧ W.cell? ⟨p, 3, none⟩ = some (.int .i64 D.room)) (first | assumption | exact hcc0 | exact hcc1 | exact hcc2 | exact hcc3 | exact HS.out _ (HB3.out.alloc HB3.out.size _))
    (first
      | (go_at_call 35; refine (H2.out w1 HB1.out).mono ?_; rintro e w2 ⟨U1, rfl, f2, o2, hb2⟩; have HB2 := Lib.hid (HB1.out.trans (hb2.mono HB1.out.size)); have hcc2 := HS.out w2 HB2.out; have K2 := Lib.hid (And.intro f2 (And.intro o2 hb2)); clear f2 o2 hb2)
      | (go_at_call 35; refine (H1.out w.drew ((Below.refl _ w).drew)).mono ?_; rintro e w1 ⟨V1, rfl, f1, o1, hb1⟩; have HB1 := Lib.hid (((Below.refl _ w).drew).trans hb1); have hcc1 := HS.out w1 HB1.out; have K1 := Lib.hid (And.intro f1 (And.intro o1 hb1)); clear f1 o1 hb1)
      | (go_at_call 36; refine (H3.out w2 HB2.out).mono ?_; rintro e w3 ⟨lv1, rfl, r3, hb3⟩; obtain ⟨oa1, cap1, hl1, -⟩ := things_row r3; subst hl1; have HB3 := Lib.hid (HB2.out.trans (hb3.mono HB2.out.size)); have hcc3 := HS.out w3 HB3.out; have K3 := Lib.hid (And.intro r3 hb3); clear r3 hb3))
  go_wp2_with fail
  go_ret
  exact ⟨_, rfl, HC.out w.drew w1 w1 w2 w2 w3 w3 V1 U1 _ ((Below.refl _ w).drew) K1.out.1 K1.out.2.1 K1.out.2.2 (Below.refl _ w1) K2.out.1 K2.out.2.1 K2.out.2.2 (Below.refl _ w2) K3.out.1 K3.out.2 (Below.refl _ w3)⟩
end Go.Proofs.YtlnemefegkjjiaaDoor
