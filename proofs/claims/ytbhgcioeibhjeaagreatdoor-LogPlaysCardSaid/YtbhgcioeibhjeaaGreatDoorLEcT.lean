/-
  parts that belong together.
-/
import Derived.Test.YtbhgcioeibhjeaaGreatDoorLEachP
import Derived.Test.YtbhgcioeibhjeaaGreatDoorLBdR
import Derived.Test.YtbhgcioeibhjeaaGreatDoorSqFs
import Derived.LoopN
namespace Go.Proofs.YtbhgcioeibhjeaaGreatDoor
open Go.RowKit Go.Shelf
attribute [local go_sem] Oper.semAt_some

/-- octets, new ones -/
def OctP (lf : List UInt8) (V : World) : Ending → World → Prop := fun x V' => ∃ v, x = .returned v ∧ BytesOf V' v lf ∧ Below V.heap.size V V' ∧ ∀ g, v.ownBlock = some g → V.heap.size ≤ g
/-- where the disk's and the log's blocks lie as they lie, its octets are told -/
theorem loctets_at {N : Nat} {W : World} {Φ : Nat → Prop} {q p : Nat} {D : Dk} {e t : Int} {f : Nat} (h : DkAt N W Φ p D) (hi : D.Inv) (hlog : LogC W q p f e t) (hf : f < 64) :
    Calls Tryz.prog 53 #[.pointer (some ⟨q, 0, none⟩)] W (OctP (D.F f) W) := by
  have HN := Lib.hid (lisNone_ok q p f e t W hlog)
  have hbd : Below W.heap.size W W.drew := (Below.refl _ W).drew
  have HR : Hid (Calls Tryz.prog 29 #[.pointer (some ⟨p, 0, none⟩), .int .i64 f] W.drew fun x w' => ∃ v, x = .returned (.tuple #[v, .int .i64 0]) ∧ (BytesOf w' v (D.F f) ∧ ∀ g, v.ownBlock = some g → W.heap.size ≤ g) ∧ (LogC w' q p f e t ∧ Below W.heap.size W w')) := Lib.hid (by
    refine (Read_new (h.below hbd) hi f hf).mono ?_
    rintro x w' ⟨v, x0, hb, hw, hg⟩
    exact ⟨v, x0, ⟨hb, hg⟩, (hw.block q (Array.getElem?_eq_some_iff.1 hlog).1).trans hlog, hbd.trans hw⟩)
  obtain ⟨c0, c1, c2, c3⟩ := hlog.cells
  clear h hlog
  generalize D.F f = lf at *
  go_enter Tryz.func53, Tryz.ntmps53
  go_wp2_with (first | (go_at_call 56; with_reducible refine HN.out.mono ?_; rintro x w1 ⟨rfl, rfl⟩))
  go_region_held3 (fun X => X.cell? ⟨q, 0, none⟩ = some (.pointer (some ⟨p, 0, none⟩)) ∧ X.cell? ⟨q, 1, none⟩ = some (.int .i64 f)) (first | exact ⟨c0, c1⟩ | assumption)
    (first | (go_at_call 29; with_reducible refine HR.out.mono ?_; rintro x w3 ⟨v, rfl, hb3, hl3, hw3⟩; obtain ⟨d0, d1, d2, d3⟩ := hl3.cells; have hS3 := And.intro d0 d1; have H3 := Lib.hid (And.intro hb3 hw3); clear hb3 hw3 hl3))
  go_wp2_with fail
  go_ret
  exact ⟨_, rfl, H3.out.1.1, H3.out.2, H3.out.1.2⟩
set_option maxRecDepth 100000 in
set_option maxHeartbeats 1000000 in
theorem Each_any (pq : Option Addr) (from_ : Int) (w : World) : Calls Tryz.prog 23 #[.pointer pq, .int .i64 from_] w fun e w' => e = .returned (.func (.func 52) #[] #[.pointer (some ⟨w.heap.size + 1, 0, none⟩), .pointer (some ⟨w.heap.size, 0, none⟩)]) ∧ w'.cell? ⟨w.heap.size + 1, 0, none⟩ = some (.int .i64 from_) ∧ w'.cell? ⟨w.heap.size, 0, none⟩ = some (.pointer pq) ∧ Below w.heap.size w w' := by
  have hmf : ∀ (fn : Fn) (first cap : Array Value) (w : World), (Instr.makeFunc fn first cap).run Tryz.prog w = .ok (.func fn first cap) w := fun _ _ _ _ => rfl
  go_enter Tryz.func23, Tryz.ntmps23
  go_wp2_with fail
  go_ret
  refine ⟨rfl, ?_, ?_, ((Below.refl _ w).alloc (Nat.le_refl _) _).alloc (by simp) _⟩
  · have h := heap_alloc_at (w.alloc (.cells #[.pointer pq] 29)) (.cells #[.int .i64 from_] 3)
    rw [World.size_alloc] at h
    simp only [World.cell?]
    first | (rw [h]; rfl) | simp [h]
  · have h := heap_alloc_at w (.cells #[.pointer pq] 29)
    rw [World.cell?_of_block (a := ⟨w.heap.size, 0, none⟩) (Below.heap_alloc _ _ _ (by simp))]
    simp only [World.cell?]
    rw [h]
    rfl
/-- what abides in Each's loop: the yield, the next position, the blocks of G -/
structure EIx (ll B i : Nat) (G : Nat → Prop) (W V : World) : Prop where
  y : V.cell? ⟨B, 0, none⟩ = some (.func (.yield ll) #[] #[])
  t : V.cell? ⟨B + 1, 0, none⟩ = some (.int .i64 i)
  f : V.frozen? ⟨B + 1, 0, none⟩ = false
  g : ∀ k, G k → V.heap[k]? = W.heap[k]?
  s : B + 2 ≤ V.heap.size
theorem EIx.below {ll B i N : Nat} {G : Nat → Prop} {W V V' : World} (h : EIx ll B i G W V) (hG : ∀ k, G k → k < B) (hN : B + 2 ≤ N) (hb : Below N V V') : EIx ll B i G W V' :=
  ⟨(hb.cell (by show B < N; omega)).trans h.y, (hb.cell (by show B + 1 < N; omega)).trans h.t, (hb.frozen (by show B + 1 < N; omega)).trans h.f, fun k hk => (hb.block k (by have := hG k hk; omega)).trans (h.g k hk), Nat.le_trans h.s hb.size⟩
theorem EIx.kept {ll B i : Nat} {G : Nat → Prop} {W V V' : World} (h : EIx ll B i G W V) (hk : Keep B G V V') (hG : ∀ k, G k → k < B) : EIx ll B i G W V' := by
  have hs := h.s
  exact ⟨(World.cell?_of_block (a := ⟨B, 0, none⟩) (hk.same B (by omega) (.inl (Nat.le_refl _)))).trans h.y, (World.cell?_of_block (a := ⟨B + 1, 0, none⟩) (hk.same (B + 1) (by omega) (.inl (by omega)))).trans h.t, (World.frozen?_of_block (a := ⟨B + 1, 0, none⟩) (hk.same (B + 1) (by omega) (.inl (by omega)))).trans h.f, fun k hg => (hk.same k (by have := hG k hg; omega) (.inr hg)).trans (h.g k hg), Nat.le_trans hs hk.size⟩
theorem EIx.next {ll B i : Nat} {G : Nat → Prop} {W V : World} (h : EIx ll B i G W V) (hG : ∀ k, G k → k < B) (j : Int) (k : Nat) (hj : j = k) : EIx ll B k G W (V.setCell ⟨B + 1, 0, none⟩ (.int .i64 j)) := by
  subst hj
  exact ⟨(World.cell?_setCell_other _ _ _ _ (by intro e; simp at e)).trans h.y, World.cell?_setCell_same' _ _ _ (by rw [h.t]; rfl), (World.frozen?_setCell _ _ _ _).trans h.f, fun k hk => (Below.heap_setCell _ _ _ _ (by have := hG k hk; simp; omega)).trans (h.g k hk), by have := h.s; simp [World.setCell]; exact this⟩
theorem EIx.start (W : World) (ll i : Nat) (G : Nat → Prop) (hG : ∀ k, G k → k < W.heap.size) (T1 T2 : TypeId) : EIx ll W.heap.size i G W ((W.alloc (.cells #[.func (.yield ll) #[] #[]] T1)).alloc (.cells #[.int .i64 i] T2)) := by
  have h0 : ((W.alloc (.cells #[.func (.yield ll) #[] #[]] T1)).alloc (.cells #[.int .i64 i] T2)).heap[W.heap.size]? = some (.cells #[.func (.yield ll) #[] #[]] T1 (0, 0)) :=
    (Below.heap_alloc _ _ _ (by simp)).trans (heap_alloc_at W _)
  have h1 : ((W.alloc (.cells #[.func (.yield ll) #[] #[]] T1)).alloc (.cells #[.int .i64 i] T2)).heap[W.heap.size + 1]? = some (.cells #[.int .i64 i] T2 (0, 0)) := by
    have h := heap_alloc_at (W.alloc (.cells #[.func (.yield ll) #[] #[]] T1)) (.cells #[.int .i64 i] T2)
    rw [World.size_alloc] at h
    exact h
  exact ⟨by simp only [World.cell?]; rw [h0]; rfl, by simp only [World.cell?]; rw [h1]; rfl, by simp only [World.frozen?]; rw [h1]; rfl, fun k hk => (Below.heap_alloc _ _ _ (by have := hG k hk; simp; omega)).trans (Below.heap_alloc _ _ _ (hG k hk)), by simp⟩
theorem round_anyL {P : Program} {n m l' l f : Nat} {tmps : Array Value} {assign body : Code} {w : World} {R : Ending → World → Prop} (h : RoundIn Fence.wide n P l f tmps assign body w R) : RoundIn (Fence.wide.inRound l') m P l f tmps assign body w R :=
  ⟨trivial, fun c cs _ => h.2 c cs (room_wide _)⟩
set_option maxRecDepth 100000 in
set_option maxHeartbeats 4000000 in
theorem eachL_turns (n : Nat) (hn : 4 ≤ n) (c0 c1 : Nat) (qv : Value) (lf : List UInt8) (i0 : Nat) (w : World) (h0 : w.cell? ⟨c0, 0, none⟩ = some (.int .i64 i0)) (h1 : w.cell? ⟨c1, 0, none⟩ = some (qv)) (hl : lf.length ≤ 100000000) (hi0 : i0 ≤ lf.length)
    (G : Nat → Prop) (hGl : ∀ k, G k → k < w.heap.size) (hG0 : G c0) (hG1 : G c1)
    (hO : ∀ V : World, w.heap.size ≤ V.heap.size → (∀ k, G k → V.heap[k]? = w.heap[k]?) → Calls Tryz.prog 53 #[qv] V (OctP lf V)) :
    SeqTurnsF Fence.wide n Tryz.prog 52 #[.pointer (some ⟨c0, 0, none⟩), .pointer (some ⟨c1, 0, none⟩)] encE G (fun xs => xs.map (·.2) = RL lf i0) (fun xs => xs.map (·.2) <+: RL lf i0) (fun x W => BtAt W x.1 x.2.2) w := fun ll J Jx W hW hJ hJx hY hJ0 => by
  have HY := Lib.hid hY
  have HJ0 := Lib.hid hJ0
  have k0 : W.cell? ⟨c0, 0, none⟩ = some (.int .i64 i0) := (hW.cell (World.block_lt_of_cell? w _ h0)).trans h0
  have k1 : W.cell? ⟨c1, 0, none⟩ = some (qv) := (hW.cell (World.block_lt_of_cell? w _ h1)).trans h1
  have HGW : Hid (∀ k, G k → k < W.heap.size) := Lib.hid fun k hk => Nat.lt_of_lt_of_le (hGl k hk) hW.size
  have HOW : Hid (∀ V : World, W.heap.size ≤ V.heap.size → (∀ k, G k → V.heap[k]? = W.heap[k]?) → Calls Tryz.prog 53 #[qv] V (OctP lf V)) := Lib.hid fun V hs hk => hO V (Nat.le_trans hW.size hs) (fun k hg => (hk k hg).trans (hW.block k (hGl k hg)))
  clear hY hJ0 hO h0 h1 hW
  refine callsIn_of_wp_marks Tryz.func52 rfl trivial ?_ rfl
  simp only [Tryz.ntmps52, List.size_toArray, List.length_cons, List.length_nil, Nat.reduceAdd, Nat.reduceSub, Array.replicate_succ, Array.replicate_zero, List.push_toArray, List.append_toArray, List.nil_append, List.cons_append]
  have hc0 := World.block_lt_of_cell? W _ k0
  have hc1 := World.block_lt_of_cell? W _ k1
  simp only at hc0 hc1
  gi_wp2_with fail
  refine scope_wideL ?_
  refine wpIn_wide.2 ?_
  go_wp2_with fail
  refine wp_label ?_
  go_wp2_with fail
  obtain ⟨W1, hW1⟩ : ∃ W1, (W.alloc (.cells #[.func (.yield ll) #[] #[]] 110)).alloc (.cells #[.int .i64 i0] 3) = W1 := ⟨_, rfl⟩
  have hei : EIx ll W.heap.size i0 G W W1 := by rw [← hW1]; exact EIx.start W ll i0 G HGW.out _ _
  have hb1 : Below W.heap.size W W1 := by rw [← hW1]; exact ((Below.refl _ W).alloc (Nat.le_refl _) _).alloc (by simp) _
  have HJ1 := Lib.hid (hJ _ _ _ HJ0.out hb1)
  have HEI1 := Lib.hid hei
  rw [hW1]
  clear hW1 hei hb1 HJ0
  refine (HOW.out W1 (by have := HEI1.out.s; omega) HEI1.out.g).mono ?_
  rintro e w2 ⟨v, rfl, hv, hb2, hown⟩
  obtain ⟨oa, cap, hvf⟩ := hv.form
  subst hvf
  have hei2 := HEI1.out.below HGW.out HEI1.out.s hb2
  have HEI2 := Lib.hid hei2
  have HJ2 := Lib.hid (hJ _ _ _ HJ1.out (hb2.mono (by have := HEI1.out.s; omega)))
  have HV2 := Lib.hid hv
  have HOWN : Hid (∀ a, oa = some a → W.heap.size + 2 ≤ a.block) := Lib.hid fun a ha => by
    subst ha
    have := hown a.block rfl
    have := HEI1.out.s
    omega
  have t2 := hei2.t
  clear hv hb2 hei2 HJ1 HEI1 hown
  go_wp2_with fail
  refine wp_loop_rounds 3 ?_
  rw [rounds_succ]
  have HB0 := Lib.hid (begins_any oa cap lf i0 w2 HV2.out hl)
  cases hf : findO lf i0 with
  | none =>
    have hR : RL lf i0 = [] := by unfold RL; rw [hf]; rfl
    have HR := Lib.hid hR
    rw [hf] at HB0
    clear hf hR
    go_wp2_with (first | (go_at_call 54; refine HB0.out.mono ?_; rintro e w3 ⟨rfl, hb3⟩; have HB3 := Lib.hid hb3; clear hb3))
    simp only [Exit.noGoto]
    exact ⟨_, results_none rfl _ _ _, ⟨_, rfl⟩, .inl ⟨[], HR.out.symm, hJ _ _ _ HJ2.out (HB3.out.mono (by have := HEI2.out.s; omega))⟩⟩
  | some b =>
    have hR : RL lf i0 = walkW lf.length (pieceO lf) i0 := by unfold RL; rw [hf]; rfl
    have HR := Lib.hid hR
    rw [hf] at HB0
    clear hf hR
    have hmf : ∀ (fn : Fn) (first cap : Array Value) (w : World), (Instr.makeFunc fn first cap).run Tryz.prog w = .ok (.func fn first cap) w := fun _ _ _ _ => rfl
    have HW := Lib.hid (fun (W : World) => walk_any i0 (.func (.func 55) #[.slice oa lf.length cap] #[]) W rfl)
    have HT2 : Hid (∀ V, Below w2.heap.size w2 V → V.cell? ⟨W.heap.size + 1, 0, none⟩ = some (.int .i64 i0)) := Lib.hid fun V hb => (HEI2.out.below HGW.out HEI2.out.s hb).t
    go_wp2_with (first | (go_at_call 54; refine HB0.out.mono ?_; rintro e w3 ⟨rfl, hb3⟩; have t3 := HT2.out _ hb3; have HB3 := Lib.hid hb3; clear hb3) | (go_at_call 43; refine (HW.out _).mono ?_; rintro e w4 ⟨rfl, hc0', hc1', hb4⟩; have H4 := Lib.hid (And.intro hc0' (And.intro hc1' hb4)); clear hc0' hc1' hb4))
    have hb24 : Below w2.heap.size w2 w4 := HB3.out.trans (H4.out.2.2.mono HB3.out.size)
    have hei4 := HEI2.out.below HGW.out HEI2.out.s hb24
    have HEI4 := Lib.hid hei4
    have HJ4 := Lib.hid (hJ _ _ _ HJ2.out (hb24.mono (by have := HEI2.out.s; omega)))
    have hv4 : BytesOf w4 (.slice oa lf.length cap) lf := HV2.out.keep hb24 (Nat.le_refl _)
    have hz4 : w3.heap.size + 2 ≤ w4.heap.size := by
      have := World.block_lt_of_cell? w4 _ H4.out.2.1
      simp at this
      omega
    have hz3 := HB3.out.size
    have hz2 := HEI2.out.s
    have HVV : Hid (∀ V : World, (∀ k, W.heap.size ≤ k → k < w4.heap.size → k ≠ W.heap.size + 1 → V.heap[k]? = w4.heap[k]?) → BytesAt V (.slice oa lf.length cap) lf) := Lib.hid fun V hk => by
      obtain ⟨oa', cap', e0, h1, h2⟩ := hv4.at
      cases e0
      refine ⟨_, _, rfl, h1, fun j hj => ?_⟩
      obtain ⟨a, ha, hcell⟩ := h2 j hj
      have hlt := World.block_lt_of_cell? w4 _ hcell
      have hab := HOWN.out a ha
      rw [Addr.add_block] at hlt
      refine ⟨a, ha, ?_⟩
      rw [World.cell?_of_block (hk _ (by rw [Addr.add_block]; omega) (by rw [Addr.add_block]; omega) (by rw [Addr.add_block]; omega))]
      exact hcell
    have HT := Lib.hid (walkP_turns (n - 1) (by omega) w3.heap.size (w3.heap.size + 1) (.slice oa lf.length cap) oa lf.length i0 (pieceO lf) (step_piece lf) hl hi0 w4 H4.out.1 H4.out.2.1 (fun k => W.heap.size ≤ k ∧ k < w4.heap.size ∧ k ≠ W.heap.size + 1) (fun k hk => hk.2.1) ⟨by omega, by omega, by omega⟩ (fun V hk => step_piece_at oa cap lf V (HVV.out V (fun k h1 h2 h3 => hk k ⟨h1, h2, h3⟩)) hl))
    clear hb24 hei4 hv4 HB0 HV2 t2 t3
    refine (wpIn_wide (n := n)).1 ?_
    refine wpIn_turns (F := Fence.wide) (G := fun k => W.heap.size ≤ k ∧ k < w4.heap.size ∧ k ≠ W.heap.size + 1) rfl (by omega) (gf := 72) (lb := #[.pointer (some ⟨w3.heap.size, 0, none⟩), .pointer (some ⟨w3.heap.size + 1, 0, none⟩)]) rfl trivial (enters_of Tryz.func72 (by kernel_rfl) rfl)
      HT.out (fun k hk => hk.2.1) (fun x => rfl)
      (fun pre V => J (pre.map (tagW oa)) V ∧ EIx ll W.heap.size (endF i0 pre) G W V ∧ (∀ k, W.heap.size ≤ k → k < w4.heap.size → k ≠ W.heap.size + 1 → V.heap[k]? = w4.heap[k]?) ∧ w4.heap.size ≤ V.heap.size)
      (fun c pre V => c = .exit 0 ∧ Jx (pre.map (tagW oa)) V)
      (fun s A A' h hb => ⟨hJ _ _ _ h.1 (hb.mono (by omega)), h.2.1.below HGW.out (by omega) hb, fun k h1 h2 h3 => (hb.block k h2).trans (h.2.2.1 k h1 h2 h3), Nat.le_trans h.2.2.2 hb.size⟩)
      (fun c s A A' h hb => ⟨h.1, hJx _ _ _ h.2 (hb.mono (by omega))⟩)
      ⟨HJ4.out, HEI4.out, fun k _ _ _ => rfl, Nat.le_refl _⟩
      (fun x => { tmps := #[.func (.yield ll) #[] #[], .pointer (some ⟨c0, 0, none⟩), .pointer (some ⟨c1, 0, none⟩), .pointer (some ⟨W.heap.size, 0, none⟩), .pointer (some ⟨W.heap.size + 1, 0, none⟩), .slice oa lf.length cap, .int .i64 x.1, pieceV oa (x.1 + 8) x.2.length, .int .i64 i0, qv, .slice oa lf.length cap, .slice oa lf.length cap, .int .i64 i0, .bool true, undef, undef, .int .i64 i0, .slice oa lf.length cap, .func (.func 55) #[.slice oa lf.length cap] #[], .func (.func 72) #[] #[.pointer (some ⟨w3.heap.size, 0, none⟩), .pointer (some ⟨w3.heap.size + 1, 0, none⟩)], .int .i64 x.1, pieceV oa (x.1 + 8) x.2.length, undef, undef, undef, undef, undef, undef, undef, undef], defers := [] }) ?assign ?body ?done ?stop
    case assign =>
      intro lp x V K hK
      simp only [encW]
      gi_wp2
      exact hK
    case body =>
      rintro lp pre x V ⟨hj, he, hs, hz⟩ hsp hszV
      obtain ⟨i, b⟩ := x
      have hpc : pieceO lf i = some b := by
        obtain ⟨q, hq⟩ := hsp
        exact walkGo_step _ _ (i, b) (show (i, b) ∈ walkW lf.length (pieceO lf) i0 by rw [← hq]; simp)
      have hin : i + 8 + b.length ≤ lf.length := (pieceO_len hpc).2.1
      have hbt : BtAt V (pieceV oa (i + 8) b.length) b := piece_bt (HVV.out V hs) hpc
      have y0 := he.y
      have hyl := World.block_lt_of_cell? V _ y0
      have HYx := Lib.hid (HY.out (pre.map (tagW oa)) (tagW oa (i, b)) V hj (by rw [← tag_snoc, tag_snd, HR.out]; exact hsp) hbt (by omega))
      have HEI := Lib.hid he
      have HSM := Lib.hid hs
      have HZ := Lib.hid hz
      have HSP := Lib.hid hsp
      have hpv : pieceV oa (i + 8) b.length = .slice (if b.length = 0 then oa else oa.map (·.add (i + 8))) b.length b.length := rfl
      generalize (if b.length = 0 then oa else oa.map (·.add (i + 8))) = ob at hpv
      have HBh := Lib.hid (fun (V : World) => behind_any i ob b.length b.length V (by omega) (by omega))
      obtain ⟨fn, tmps, assign, body, hy, hR⟩ := HYx.out
      rw [← tag_snoc] at hR
      simp only [encE, tagW] at hy
      dsimp only
      rw [hpv] at hy ⊢
      clear hj he hs hz hsp hpc hbt hpv HYx
      gi_wp2_with fail
      refine ⟨fun _ => by omega, (round_anyL hR).mono ?_⟩
      rintro e w5 (⟨rfl, hJ5, hk5⟩ | ⟨rfl, hJx5, hk5⟩)
      · have he5 := HEI.out.kept hk5 HGW.out
        have t5 := he5.t
        have f5 := he5.f
        have HE5 := Lib.hid he5
        have HJ5 := Lib.hid hJ5
        have HK5 := Lib.hid hk5
        clear hJ5 hk5 he5 hy hR
        gi_wp2_with fail
        refine ⟨trivial, fun _ => by omega, (CallsIn.inRound lp (callsIn_wide.2 (HBh.out w5))).mono ?_⟩
        rintro e w6 ⟨rfl, rfl⟩
        gi_wp2_with fail
        have hcast : (i : Int) + 8 + (b.length : Int) = ((i + 8 + b.length : Nat) : Int) := by omega
        have hsz5 := HK5.out.size
        have hK6 : Keep w4.heap.size (fun k => W.heap.size ≤ k ∧ k < w4.heap.size ∧ k ≠ W.heap.size + 1) V w5 := ⟨HK5.out.size, fun k hk hh => HK5.out.same k hk (.inl (by rcases hh with h | h; omega; exact h.1))⟩
        have hb6 : Below W.heap.size w5 (w5.setCell ⟨W.heap.size + 1, 0, none⟩ (.int .i64 ((i : Int) + 8 + (b.length : Int)))) := (Below.refl _ w5).setCell (p := ⟨W.heap.size + 1, 0, none⟩) (by show W.heap.size ≤ W.heap.size + 1; omega) _
        refine ⟨hK6.setCell (p := ⟨W.heap.size + 1, 0, none⟩) (by show W.heap.size + 1 < w4.heap.size; omega) (fun h => h.2.2 rfl) _, hJ _ _ _ HJ5.out hb6, ?_, fun k h1 h2 h3 => ?_, by simp [World.setCell]; have := HZ.out; omega⟩
        · rw [endF_snoc]
          exact HE5.out.next HGW.out _ _ hcast
        · exact (Below.heap_setCell _ _ _ _ (by simp; omega)).trans ((HK5.out.same k (by have := HZ.out; omega) (.inl h1)).trans (HSM.out k h1 h2 h3))
      · have HJX := Lib.hid hJx5
        have HK5 := Lib.hid hk5
        clear hJx5 hk5 hy hR
        gi_wp2_with fail
        exact ⟨⟨HK5.out.size, fun k hk hh => HK5.out.same k hk (.inl (by rcases hh with h | h; omega; exact h.1))⟩, rfl, HJX.out⟩
    case done =>
      rintro xs V rfl ⟨hj, he, hs, hz⟩ hD
      have HEI := Lib.hid he
      have HJ := Lib.hid hj
      have HD := Lib.hid hD
      have HB9 : Hid (∀ V' oa' cap', BytesOf V' (.slice oa' lf.length cap') lf → Calls Tryz.prog 54 #[.slice oa' lf.length cap', .int .i64 (endF i0 (walkW lf.length (pieceO lf) i0) : Nat)] V' fun e w' => e = .returned (.bool false) ∧ Below V'.heap.size V' w') := Lib.hid fun V' oa' cap' hv' => by
        have h := begins_any oa' cap' lf (endF i0 (walkW lf.length (pieceO lf) i0) : Nat) V' hv' hl
        rw [findO_endW] at h
        exact h
      clear hj he hs hz hD
      generalize endF i0 (walkW lf.length (pieceO lf) i0) = nx at *
      have hc1v : V.cell? ⟨c1, 0, none⟩ = some (qv) := (World.cell?_of_block (a := ⟨c1, 0, none⟩) (HEI.out.g c1 hG1)).trans k1
      have HO9 := Lib.hid (HOW.out V (by have := HEI.out.s; omega) HEI.out.g)
      go_wp2_with (first | (go_at_call 53; refine HO9.out.mono ?_; rintro e w5 ⟨v, rfl, hv5, hb5, _⟩; obtain ⟨ob, cb, hvf⟩ := hv5.form; subst hvf; have H5 := Lib.hid (And.intro hv5 hb5); have t5 := (HEI.out.below HGW.out HEI.out.s hb5).t; clear hv5 hb5))
      rw [rounds_succ]
      have HB10 := Lib.hid (HB9.out w5 ob cb H5.out.1)
      go_wp2_with (first | (go_at_call 54; refine HB10.out.mono ?_; rintro e w6 ⟨rfl, hb6⟩; have HB6 := Lib.hid hb6; clear hb6))
      simp only [Exit.noGoto]
      have hVD := (Array.getElem?_eq_some_iff.1 HD.out).1
      have hs5 := H5.out.2.size
      have hD6 : w6.heap[w4.heap.size]? = some (.deferred (some [])) := (HB6.out.block _ (by omega)).trans ((H5.out.2.block _ hVD).trans HD.out)
      have hb56 := H5.out.2.trans (HB6.out.mono hs5)
      have hj6 := hJ _ _ _ HJ.out (hb56.mono (by have := HEI.out.s; omega))
      refine ⟨by simp, .inl ⟨_, _, rfl, run_takeDeferred hD6, _, results_none rfl _ _ _, ⟨_, rfl⟩, .inl ⟨_, ?_, hJ.put (.deferred none) hj6 (by omega) (by have := HB6.out.size; omega)⟩⟩⟩
      rw [tag_snd, HR.out]
    case stop =>
      rintro c pre V hsp ⟨rfl, hjx⟩ hD
      have HJX := Lib.hid (hJx.put (.deferred none) hjx (by omega : W.heap.size ≤ w4.heap.size) (Array.getElem?_eq_some_iff.1 hD).1)
      clear hjx
      gi_wp2_with fail
      simp only [Exit.noGoto]
      refine ⟨by simp, .inl ⟨_, _, rfl, run_takeDeferred hD, _, results_none rfl _ _ _, ⟨_, rfl⟩, .inr ⟨_, ?_, HJX.out⟩⟩⟩
      rw [tag_snd, HR.out]
      exact hsp
end Go.Proofs.YtbhgcioeibhjeaaGreatDoor
namespace Go.Proofs.YtbhgcioeibhjeaaGreatDoor
open Go.RowKit Go.Shelf
attribute [local go_sem] Oper.semAt_some

def bsR (R : List (Nat × List UInt8)) : List (List UInt8) := R.map (·.2)
def bsT (pre : List (Value × (Nat × List UInt8))) : List (List UInt8) := pre.map (·.2.2)
theorem bsT_R {xs : List (Value × (Nat × List UInt8))} {R : List (Nat × List UInt8)} (h : xs.map (·.2) = R) : bsT xs = bsR R := by
  subst h
  simp [bsT, bsR]
def toldV (R : List (Nat × List UInt8)) (L : List (List UInt8)) : Value := if bsR R <+: L then .tuple #[.int .i64 (R.length : Nat), .bool true] else .tuple #[.int .i64 0, .bool false]
theorem toldV_yes {R : List (Nat × List UInt8)} {L : List (List UInt8)} (h : bsR R <+: L) : toldV R L = .tuple #[.int .i64 (R.length : Nat), .bool true] := if_pos h
theorem toldV_no {R : List (Nat × List UInt8)} {L : List (List UInt8)} (h : ¬ bsR R <+: L) : toldV R L = .tuple #[.int .i64 0, .bool false] := if_neg h
/-- rows of bytes in a slice of slices -/
def RowsB (W : World) (ol : Option Addr) (L : List (List UInt8)) : Prop := ∀ (j : Nat) (h : j < L.length), ∃ a v, ol = some a ∧ W.cell? (a.add j) = some v ∧ BtAt W v L[j]
theorem RowsB.keep {W W' : World} {ol : Option Addr} {L : List (List UInt8)} (h : RowsB W ol L) (hb : Below W.heap.size W W') : RowsB W' ol L := fun j hj => by
  obtain ⟨a, v, h1, h2, h3⟩ := h j hj
  exact ⟨a, v, h1, (hb.cell (World.block_lt_of_cell? W _ h2)).trans h2, h3.keep hb⟩
/-- what lies in memory while told goes over the records -/
structure TI (W : World) (B T n : Nat) (lv : Value) (rn : Int) (ok : Bool) (V : World) : Prop where
  l : V.cell? ⟨B, 0, none⟩ = some lv
  r : V.cell? ⟨B + 1, 0, none⟩ = some (.int .i64 rn)
  rf : V.frozen? ⟨B + 1, 0, none⟩ = false
  o : V.cell? ⟨B + 1 + 1, 0, none⟩ = some (.bool ok)
  of : V.frozen? ⟨B + 1 + 1, 0, none⟩ = false
  n : V.cell? ⟨T, 0, none⟩ = some (.int .i64 n)
  nf : V.frozen? ⟨T, 0, none⟩ = false
  b : Below W.heap.size W V
/-- its first three boxes -/
structure TB (W : World) (B : Nat) (lv : Value) (rn : Int) (ok : Bool) (V : World) : Prop where
  l : V.cell? ⟨B, 0, none⟩ = some lv
  r : V.cell? ⟨B + 1, 0, none⟩ = some (.int .i64 rn)
  rf : V.frozen? ⟨B + 1, 0, none⟩ = false
  o : V.cell? ⟨B + 1 + 1, 0, none⟩ = some (.bool ok)
  of : V.frozen? ⟨B + 1 + 1, 0, none⟩ = false
  b : Below W.heap.size W V
theorem TB.below {W : World} {B N : Nat} {lv : Value} {rn : Int} {ok : Bool} {V V' : World} (h : TB W B lv rn ok V) (hb : Below N V V') (hN : B + 3 ≤ N) (hW : W.heap.size ≤ B := by omega) : TB W B lv rn ok V' :=
  ⟨(hb.cell (by show B < N; omega)).trans h.l, (hb.cell (by show B + 1 < N; omega)).trans h.r, (hb.frozen (by show B + 1 < N; omega)).trans h.rf, (hb.cell (by show B + 1 + 1 < N; omega)).trans h.o, (hb.frozen (by show B + 1 + 1 < N; omega)).trans h.of, h.b.trans (hb.mono (by omega))⟩
theorem TI.boxes (W : World) (lv : Value) (T1 T2 T3 : TypeId) (hlv : lv.cells = #[lv] := by rfl) : TB W W.heap.size lv 0 false (((W.alloc (.cells #[lv] T1)).alloc (.cells #[.int .i64 0] T2)).alloc (.cells #[.bool false] T3)) := by
  have h0 : (((W.alloc (.cells #[lv] T1)).alloc (.cells #[.int .i64 0] T2)).alloc (.cells #[.bool false] T3)).heap[W.heap.size]? = some (.cells #[lv] T1 (0, 0)) :=
    (Below.heap_alloc _ _ _ (by simp; omega)).trans ((Below.heap_alloc _ _ _ (by simp)).trans (heap_alloc_at W _))
  have h1 : (((W.alloc (.cells #[lv] T1)).alloc (.cells #[.int .i64 0] T2)).alloc (.cells #[.bool false] T3)).heap[W.heap.size + 1]? = some (.cells #[.int .i64 0] T2 (0, 0)) := by
    have h := heap_alloc_at (W.alloc (.cells #[lv] T1)) (.cells #[.int .i64 0] T2)
    rw [World.size_alloc] at h
    exact (Below.heap_alloc _ _ _ (by simp)).trans h
  have h2 : (((W.alloc (.cells #[lv] T1)).alloc (.cells #[.int .i64 0] T2)).alloc (.cells #[.bool false] T3)).heap[W.heap.size + 1 + 1]? = some (.cells #[.bool false] T3 (0, 0)) := by
    have h := heap_alloc_at ((W.alloc (.cells #[lv] T1)).alloc (.cells #[.int .i64 0] T2)) (.cells #[.bool false] T3)
    rw [World.size_alloc, World.size_alloc] at h
    exact h
  exact ⟨by simp only [World.cell?]; rw [h0]; rfl, by simp only [World.cell?]; rw [h1]; rfl, by simp only [World.frozen?]; rw [h1]; rfl, by simp only [World.cell?]; rw [h2]; rfl, by simp only [World.frozen?]; rw [h2]; rfl,
    (((Below.refl _ W).alloc (Nat.le_refl _) _).alloc (by simp) _).alloc (by simp; omega) _⟩
theorem notpre_len {pre : List (Value × (Nat × List UInt8))} {x : Value × (Nat × List UInt8)} {R : List (Nat × List UInt8)} {L : List (List UInt8)} (h : (pre ++ [x]).map (·.2) <+: R) (hn : L.length ≤ pre.length) : ¬ bsR R <+: L := fun hp => by
  have h1 := h.length_le
  have h2 := hp.length_le
  simp [bsR] at h1 h2
  omega
theorem notpre_ne {pre : List (Value × (Nat × List UInt8))} {x : Value × (Nat × List UInt8)} {R : List (Nat × List UInt8)} {L : List (List UInt8)} (h : (pre ++ [x]).map (·.2) <+: R) (hn : pre.length < L.length) (hne : x.2.2 ≠ L[pre.length]) : ¬ bsR R <+: L := fun hp => by
  obtain ⟨q, rfl⟩ := h
  obtain ⟨r, rfl⟩ := hp
  apply hne
  simp [bsR]
theorem pre_nextL {pre : List (Value × (Nat × List UInt8))} {x : Value × (Nat × List UInt8)} {L : List (List UInt8)} (h : bsT pre <+: L) (hn : pre.length < L.length) (he : x.2.2 = L[pre.length]) : bsT (pre ++ [x]) <+: L := by
  rw [List.prefix_iff_eq_take] at h ⊢
  unfold bsT at h ⊢
  rw [List.map_append, List.map_singleton, List.length_append, List.length_map, List.length_singleton, List.take_succ_eq_append_getElem hn, he]
  rw [List.length_map] at h
  rw [← h]
theorem TI.tb {W : World} {B T n : Nat} {lv : Value} {rn : Int} {ok : Bool} {V : World} (h : TI W B T n lv rn ok V) : TB W B lv rn ok V := ⟨h.l, h.r, h.rf, h.o, h.of, h.b⟩
theorem TI.below {W : World} {B T n N : Nat} {lv : Value} {rn : Int} {ok : Bool} {V V' : World} (h : TI W B T n lv rn ok V) (hb : Below N V V') (hN : B + 3 ≤ N) (hT : T < N) (hW : W.heap.size ≤ B := by omega) : TI W B T n lv rn ok V' := by
  obtain ⟨a, b, c, d, e, g⟩ := h.tb.below hb hN hW
  exact ⟨a, b, c, d, e, (hb.cell (by exact hT)).trans h.n, (hb.frozen (by exact hT)).trans h.nf, g⟩
theorem TI.next {W : World} {B T n : Nat} {lv : Value} {rn : Int} {ok : Bool} {V : World} (h : TI W B T n lv rn ok V) (hT : B + 3 ≤ T) (hW : W.heap.size ≤ B) (m : Int) (k : Nat) (hm : m = k) : TI W B T k lv rn ok (V.setCell ⟨T, 0, none⟩ (.int .i64 m)) := by
  subst hm
  have nn : ∀ j, j < B + 3 → (⟨T, 0, none⟩ : Addr) ≠ ⟨j, 0, none⟩ := fun j hj e => by have h := congrArg Addr.block e; simp at h; omega
  exact ⟨(World.cell?_setCell_other _ _ _ _ (nn B (by omega))).trans h.l, (World.cell?_setCell_other _ _ _ _ (nn (B + 1) (by omega))).trans h.r, (World.frozen?_setCell _ _ _ _).trans h.rf, (World.cell?_setCell_other _ _ _ _ (nn (B + 1 + 1) (by omega))).trans h.o, (World.frozen?_setCell _ _ _ _).trans h.of, World.cell?_setCell_same' _ _ _ (by rw [h.n]; rfl), (World.frozen?_setCell _ _ _ _).trans h.nf, h.b.setCell (p := ⟨T, 0, none⟩) (by show W.heap.size ≤ T; omega) _⟩
theorem TI.ends {W : World} {B T n : Nat} {lv : Value} {rn : Int} {ok : Bool} {V : World} (h : TI W B T n lv rn ok V) (hT : B + 3 ≤ T) (hW : W.heap.size ≤ B) (m : Int) (ok' : Bool) : TI W B T n lv m ok' ((V.setCell ⟨B + 1, 0, none⟩ (.int .i64 m)).setCell ⟨B + 1 + 1, 0, none⟩ (.bool ok')) := by
  have n1 : (⟨B + 1, 0, none⟩ : Addr) ≠ ⟨B + 1 + 1, 0, none⟩ := fun e => by simp at e
  have m0 : (⟨B + 1, 0, none⟩ : Addr) ≠ ⟨B, 0, none⟩ := fun e => by simp at e
  have m1 : (⟨B + 1 + 1, 0, none⟩ : Addr) ≠ ⟨B, 0, none⟩ := fun e => by simp at e
  have t0 : (⟨B + 1, 0, none⟩ : Addr) ≠ ⟨T, 0, none⟩ := fun e => by have h := congrArg Addr.block e; simp at h; omega
  have t1 : (⟨B + 1 + 1, 0, none⟩ : Addr) ≠ ⟨T, 0, none⟩ := fun e => by have h := congrArg Addr.block e; simp at h; omega
  have ff : ∀ a, ((V.setCell ⟨B + 1, 0, none⟩ (.int .i64 m)).setCell ⟨B + 1 + 1, 0, none⟩ (.bool ok')).frozen? a = V.frozen? a := fun a => by rw [World.frozen?_setCell, World.frozen?_setCell]
  refine ⟨?_, ?_, (ff _).trans h.rf, ?_, (ff _).trans h.of, ?_, (ff _).trans h.nf, (h.b.setCell (p := ⟨B + 1, 0, none⟩) (by show W.heap.size ≤ B + 1; omega) _).setCell (p := ⟨B + 1 + 1, 0, none⟩) (by show W.heap.size ≤ B + 1 + 1; omega) _⟩
  · rw [World.cell?_setCell_other _ _ _ _ m1, World.cell?_setCell_other _ _ _ _ m0]
    exact h.l
  · rw [World.cell?_setCell_other _ _ _ _ n1.symm]
    exact World.cell?_setCell_same' _ _ _ (by rw [h.r]; rfl)
  · exact World.cell?_setCell_same' _ _ _ (by rw [World.cell?_setCell_other _ _ _ _ n1, h.o]; rfl)
  · rw [World.cell?_setCell_other _ _ _ _ t1, World.cell?_setCell_other _ _ _ _ t0]
    exact h.n
theorem cell_loop {V : World} {a : Addr} {v : Value} {k : Nat} {r : Loop} (h : V.cell? a = some v) (hD : V.heap[k]? = some (.loop r)) (o : Obj) : (V.putObj k o).cell? a = some v := by
  have hne : a.block ≠ k := fun e => by
    simp only [World.cell?, e, hD] at h
    cases h
  rw [World.cell?_of_block (World.putObj_heap_other hne)]
  exact h
theorem BtAt.loop {V : World} {v : Value} {b : List UInt8} {k : Nat} {r : Loop} (h : BtAt V v b) (hD : V.heap[k]? = some (.loop r)) (o : Obj) : BtAt (V.putObj k o) v b := by
  obtain ⟨oa, cap, e, hc⟩ := h
  refine ⟨oa, cap, e, fun j hj => ?_⟩
  obtain ⟨a, ha, hcell⟩ := hc j hj
  exact ⟨a, ha, cell_loop hcell hD o⟩
end Go.Proofs.YtbhgcioeibhjeaaGreatDoor
