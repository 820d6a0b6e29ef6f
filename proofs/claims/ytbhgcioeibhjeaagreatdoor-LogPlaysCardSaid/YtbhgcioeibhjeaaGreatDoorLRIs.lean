/-
  parts that belong together.
-/
import Derived.Test.YtbhgcioeibhjeaaGreatDoorLRGa
import Derived.Test.YtbhgcioeibhjeaaGreatDoorLNns
import Derived.Test.YtbhgcioeibhjeaaGreatDoorLrM
namespace Go.Proofs.YtbhgcioeibhjeaaGreatDoor
open Go.RowKit Go.Shelf
attribute [local go_sem] Oper.semAt_some

/-- the records from a position on, as they are told -/
def RLz (lf : List UInt8) (p : Int) : List (Nat × List UInt8) := if (findO lf p).isSome then walkW lf.length (pieceO lf) p.toNat else []
theorem RLz_nat (lf : List UInt8) (i : Nat) : RLz lf i = RL lf i := rfl
theorem RLz_none {lf : List UInt8} {p : Int} (h : findO lf p = none) : RLz lf p = [] := by unfold RLz; rw [h]; rfl
theorem walk_ge {n : Nat} {O : Nat → Option (List UInt8)} : ∀ (f i : Nat), ∀ x ∈ walkGo O f i, i ≤ x.1
  | 0, _, x, hx => by simp [walkGo] at hx
  | f + 1, i, x, hx => by
    unfold walkGo at hx
    cases h : O i with
    | none => rw [h] at hx; simp at hx
    | some b =>
      rw [h] at hx
      rcases List.mem_cons.1 hx with rfl | hx
      · exact Nat.le_refl _
      · have := walk_ge (n := n) f _ x hx
        omega
theorem walk_part {n : Nat} {O : Nat → Option (List UInt8)} (hO : StepOk n O) : ∀ (ys : List (Nat × List UInt8)) (i : Nat) (x : Nat × List UInt8) (zs : List (Nat × List UInt8)), walkW n O i = ys ++ x :: zs → walkW n O x.1 = x :: zs ∧ ∀ y ∈ ys, y.1 < x.1
  | [], i, x, zs, h => by
    cases ho : O i with
    | none => rw [walkW_none ho] at h; cases h
    | some b =>
      have h2 := walkW_some hO ho
      rw [h] at h2
      cases h2
      exact ⟨h, fun y hy => by cases hy⟩
  | y :: ys, i, x, zs, h => by
    cases ho : O i with
    | none => rw [walkW_none ho] at h; cases h
    | some b =>
      have h2 := walkW_some hO ho
      rw [h] at h2
      injection h2 with h3 h4
      obtain ⟨h5, h6⟩ := walk_part hO ys (i + 8 + b.length) x zs h4.symm
      refine ⟨h5, fun z hz => ?_⟩
      rcases List.mem_cons.1 hz with rfl | hz
      · have hx : x ∈ walkW n O (i + 8 + b.length) := by rw [← h4]; simp
        have := walk_ge (n := n) _ _ x hx
        rw [h3]
        simp only
        omega
      · exact h6 z hz
theorem RLz_from (L : List (List UInt8)) (hb : ∀ b ∈ L, b.length ≤ 60000) (p : Int) : RLz (catR L) p = fromL (recsAt 0 (recsL (catR L))) p := by
  rw [recsL_cat L hb]
  have hW := walk_piece L [] hb torn_nil
  rw [List.append_nil] at hW
  by_cases hex : ∃ k, ∃ hk : k < (recsAt 0 L).length, (((recsAt 0 L)[k]).1 : Int) = p
  · obtain ⟨k, hk, he⟩ := hex
    have hsplit : walkW (catR L).length (pieceO (catR L)) 0 = (recsAt 0 L).take k ++ (recsAt 0 L)[k] :: (recsAt 0 L).drop (k + 1) := by
      rw [hW, List.getElem_cons_drop, List.take_append_drop]
    obtain ⟨h1, h2⟩ := walk_part (step_piece _) _ 0 _ _ hsplit
    have hf : findO (catR L) p = some ((recsAt 0 L)[k]).2 := findO_hit (ys := (recsAt 0 L).take k) (x := (recsAt 0 L)[k]) (by rw [hsplit]; exact ⟨(recsAt 0 L).drop (k + 1), by simp⟩) (fun y hy => by have := h2 y hy; omega) he
    rw [fromL_hit hk (fun j hj hj2 => ?_) he]
    · unfold RLz
      rw [hf, show p.toNat = ((recsAt 0 L)[k]).1 by omega, h1, List.getElem_cons_drop]
      rfl
    · have hm : (recsAt 0 L)[j] ∈ (recsAt 0 L).take k := List.mem_take_iff_getElem.2 ⟨j, by omega, rfl⟩
      have := h2 _ hm
      omega
  · have hn : ∀ j (hj : j < (recsAt 0 L).length), ¬ (((recsAt 0 L)[j]).1 : Int) = p := fun j hj he => hex ⟨j, hj, he⟩
    rw [fromL_none hn]
    refine RLz_none ?_
    cases hf : findO (catR L) p with
    | none => rfl
    | some b =>
      obtain ⟨i, hp, hm⟩ := findO_mem hf
      rw [hW] at hm
      obtain ⟨j, hj, he⟩ := List.getElem_of_mem hm
      exact (hn j hj (by rw [he]; exact hp.symm)).elim
/-- what abides in Each's loop: the yield, the next position, the blocks of G -/
structure EIz (ll B : Nat) (i : Int) (G : Nat → Prop) (W V : World) : Prop where
  y : V.cell? ⟨B, 0, none⟩ = some (.func (.yield ll) #[] #[])
  t : V.cell? ⟨B + 1, 0, none⟩ = some (.int .i64 i)
  f : V.frozen? ⟨B + 1, 0, none⟩ = false
  g : ∀ k, G k → V.heap[k]? = W.heap[k]?
  s : B + 2 ≤ V.heap.size
theorem EIz.below {ll B N : Nat} {i : Int} {G : Nat → Prop} {W V V' : World} (h : EIz ll B i G W V) (hG : ∀ k, G k → k < B) (hN : B + 2 ≤ N) (hb : Below N V V') : EIz ll B i G W V' :=
  ⟨(hb.cell (by show B < N; omega)).trans h.y, (hb.cell (by show B + 1 < N; omega)).trans h.t, (hb.frozen (by show B + 1 < N; omega)).trans h.f, fun k hk => (hb.block k (by have := hG k hk; omega)).trans (h.g k hk), Nat.le_trans h.s hb.size⟩
theorem EIz.start (W : World) (ll : Nat) (i : Int) (G : Nat → Prop) (hG : ∀ k, G k → k < W.heap.size) (T1 T2 : TypeId) : EIz ll W.heap.size i G W ((W.alloc (.cells #[.func (.yield ll) #[] #[]] T1)).alloc (.cells #[.int .i64 i] T2)) := by
  have h0 : ((W.alloc (.cells #[.func (.yield ll) #[] #[]] T1)).alloc (.cells #[.int .i64 i] T2)).heap[W.heap.size]? = some (.cells #[.func (.yield ll) #[] #[]] T1 (0, 0)) :=
    (Below.heap_alloc _ _ _ (by simp)).trans (heap_alloc_at W _)
  have h1 : ((W.alloc (.cells #[.func (.yield ll) #[] #[]] T1)).alloc (.cells #[.int .i64 i] T2)).heap[W.heap.size + 1]? = some (.cells #[.int .i64 i] T2 (0, 0)) := by
    have h := heap_alloc_at (W.alloc (.cells #[.func (.yield ll) #[] #[]] T1)) (.cells #[.int .i64 i] T2)
    rw [World.size_alloc] at h
    exact h
  exact ⟨by simp only [World.cell?]; rw [h0]; rfl, by simp only [World.cell?]; rw [h1]; rfl, by simp only [World.frozen?]; rw [h1]; rfl, fun k hk => (Below.heap_alloc _ _ _ (by have := hG k hk; simp; omega)).trans (Below.heap_alloc _ _ _ (hG k hk)), by simp⟩
set_option maxRecDepth 100000 in
set_option maxHeartbeats 4000000 in
theorem eachN_turns (n : Nat) (hn : 4 ≤ n) (c0 c1 : Nat) (qv : Value) (lf : List UInt8) (i0 : Int) (hno : findO lf i0 = none) (w : World) (h0 : w.cell? ⟨c0, 0, none⟩ = some (.int .i64 i0)) (h1 : w.cell? ⟨c1, 0, none⟩ = some (qv)) (hl : lf.length ≤ 100000000)
    (G : Nat → Prop) (hGl : ∀ k, G k → k < w.heap.size) (hG0 : G c0) (hG1 : G c1)
    (hO : ∀ V : World, w.heap.size ≤ V.heap.size → (∀ k, G k → V.heap[k]? = w.heap[k]?) → Calls Tryz.prog 53 #[qv] V (OctP lf V)) :
    SeqTurnsF Fence.wide n Tryz.prog 52 #[.pointer (some ⟨c0, 0, none⟩), .pointer (some ⟨c1, 0, none⟩)] encE G (fun xs => xs.map (·.2) = []) (fun xs => xs.map (·.2) <+: []) (fun x W => BtAt W x.1 x.2.2) w := fun ll J Jx W hW hJ hJx hY hJ0 => by
  have HY := Lib.hid hY
  have HJ0 := Lib.hid hJ0
  have k0 : W.cell? ⟨c0, 0, none⟩ = some (.int .i64 i0) := (hW.cell (World.block_lt_of_cell? w _ h0)).trans h0
  have k1 : W.cell? ⟨c1, 0, none⟩ = some (qv) := (hW.cell (World.block_lt_of_cell? w _ h1)).trans h1
  have HGW : Hid (∀ k, G k → k < W.heap.size) := Lib.hid fun k hk => Nat.lt_of_lt_of_le (hGl k hk) hW.size
  have HOW : Hid (∀ V : World, W.heap.size ≤ V.heap.size → (∀ k, G k → V.heap[k]? = W.heap[k]?) → Calls Tryz.prog 53 #[qv] V (OctP lf V)) := Lib.hid fun V hs hk => hO V (Nat.le_trans hW.size hs) (fun k hg => (hk k hg).trans (hW.block k (hGl k hg)))
  clear hY hJ0 hO h0 h1 hW
  refine callsIn_of_wp_marks Tryz.func52 rfl trivial ?_ rfl
  simp only [Tryz.ntmps52, List.size_toArray, List.length_cons, List.length_nil, Nat.reduceAdd, Nat.reduceSub, Array.replicate_succ, Array.replicate_zero, List.push_toArray, List.append_toArray, List.nil_append, List.cons_append]
  have hc0 := World.block_lt_of_cell? W _ k0
  have hc1 := World.block_lt_of_cell? W _ k1
  simp only at hc0 hc1
  gi_wp2_with fail
  refine scope_wideL ?_
  refine wpIn_wide.2 ?_
  go_wp2_with fail
  refine wp_label ?_
  go_wp2_with fail
  obtain ⟨W1, hW1⟩ : ∃ W1, (W.alloc (.cells #[.func (.yield ll) #[] #[]] 110)).alloc (.cells #[.int .i64 i0] 3) = W1 := ⟨_, rfl⟩
  have hei : EIz ll W.heap.size i0 G W W1 := by rw [← hW1]; exact EIz.start W ll i0 G HGW.out _ _
  have hb1 : Below W.heap.size W W1 := by rw [← hW1]; exact ((Below.refl _ W).alloc (Nat.le_refl _) _).alloc (by simp) _
  have HJ1 := Lib.hid (hJ _ _ _ HJ0.out hb1)
  have HEI1 := Lib.hid hei
  rw [hW1]
  clear hW1 hei hb1 HJ0
  refine (HOW.out W1 (by have := HEI1.out.s; omega) HEI1.out.g).mono ?_
  rintro e w2 ⟨v, rfl, hv, hb2, hown⟩
  obtain ⟨oa, cap, hvf⟩ := hv.form
  subst hvf
  have hei2 := HEI1.out.below HGW.out HEI1.out.s hb2
  have HEI2 := Lib.hid hei2
  have HJ2 := Lib.hid (hJ _ _ _ HJ1.out (hb2.mono (by have := HEI1.out.s; omega)))
  have HV2 := Lib.hid hv
  have HOWN : Hid (∀ a, oa = some a → W.heap.size + 2 ≤ a.block) := Lib.hid fun a ha => by
    subst ha
    have := hown a.block rfl
    have := HEI1.out.s
    omega
  have t2 := hei2.t
  clear hv hb2 hei2 HJ1 HEI1 hown
  go_wp2_with fail
  refine wp_loop_rounds 3 ?_
  rw [rounds_succ]
  have HB0 := Lib.hid (begins_any oa cap lf i0 w2 HV2.out hl)
  rw [hno] at HB0
  clear hno
  clear HV2 HOWN
  go_wp2_with (first | (go_at_call 54; refine HB0.out.mono ?_; rintro e w3 ⟨rfl, hb3⟩; have HB3 := Lib.hid hb3; clear hb3))
  simp only [Exit.noGoto]
  exact ⟨_, results_none rfl _ _ _, ⟨_, rfl⟩, .inl ⟨[], rfl, hJ _ _ _ HJ2.out (HB3.out.mono (by have := HEI2.out.s; omega))⟩⟩
theorem eachZ_turns (n : Nat) (hn : 4 ≤ n) (c0 c1 : Nat) (qv : Value) (lf : List UInt8) (p : Int) (w : World) (h0 : w.cell? ⟨c0, 0, none⟩ = some (.int .i64 p)) (h1 : w.cell? ⟨c1, 0, none⟩ = some (qv)) (hl : lf.length ≤ 100000000)
    (G : Nat → Prop) (hGl : ∀ k, G k → k < w.heap.size) (hG0 : G c0) (hG1 : G c1)
    (hO : ∀ V : World, w.heap.size ≤ V.heap.size → (∀ k, G k → V.heap[k]? = w.heap[k]?) → Calls Tryz.prog 53 #[qv] V (OctP lf V)) :
    SeqTurnsF Fence.wide n Tryz.prog 52 #[.pointer (some ⟨c0, 0, none⟩), .pointer (some ⟨c1, 0, none⟩)] encE G (fun xs => xs.map (·.2) = RLz lf p) (fun xs => xs.map (·.2) <+: RLz lf p) (fun x W => BtAt W x.1 x.2.2) w := by
  by_cases h : findO lf p = none
  · rw [RLz_none h]
    exact eachN_turns n hn c0 c1 qv lf p h w h0 h1 hl G hGl hG0 hG1 hO
  · obtain ⟨b, hb⟩ := Option.ne_none_iff_exists'.1 h
    obtain ⟨i, rfl, hp⟩ := findO_piece hb
    rw [RLz_nat]
    exact eachL_turns n hn c0 c1 qv lf i w h0 h1 hl (by have := (pieceO_len hp).2.1; omega) G hGl hG0 hG1 hO
end Go.Proofs.YtbhgcioeibhjeaaGreatDoor
namespace Go.Proofs.YtbhgcioeibhjeaaGreatDoor
open Go.RowKit Go.Shelf
attribute [local go_sem] Oper.semAt_some

set_option maxRecDepth 1000000 in
set_option maxHeartbeats 8000000 in
theorem is_anyZ {N : Nat} {W : World} {Φ : Nat → Prop} {q p : Nat} {D : Dk} {t : Int} {f : Nat} {cl : Array Value} (hD : DkAt N W Φ p D) (hi : D.Inv) (hlog : LogC W q p f ((D.F f).length : Nat) t) (hf : f < 64) (hR : RLg W cl D f t) (i0 : Int) (hRL : RLz (D.F f) i0 = fromL (recsAt 0 (recsL (D.F f))) i0) (many : Int) :
    Calls Tryz.prog 13 #[.pointer (some ⟨q, 0, none⟩), .agg cl, .int .i64 i0, .int .i64 many] W fun x W' => x = .returned (.bool true) ∧ Below W.heap.size W W' := by
  obtain ⟨R, hRR⟩ : ∃ R, fromL (recsAt 0 (recsL (D.F f))) i0 = R := ⟨_, rfl⟩
  have hRl : R.length ≤ 100000000 := by
    rw [← hRR]
    have h0 := fromL_le (recsAt 0 (recsL (D.F f))) i0
    have h1 := recsL_few (D.F f)
    have h2 := hi.len f hf
    rw [recs_len] at h0
    omega
  rw [hRR] at hRL
  have HFROM := Lib.hid (fun V (hb : Below W.heap.size W V) => rFrom_any (hR.keep hb) hi hf i0)
  rw [hRR] at HFROM
  obtain ⟨lf, hlf⟩ : ∃ lf, D.F f = lf := ⟨_, rfl⟩
  have HRE0 := Lib.hid (fun V (hb : Below W.heap.size W V) => rEnd_any (hR.keep hb) hi hf)
  have hfl : lf.length ≤ 100000000 := by
    rw [← hlf]
    exact hi.len f hf
  have HLOG : Hid (∀ V, Below W.heap.size W V → LogC V q p f (lf.length : Nat) t) := Lib.hid fun V hb => by
    rw [← hlf]
    exact (hb.block q (Array.getElem?_eq_some_iff.1 hlog).1).trans hlog
  have HE := Lib.hid (fun V => Each_any (some ⟨q, 0, none⟩) i0 V)
  have huL := Tryz.underlying38
  have hinfL : (Tryz.prog.info? 38).map (·.size) = some cl.toList.length := by rw [Array.length_toList, hR.size]; exact info68
  rw [hlf] at HRE0 hRL
  refine (callsIn_wide (n := 8)).1 ?_
  refine callsIn_of_wp_marks Tryz.func13 rfl trivial ?_ rfl
  simp only [Tryz.ntmps13, List.size_toArray, List.length_cons, List.length_nil, Nat.reduceAdd, Nat.reduceSub, Array.replicate_succ, Array.replicate_zero, List.push_toArray, List.append_toArray, List.nil_append, List.cons_append]
  refine wpIn_wide.2 ?_
  go_upto_region 1 with fail
  obtain ⟨W1, hW1⟩ : ∃ W1, (((W.alloc (.cells cl 38)).alloc (.cells #[.int .i64 many] 3)).alloc (.cells #[.bool false] 4)) = W1 := ⟨_, rfl⟩
  have hb1 : Below W.heap.size W W1 := by rw [← hW1]; exact (((Below.refl _ _).alloc (Nat.le_refl _) _).alloc (by simp) _).alloc (by simp; omega) _
  have hz1 : W1.heap.size = W.heap.size + 3 := by rw [← hW1]; simp
  have hbx : LBox W1 W.heap.size cl := by
    rw [← hW1]
    exact (Below.heap_alloc _ _ _ (by simp; omega)).trans ((Below.heap_alloc _ _ _ (by simp)).trans (heap_alloc_at W _))
  have hmb : W1.heap[W.heap.size + 1]? = some (.cells #[.int .i64 many] 3 (0, 0)) := by
    rw [← hW1]
    have h := heap_alloc_at (W.alloc (.cells cl 38)) (.cells #[.int .i64 many] 3)
    rw [World.size_alloc] at h
    exact (Below.heap_alloc _ _ _ (by simp)).trans h
  have hob : W1.heap[W.heap.size + 1 + 1]? = some (.cells #[.bool false] 4 (0, 0)) := by
    rw [← hW1]
    have h := heap_alloc_at ((W.alloc (.cells cl 38)).alloc (.cells #[.int .i64 many] 3)) (.cells #[.bool false] 4)
    rw [World.size_alloc, World.size_alloc] at h
    exact h
  rw [hW1]
  clear hW1
  have hr := hbx.range
  have HFR := Lib.hid (HFROM.out W1 hb1)
  go_upto_region 2 with (first | (refine wpList_load_mid rfl 38 _ rfl _ _ rfl _ _ hr huL rfl hinfL ?_; simp only [Act.put, List.setIfInBounds_toArray, List.set_cons_zero, List.set_cons_succ, Array.toArray_toList]) | (go_at_call 37; refine HFR.out.mono ?_; rintro e w2 ⟨v, rfl, hv2, hb2⟩; obtain ⟨ov, cv, hvf⟩ := hv2.form; subst hvf))
  obtain ⟨W3, hW3⟩ : ∃ W3, w2.alloc (.cells #[.slice ov R.length cv] 81) = W3 := ⟨_, rfl⟩
  have hb23 : Below w2.heap.size w2 W3 := by rw [← hW3]; exact (Below.refl _ w2).alloc (Nat.le_refl _) _
  have hz3 : W3.heap.size = w2.heap.size + 1 := by rw [← hW3]; simp
  have hvb : W3.heap[w2.heap.size]? = some (.cells #[.slice ov R.length cv] 81 (0, 0)) := by rw [← hW3]; exact heap_alloc_at w2 _
  have hb13 : Below W1.heap.size W1 W3 := hb2.trans (hb23.mono hb2.size)
  try rw [hW3]
  have HV3 := Lib.hid (hv2.keep hb23)
  have H13 := Lib.hid hb13
  clear hW3 hv2 hb13 hb23 HFR hr
  go_wp2_with (first | (go_at_call 23; refine (HE.out _).mono ?_; rintro e w4 ⟨rfl, hc0, hc1, hb4⟩))
  have hbW4 : Below W.heap.size W w4 := hb1.trans ((H13.out.trans (hb4.mono H13.out.size)).mono hb1.size)
  have hb34 : Below W3.heap.size W3 w4 := hb4
  have hz4 : w2.heap.size + 3 ≤ w4.heap.size := by
    have := World.block_lt_of_cell? w4 _ hc0
    simp at this
    omega
  have hb14 : Below W1.heap.size W1 w4 := H13.out.trans (hb34.mono H13.out.size)
  have HBX4 := Lib.hid (hbx.keep hb14)
  have HMB4 : Hid (w4.heap[W.heap.size + 1]? = some (.cells #[.int .i64 many] 3 (0, 0))) := Lib.hid ((hb14.block _ (by omega)).trans hmb)
  have HOB4 : Hid (w4.heap[W.heap.size + 1 + 1]? = some (.cells #[.bool false] 4 (0, 0))) := Lib.hid ((hb14.block _ (by omega)).trans hob)
  have HVB4 : Hid (w4.heap[w2.heap.size]? = some (.cells #[.slice ov R.length cv] 81 (0, 0))) := Lib.hid ((hb34.block _ (by omega)).trans hvb)
  have HV4 := Lib.hid (HV3.out.keep hb34)
  have HC01 := Lib.hid (And.intro hc0 hc1)
  have HBW4 := Lib.hid hbW4
  have HRG : Hid (∀ V, Below w4.heap.size w4 V → V.rangeAt W.heap.size 0 cl.toList) := Lib.hid fun V hb => (HBX4.out.keep hb).range
  have HC67 : Hid (∀ V, Below w4.heap.size w4 V → V.cell? ⟨W.heap.size, 67, none⟩ = some (.int .i64 t)) := Lib.hid fun V hb => (HBX4.out.keep hb).cell hR.torn
  have HEND := Lib.hid (fun V (hb : Below w4.heap.size w4 V) => lEnd_ok q p f (lf.length : Nat) t V (HLOG.out V (HBW4.out.trans (hb.mono HBW4.out.size))))
  have HTORN := Lib.hid (fun V (hb : Below w4.heap.size w4 V) => lTorn_ok q p f (lf.length : Nat) t V (HLOG.out V (HBW4.out.trans (hb.mono HBW4.out.size))))
  have HRE := Lib.hid (fun V (hb : Below w4.heap.size w4 V) => HRE0.out V (HBW4.out.trans (hb.mono HBW4.out.size)))
  have hq : ∀ (g : Fn) (a b : Array Value) (V : World), (binOp .eql 61 (.func g a b) .nilFunc).run Tryz.prog V = .ok (.bool false) V := fun _ _ _ _ => rfl
  have hbne : ∀ a : Int, (a != a) = false := fun a => by simp
  clear hb1 hbx hmb hob hvb HV3 hc0 hc1 hb4 hbW4 hb34 hb14 H13 HFROM HE HRE0
  refine wp_normal ?_
  -- BEGIN hand_isA
  refine wp_region_held_drew (S := fun W => Below w4.heap.size w4 W) (by kernel_rfl) ?_ (fun hHeld => ?_)
  · exact (Below.refl _ w4).drew
  refine wpAnyH_take (i := 0) (oi := { dst := some 20, op := Go.Op.move (Go.Operand.tmp 10), type := 61, pos := "law.go:79", after := #[], guard := none }) (v := ?v0i) rfl (by kernel_rfl) (by kernel_rfl) (by kernel_rfl) (fun _ _ _ h => h) (Or.inl ⟨by rfl, ?hy0i⟩) hHeld ?rest0i
  case hy0i => (intro W hSw; (try dsimp only at hSw); go_simp; try with_reducible rfl)
  try simp only [Act.put, List.setIfInBounds_toArray, List.set_cons_zero, List.set_cons_succ]
  refine wpAnyH_take (i := 1) (oi := { dst := some 21, op := Go.Op.binOp Go.BinOp.eql 61 (Go.Operand.tmp 20) (Go.Operand.const Go.Value.nilFunc) 61, type := 4, pos := "law.go:79", after := #[{ on := 0, ground := Go.Ground.data }], guard := none }) (v := .bool false) rfl (by kernel_rfl) (by kernel_rfl) (by kernel_rfl) (fun _ _ _ h => h) (Or.inl ⟨by rfl, ?hy1i⟩) hHeld ?rest1i
  case hy1i => (intro W hSw; (try dsimp only at hSw); go_simp; try with_reducible rfl)
  try simp only [Act.put, List.setIfInBounds_toArray, List.set_cons_zero, List.set_cons_succ]
  refine wpAnyH_take (i := 2) (oi := { dst := some 22, op := Go.Op.move (Go.Operand.tmp 21), type := 4, pos := "law.go:79", after := #[{ on := 1, ground := Go.Ground.data }], guard := none }) (v := .bool false) rfl (by kernel_rfl) (by kernel_rfl) (by kernel_rfl) (fun _ _ _ h => h) (Or.inl ⟨by rfl, ?hy2i⟩) hHeld ?rest2i
  case hy2i => (intro W hSw; (try dsimp only at hSw); go_simp; try with_reducible rfl)
  try simp only [Act.put, List.setIfInBounds_toArray, List.set_cons_zero, List.set_cons_succ]
  refine wpAnyH_take (i := 3) (oi := { dst := some 23, op := Go.Op.move (Go.Operand.tmp 0), type := 29, pos := "law.go:79", after := #[{ on := 2, ground := Go.Ground.guard }], guard := some (2, false) }) (v := ?v3i) rfl (by kernel_rfl) (by kernel_rfl) (by kernel_rfl) (fun _ _ _ h => h) (Or.inl ⟨by rfl, ?hy3i⟩) hHeld ?rest3i
  case hy3i => (intro W hSw; (try dsimp only at hSw); go_simp; try with_reducible rfl)
  try simp only [Act.put, List.setIfInBounds_toArray, List.set_cons_zero, List.set_cons_succ]
  refine wpAnyH_take (i := 5) (oi := { dst := some 25, op := Go.Op.load 38 (Go.Operand.tmp 5), type := 38, pos := "law.go:79", after := #[{ on := 2, ground := Go.Ground.guard }], guard := some (2, false) }) (v := _) rfl (by kernel_rfl) (by kernel_rfl) (by kernel_rfl) (fun _ _ _ h => h) (yieldsIf_load_mid (by rfl) 38 _ rfl _ _ rfl _ _ (fun W hSw => HRG.out W hSw) huL rfl hinfL) hHeld ?_
  try simp only [Act.put, List.setIfInBounds_toArray, List.set_cons_zero, List.set_cons_succ]
  refine wpAnyH_ready (rs := [4]) (by kernel_rfl) (by simp) ?_
  refine AllReadyH.cons (o := { dst := some 24, op := Go.Op.call { callee := Go.Callee.value (Go.Operand.func 24), args := #[Go.Operand.tmp 23], argTypes := #[29] }, type := 3, pos := "law.go:79", after := #[{ on := 3, ground := Go.Ground.data }, { on := 2, ground := Go.Ground.chain }, { on := 2, ground := Go.Ground.guard }], guard := some (2, false) }) rfl (fun K hK => ?_) AllReadyH.nil
  go_simp
  go_at_call 24
  refine (HEND.out _ hHeld).mono ?_
  rintro e w5 ⟨rfl, rfl⟩
  refine hK.out _ _ (hHeld) (fun hHeld' => ?_)
  clear hK K hHeld
  have hHeld := hHeld'
  clear hHeld'
  try simp only [Act.put, List.setIfInBounds_toArray, List.set_cons_zero, List.set_cons_succ]
  refine wpAnyH_ready (rs := [6]) (by kernel_rfl) (by simp) ?_
  refine AllReadyH.cons (o := { dst := some 26, op := Go.Op.call { callee := Go.Callee.value (Go.Operand.func 38), args := #[Go.Operand.tmp 25], argTypes := #[38] }, type := 3, pos := "law.go:79", after := #[{ on := 5, ground := Go.Ground.data }, { on := 4, ground := Go.Ground.chain }, { on := 2, ground := Go.Ground.guard }], guard := some (2, false) }) rfl (fun K hK => ?_) AllReadyH.nil
  go_simp
  go_at_call 38
  refine (HRE.out _ hHeld).mono ?_
  rintro e w6 ⟨rfl, hb6⟩
  refine hK.out _ _ (hHeld.trans (hb6.mono hHeld.size)) (fun hHeld' => ?_)
  clear hK K hHeld
  have hHeld := hHeld'
  clear hHeld'
  try simp only [Act.put, List.setIfInBounds_toArray, List.set_cons_zero, List.set_cons_succ]
  refine wpAnyH_take (i := 7) (oi := { dst := some 27, op := Go.Op.binOp Go.BinOp.neq 3 (Go.Operand.tmp 24) (Go.Operand.tmp 26) 3, type := 4, pos := "law.go:79", after := #[{ on := 4, ground := Go.Ground.data }, { on := 6, ground := Go.Ground.data }, { on := 2, ground := Go.Ground.guard }], guard := some (2, false) }) (v := .bool false) rfl (by kernel_rfl) (by kernel_rfl) (by kernel_rfl) (fun _ _ _ h => h) (Or.inl ⟨by rfl, ?hy7i⟩) hHeld ?rest7i
  case hy7i => (intro W hSw; (try dsimp only at hSw); go_simp; try with_reducible rfl)
  try simp only [Act.put, List.setIfInBounds_toArray, List.set_cons_zero, List.set_cons_succ]
  refine wpAnyH_take (i := 8) (oi := { dst := some 28, op := Go.Op.pick (Go.Operand.tmp 22) (Go.Operand.const (Go.Value.bool true)) (Go.Operand.tmp 27), type := 4, pos := "law.go:79", after := #[{ on := 2, ground := Go.Ground.data }, { on := 7, ground := Go.Ground.data }], guard := none }) (v := .bool false) rfl (by kernel_rfl) (by kernel_rfl) (by kernel_rfl) (fun _ _ _ h => h) (Or.inl ⟨by rfl, ?hy8i⟩) hHeld ?rest8i
  case hy8i => (intro W hSw; (try dsimp only at hSw); go_simp; try with_reducible rfl)
  try simp only [Act.put, List.setIfInBounds_toArray, List.set_cons_zero, List.set_cons_succ]
  refine wpAnyH_take (i := 9) (oi := { dst := some 29, op := Go.Op.move (Go.Operand.tmp 28), type := 4, pos := "law.go:79", after := #[{ on := 8, ground := Go.Ground.data }, { on := 6, ground := Go.Ground.chain }], guard := none }) (v := .bool false) rfl (by kernel_rfl) (by kernel_rfl) (by kernel_rfl) (fun _ _ _ h => h) (Or.inl ⟨by rfl, ?hy9i⟩) hHeld ?rest9i
  case hy9i => (intro W hSw; (try dsimp only at hSw); go_simp; try with_reducible rfl)
  try simp only [Act.put, List.setIfInBounds_toArray, List.set_cons_zero, List.set_cons_succ]
  refine wpAnyH_take (i := 10) (oi := { dst := some 30, op := Go.Op.move (Go.Operand.tmp 0), type := 29, pos := "law.go:79", after := #[{ on := 9, ground := Go.Ground.guard }], guard := some (9, false) }) (v := ?v10i) rfl (by kernel_rfl) (by kernel_rfl) (by kernel_rfl) (fun _ _ _ h => h) (Or.inl ⟨by rfl, ?hy10i⟩) hHeld ?rest10i
  case hy10i => (intro W hSw; (try dsimp only at hSw); go_simp; try with_reducible rfl)
  try simp only [Act.put, List.setIfInBounds_toArray, List.set_cons_zero, List.set_cons_succ]
  refine wpAnyH_take (i := 12) (oi := { dst := some 32, op := Go.Op.fieldAddr 38 (Go.Operand.tmp 5) 2, type := 0, pos := "law.go:79", after := #[{ on := 9, ground := Go.Ground.guard }], guard := some (9, false) }) (v := ?v12i) rfl (by kernel_rfl) (by kernel_rfl) (by kernel_rfl) (fun _ _ _ h => h) (Or.inl ⟨by rfl, ?hy12i⟩) hHeld ?rest12i
  case hy12i => (intro W hSw; (try dsimp only at hSw); go_simp; try with_reducible rfl)
  try simp only [Act.put, List.setIfInBounds_toArray, List.set_cons_zero, List.set_cons_succ]
  refine wpAnyH_take (i := 13) (oi := { dst := some 33, op := Go.Op.load 3 (Go.Operand.tmp 32), type := 3, pos := "law.go:79", after := #[{ on := 12, ground := Go.Ground.data }, { on := 9, ground := Go.Ground.guard }], guard := some (9, false) }) (v := ?v13i) rfl (by kernel_rfl) (by kernel_rfl) (by kernel_rfl) (fun _ _ _ h => h) (Or.inl ⟨by rfl, ?hy13i⟩) hHeld ?rest13i
  case hy13i => (intro W hSw; (try dsimp only at hSw); have hc67 := HC67.out W hSw; go_simp; try with_reducible rfl)
  try simp only [Act.put, List.setIfInBounds_toArray, List.set_cons_zero, List.set_cons_succ]
  refine wpAnyH_ready (rs := [11]) (by kernel_rfl) (by simp) ?_
  refine AllReadyH.cons (o := { dst := some 31, op := Go.Op.call { callee := Go.Callee.value (Go.Operand.func 25), args := #[Go.Operand.tmp 30], argTypes := #[29] }, type := 3, pos := "law.go:79", after := #[{ on := 10, ground := Go.Ground.data }, { on := 9, ground := Go.Ground.chain }, { on := 9, ground := Go.Ground.guard }], guard := some (9, false) }) rfl (fun K hK => ?_) AllReadyH.nil
  go_simp
  go_at_call 25
  refine (HTORN.out _ hHeld).mono ?_
  rintro e w7 ⟨rfl, rfl⟩
  refine hK.out _ _ (hHeld) (fun hHeld' => ?_)
  clear hK K hHeld
  have hHeld := hHeld'
  clear hHeld'
  try simp only [Act.put, List.setIfInBounds_toArray, List.set_cons_zero, List.set_cons_succ]
  refine wpAnyH_take (i := 14) (oi := { dst := some 34, op := Go.Op.binOp Go.BinOp.neq 3 (Go.Operand.tmp 31) (Go.Operand.tmp 33) 3, type := 4, pos := "law.go:79", after := #[{ on := 11, ground := Go.Ground.data }, { on := 13, ground := Go.Ground.data }, { on := 9, ground := Go.Ground.guard }], guard := some (9, false) }) (v := .bool false) rfl (by kernel_rfl) (by kernel_rfl) (by kernel_rfl) (fun _ _ _ h => h) (Or.inl ⟨by rfl, ?hy14i⟩) hHeld ?rest14i
  case hy14i => (intro W hSw; (try dsimp only at hSw); go_simp; try with_reducible rfl)
  try simp only [Act.put, List.setIfInBounds_toArray, List.set_cons_zero, List.set_cons_succ]
  refine wpAnyH_take (i := 15) (oi := { dst := some 35, op := Go.Op.pick (Go.Operand.tmp 29) (Go.Operand.const (Go.Value.bool true)) (Go.Operand.tmp 34), type := 4, pos := "law.go:79", after := #[{ on := 9, ground := Go.Ground.data }, { on := 14, ground := Go.Ground.data }], guard := none }) (v := .bool false) rfl (by kernel_rfl) (by kernel_rfl) (by kernel_rfl) (fun _ _ _ h => h) (Or.inl ⟨by rfl, ?hy15i⟩) hHeld ?rest15i
  case hy15i => (intro W hSw; (try dsimp only at hSw); go_simp; try with_reducible rfl)
  try simp only [Act.put, List.setIfInBounds_toArray, List.set_cons_zero, List.set_cons_succ]
  refine wpAnyH_done (by kernel_rfl) ?_ _
  try dsimp only
  try simp only [Act.put, List.setIfInBounds_toArray, List.set_cons_zero, List.set_cons_succ]
  -- END hand_isA
  have HB6 := Lib.hid hHeld
  clear hHeld
  have hz6 : w4.heap.size ≤ w6.heap.size := HB6.out.size
  go_wp2_with fail
  obtain ⟨w7, hw7⟩ : ∃ w7, w6.alloc (.cells #[.int .i64 0] 3) = w7 := ⟨_, rfl⟩
  have hb67 : Below w6.heap.size w6 w7 := by rw [← hw7]; exact (Below.refl _ w6).alloc (Nat.le_refl _) _
  have hz7 : w7.heap.size = w6.heap.size + 1 := by rw [← hw7]; simp
  have hblk : w7.heap[w6.heap.size]? = some (.cells #[.int .i64 0] 3 (0, 0)) := by rw [← hw7]; exact heap_alloc_at w6 _
  have HB47 : Hid (Below w4.heap.size w4 w7) := Lib.hid (HB6.out.trans (hb67.mono hz6))
  have HIJ0 : Hid (IJ w7 w6.heap.size 0 w7) := Lib.hid ⟨by simp only [World.cell?]; rw [hblk]; rfl, by simp only [World.frozen?]; rw [hblk]; rfl, Below.refl _ _, by omega⟩
  have hW4 : W.heap.size ≤ w4.heap.size := HBW4.out.size
  have HGV : Hid (∀ V : World, w4.heap.size ≤ V.heap.size → (∀ k, k < w4.heap.size → V.heap[k]? = w7.heap[k]?) → Calls Tryz.prog 53 #[.pointer (some ⟨q, 0, none⟩)] V (OctP lf V)) := Lib.hid fun V hs hk => by
    rw [← hlf]
    have hold : ∀ k, k < W.heap.size → V.heap[k]? = W.heap[k]? := fun k hk' => (hk k (by omega)).trans ((HB47.out.block k (by omega)).trans (HBW4.out.block k hk'))
    obtain ⟨mf, ms, V1, U, lv, B, h1⟩ := hD
    exact loctets_at (N := N) ⟨mf, ms, V1, U, lv, B, h1.keep (by omega) (fun k hp => hold k (h1.lt k hp).2)⟩ hi ((hold q (Array.getElem?_eq_some_iff.1 hlog).1).trans hlog) hf
  have HT := Lib.hid (eachZ_turns 7 (by decide) (w2.heap.size + 1 + 1) (w2.heap.size + 1) (.pointer (some ⟨q, 0, none⟩)) lf i0 w7 ((HB47.out.cell (by show w2.heap.size + 1 + 1 < w4.heap.size; omega)).trans (by have := HC01.out.1; rwa [hz3] at this)) ((HB47.out.cell (by show w2.heap.size + 1 < w4.heap.size; omega)).trans (by have := HC01.out.2; rwa [hz3] at this)) hfl (fun k => k < w4.heap.size) (fun k hk => by omega) (by omega) (by omega)
    (fun V hs hk => HGV.out V (by omega) hk))
  rw [hRL] at HT
  have HALL : Hid (∀ V, Below w6.heap.size w7 V → V.cell? ⟨w2.heap.size, 0, none⟩ = some (.slice ov R.length cv) ∧ V.cell? ⟨W.heap.size + 1, 0, none⟩ = some (.int .i64 many) ∧ V.cell? ⟨W.heap.size + 1 + 1, 0, none⟩ = some (.bool false) ∧ V.frozen? ⟨W.heap.size + 1 + 1, 0, none⟩ = false ∧ RwsIn V (.slice ov R.length cv) R ∧ Below W.heap.size W V) := Lib.hid fun V hb => by
    have hb4 : Below w4.heap.size w4 V := HB47.out.trans (hb.mono hz6)
    have hwlt : W.heap.size + 1 + 1 < w4.heap.size := (Array.getElem?_eq_some_iff.1 HOB4.out).1
    refine ⟨?_, ?_, ?_, ?_, HV4.out.keep hb4, HBW4.out.trans (hb4.mono hW4)⟩
    · simp only [World.cell?]; rw [hb4.block _ (by omega), HVB4.out]; rfl
    · simp only [World.cell?]; rw [hb4.block _ (by omega), HMB4.out]; rfl
    · simp only [World.cell?]; rw [hb4.block _ (by omega), HOB4.out]; rfl
    · simp only [World.frozen?]; rw [hb4.block _ (by omega), HOB4.out]; rfl
  have hwlt : W.heap.size + 1 + 1 < w4.heap.size := (Array.getElem?_eq_some_iff.1 HOB4.out).1
  have hn1 : ¬ (W.heap.size + 1 = w6.heap.size) := by omega
  have hn2 : ¬ (w6.heap.size = W.heap.size + 1) := by omega
  have hn3 : ¬ (w2.heap.size = w6.heap.size) := by omega
  have hn4 : ¬ (w6.heap.size = w2.heap.size) := by omega
  rw [hw7]
  clear hD hi hlog hf hR hb67 hblk HGV HB6 HRG HC67 HEND HTORN HRE HC01 HLOG hRL hRR hw7 HB47 HBX4 HMB4 HOB4 HVB4 HV4 hbne
  refine (wpIn_wide (n := 8)).1 ?_
  refine wpIn_turnsF (F := Fence.wide) (G := fun k => k < w4.heap.size) rfl (by decide) (gf := 52) (lb := #[.pointer (some ⟨w2.heap.size + 1 + 1, 0, none⟩), .pointer (some ⟨w2.heap.size + 1, 0, none⟩)]) rfl trivial (enters_of Tryz.func52 (by kernel_rfl) rfl)
    HT.out (fun k hk => by omega) (fun x => rfl)
    (fun (pre : List (Value × (Nat × List UInt8))) V => IJ w7 w6.heap.size pre.length V ∧ (pre = [] ∨ (pre.length : Int) < many))
    (fun c (pre : List (Value × (Nat × List UInt8))) V => c = .exit 0 ∧ IJ w7 w6.heap.size pre.length V ∧ (1 ≤ pre.length ∧ many ≤ pre.length ∧ (pre.length = 1 ∨ (pre.length : Int) - 1 < many)))
    (fun s A A' h hb => ⟨h.1.below (by omega) hb, h.2⟩)
    (fun c s A A' h hb => ⟨h.1, h.2.1.below (by omega) hb, h.2.2⟩)
    (fun x V l r o h hl => h.loop hl o)
    ⟨HIJ0.out, .inl rfl⟩
    (fun x => { tmps := #[.pointer (some ⟨q, 0, none⟩), .agg cl, .int .i64 i0, .int .i64 many, undef, .pointer (some ⟨W.heap.size, 0, none⟩), undef, .pointer (some ⟨W.heap.size + 1, 0, none⟩), .pointer (some ⟨W.heap.size + 1 + 1, 0, none⟩), .pointer (some ⟨w2.heap.size, 0, none⟩), .func (.func 52) #[] #[.pointer (some ⟨w2.heap.size + 1 + 1, 0, none⟩), .pointer (some ⟨w2.heap.size + 1, 0, none⟩)], .pointer (some ⟨w6.heap.size, 0, none⟩), .int .i64 x.2.1, x.1, .agg cl, .int .i64 i0, .slice ov R.length cv, .pointer (some ⟨q, 0, none⟩), .int .i64 i0, .func (.func 52) #[] #[.pointer (some ⟨w2.heap.size + 1 + 1, 0, none⟩), .pointer (some ⟨w2.heap.size + 1, 0, none⟩)], .func (.func 52) #[] #[.pointer (some ⟨w2.heap.size + 1 + 1, 0, none⟩), .pointer (some ⟨w2.heap.size + 1, 0, none⟩)], .bool false, .bool false, .pointer (some ⟨q, 0, none⟩), .int .i64 lf.length, .agg cl, .int .i64 lf.length, .bool false, .bool false, .bool false, .pointer (some ⟨q, 0, none⟩), .int .i64 t, .pointer (some ⟨W.heap.size, 67, none⟩), .int .i64 t, .bool false, .bool false, .func (.func 52) #[] #[.pointer (some ⟨w2.heap.size + 1 + 1, 0, none⟩), .pointer (some ⟨w2.heap.size + 1, 0, none⟩)], .int .i64 x.2.1, x.1, undef, undef, undef, undef, undef, undef, undef, undef, undef, undef, undef, undef, undef, undef, undef, undef, undef, undef, undef, undef, undef, undef, undef, undef, undef, undef, undef, undef, undef, undef, undef, undef, undef, undef, undef], defers := [] }) ?assign ?body ?done ?stop
  case assign =>
    intro lp x V K hK
    simp only [encE]
    gi_wp2
    exact hK
  case body =>
    rintro lp pre x V ⟨hij, hq⟩ hsp hbt hszV
    obtain ⟨hl, hxR⟩ := pre_at hsp
    obtain ⟨xv, xi, xb⟩ := x
    simp only at hbt hxR
    have hbd : Below V.heap.size V V.drew := (Below.refl _ V).drew
    have hs1 := bt_string (hbt.keep hbd)
    have hijd := hij.below (M := V.heap.size) hij.s hbd
    obtain ⟨k1, k2, k3, k4, k5, k6⟩ := HALL.out V.drew hijd.b
    obtain ⟨ov', cv', e5, k5c⟩ := k5
    cases e5
    obtain ⟨a, ha, r1, r2⟩ := k5c pre.length hl
    rw [hxR] at r1 r2
    subst ha
    have hN := hijd.n
    have HQ := Lib.hid hq
    have HIJ := Lib.hid hijd
    have hlt2 : (pre.length : Int) < (R.length : Int) := by omega
    have hfn := hijd.nf
    have HKV : Hid (Keep w7.heap.size (fun k => k < w4.heap.size) V V.drew) := Lib.hid ⟨Nat.le_refl _, fun _ _ _ => rfl⟩
    dsimp only
    gi_wp2_with fail
    refine wpIn_region_Y (S := fun V => V.cell? ⟨w6.heap.size, 0, none⟩ = some (.int .i64 (pre.length : Int)) ∧ V.cell? ⟨w2.heap.size, 0, none⟩ = some (.slice (some a) R.length cv) ∧ V.cell? (a.add (pre.length * 2)) = some (.int .i64 xi) ∧ V.cell? ⟨(a.add (pre.length * 2)).block, (a.add (pre.length * 2)).off + 1, none⟩ = some (.string ⟨xb.toArray⟩) ∧ (convert 43 9 xv).run Tryz.prog V = .ok (.string ⟨xb.toArray⟩) V) (by kernel_rfl) ?_
    generalize V.drew = Vd at *
    have hS := And.intro hN (And.intro k1 (And.intro r1 (And.intro r2 hs1)))
    refine wpAnyY_take (i := 0) (oi := { dst := some 39, op := Go.Op.load 3 (Go.Operand.tmp 11), type := 3, pos := "law.go:84", after := #[], guard := none }) (v := .int .i64 (pre.length : Int)) rfl (by kernel_rfl) (by kernel_rfl) (by kernel_rfl) (by kernel_rfl) (fun _ _ _ h => h) (by intro w; first | rfl | (simp [Oper.about, resolve, Target.leads]; done)) (Or.inl ⟨by rfl, ?hyis0⟩) hS ?_
    case hyis0 => (rintro V ⟨s1, s2, s3, s4, s5⟩; go_simp; try with_reducible rfl)
    try simp only [Act.put, List.setIfInBounds_toArray, List.set_cons_zero, List.set_cons_succ]
    refine wpAnyY_take (i := 1) (oi := { dst := some 40, op := Go.Op.load 81 (Go.Operand.tmp 9), type := 81, pos := "law.go:84", after := #[], guard := none }) (v := .slice (some a) R.length cv) rfl (by kernel_rfl) (by kernel_rfl) (by kernel_rfl) (by kernel_rfl) (fun _ _ _ h => h) (by intro w; first | rfl | (simp [Oper.about, resolve, Target.leads]; done)) (Or.inl ⟨by rfl, ?hyis1⟩) hS ?_
    case hyis1 => (rintro V ⟨s1, s2, s3, s4, s5⟩; go_simp; try with_reducible rfl)
    try simp only [Act.put, List.setIfInBounds_toArray, List.set_cons_zero, List.set_cons_succ]
    refine wpAnyY_take (i := 2) (oi := { dst := some 41, op := Go.Op.call { callee := Go.Callee.builtin Go.Builtin.len, args := #[Go.Operand.tmp 40], argTypes := #[81] }, type := 3, pos := "law.go:84", after := #[{ on := 1, ground := Go.Ground.data }], guard := none }) (v := .int .i64 (R.length : Int)) rfl (by kernel_rfl) (by kernel_rfl) (by kernel_rfl) (by kernel_rfl) (fun _ _ _ h => h) (by intro w; first | rfl | (simp [Oper.about, resolve, Target.leads]; done)) (Or.inl ⟨by rfl, ?hyis2⟩) hS ?_
    case hyis2 => (rintro V ⟨s1, s2, s3, s4, s5⟩; go_simp; try with_reducible rfl)
    try simp only [Act.put, List.setIfInBounds_toArray, List.set_cons_zero, List.set_cons_succ]
    refine wpAnyY_take (i := 3) (oi := { dst := some 42, op := Go.Op.binOp Go.BinOp.geq 3 (Go.Operand.tmp 39) (Go.Operand.tmp 41) 3, type := 4, pos := "law.go:84", after := #[{ on := 0, ground := Go.Ground.data }, { on := 2, ground := Go.Ground.data }], guard := none }) (v := .bool false) rfl (by kernel_rfl) (by kernel_rfl) (by kernel_rfl) (by kernel_rfl) (fun _ _ _ h => h) (by intro w; first | rfl | (simp [Oper.about, resolve, Target.leads]; done)) (Or.inl ⟨by rfl, ?hyis3⟩) hS ?_
    case hyis3 => (rintro V ⟨s1, s2, s3, s4, s5⟩; go_simp; try with_reducible rfl)
    try simp only [Act.put, List.setIfInBounds_toArray, List.set_cons_zero, List.set_cons_succ]
    refine wpAnyY_take (i := 4) (oi := { dst := some 43, op := Go.Op.move (Go.Operand.tmp 42), type := 4, pos := "law.go:84", after := #[{ on := 3, ground := Go.Ground.data }], guard := none }) (v := .bool false) rfl (by kernel_rfl) (by kernel_rfl) (by kernel_rfl) (by kernel_rfl) (fun _ _ _ h => h) (by intro w; first | rfl | (simp [Oper.about, resolve, Target.leads]; done)) (Or.inl ⟨by rfl, ?hyis4⟩) hS ?_
    case hyis4 => (rintro V ⟨s1, s2, s3, s4, s5⟩; go_simp; try with_reducible rfl)
    try simp only [Act.put, List.setIfInBounds_toArray, List.set_cons_zero, List.set_cons_succ]
    refine wpAnyY_take (i := 5) (oi := { dst := some 44, op := Go.Op.move (Go.Operand.tmp 12), type := 3, pos := "law.go:84", after := #[{ on := 4, ground := Go.Ground.guard }], guard := some (4, false) }) (v := .int .i64 (xi : Int)) rfl (by kernel_rfl) (by kernel_rfl) (by kernel_rfl) (by kernel_rfl) (fun _ _ _ h => h) (by intro w; first | rfl | (simp [Oper.about, resolve, Target.leads]; done)) (Or.inl ⟨by rfl, ?hyis5⟩) hS ?_
    case hyis5 => (rintro V ⟨s1, s2, s3, s4, s5⟩; go_simp; try with_reducible rfl)
    try simp only [Act.put, List.setIfInBounds_toArray, List.set_cons_zero, List.set_cons_succ]
    refine wpAnyY_take (i := 6) (oi := { dst := some 45, op := Go.Op.load 81 (Go.Operand.tmp 9), type := 81, pos := "law.go:84", after := #[{ on := 4, ground := Go.Ground.guard }], guard := some (4, false) }) (v := .slice (some a) R.length cv) rfl (by kernel_rfl) (by kernel_rfl) (by kernel_rfl) (by kernel_rfl) (fun _ _ _ h => h) (by intro w; first | rfl | (simp [Oper.about, resolve, Target.leads]; done)) (Or.inl ⟨by rfl, ?hyis6⟩) hS ?_
    case hyis6 => (rintro V ⟨s1, s2, s3, s4, s5⟩; go_simp; try with_reducible rfl)
    try simp only [Act.put, List.setIfInBounds_toArray, List.set_cons_zero, List.set_cons_succ]
    refine wpAnyY_take (i := 7) (oi := { dst := some 46, op := Go.Op.load 3 (Go.Operand.tmp 11), type := 3, pos := "law.go:84", after := #[{ on := 4, ground := Go.Ground.guard }], guard := some (4, false) }) (v := .int .i64 (pre.length : Int)) rfl (by kernel_rfl) (by kernel_rfl) (by kernel_rfl) (by kernel_rfl) (fun _ _ _ h => h) (by intro w; first | rfl | (simp [Oper.about, resolve, Target.leads]; done)) (Or.inl ⟨by rfl, ?hyis7⟩) hS ?_
    case hyis7 => (rintro V ⟨s1, s2, s3, s4, s5⟩; go_simp; try with_reducible rfl)
    try simp only [Act.put, List.setIfInBounds_toArray, List.set_cons_zero, List.set_cons_succ]
    refine wpAnyY_take (i := 8) (oi := { dst := some 47, op := Go.Op.indexAddr 81 (Go.Operand.tmp 45) (Go.Operand.tmp 46), type := 0, pos := "law.go:84", after := #[{ on := 6, ground := Go.Ground.data }, { on := 7, ground := Go.Ground.data }, { on := 4, ground := Go.Ground.guard }], guard := some (4, false) }) (v := .pointer (some (a.add (pre.length * 2)))) rfl (by kernel_rfl) (by kernel_rfl) (by kernel_rfl) (by kernel_rfl) (fun _ _ _ h => h) (by intro w; first | rfl | (simp [Oper.about, resolve, Target.leads]; done)) (Or.inl ⟨by rfl, ?hyis8⟩) hS ?_
    case hyis8 => (rintro V ⟨s1, s2, s3, s4, s5⟩; go_simp; try with_reducible rfl)
    try simp only [Act.put, List.setIfInBounds_toArray, List.set_cons_zero, List.set_cons_succ]
    refine wpAnyY_take (i := 9) (oi := { dst := some 48, op := Go.Op.fieldAddr 84 (Go.Operand.tmp 47) 0, type := 0, pos := "law.go:84", after := #[{ on := 8, ground := Go.Ground.data }, { on := 4, ground := Go.Ground.guard }], guard := some (4, false) }) (v := .pointer (some (a.add (pre.length * 2)))) rfl (by kernel_rfl) (by kernel_rfl) (by kernel_rfl) (by kernel_rfl) (fun _ _ _ h => h) (by intro w; first | rfl | (simp [Oper.about, resolve, Target.leads]; done)) (Or.inl ⟨by rfl, ?hyis9⟩) hS ?_
    case hyis9 => (rintro V ⟨s1, s2, s3, s4, s5⟩; go_simp; try with_reducible rfl)
    try simp only [Act.put, List.setIfInBounds_toArray, List.set_cons_zero, List.set_cons_succ]
    refine wpAnyY_take (i := 10) (oi := { dst := some 49, op := Go.Op.load 3 (Go.Operand.tmp 48), type := 3, pos := "law.go:84", after := #[{ on := 9, ground := Go.Ground.data }, { on := 4, ground := Go.Ground.guard }], guard := some (4, false) }) (v := .int .i64 (xi : Int)) rfl (by kernel_rfl) (by kernel_rfl) (by kernel_rfl) (by kernel_rfl) (fun _ _ _ h => h) (by intro w; first | rfl | (simp [Oper.about, resolve, Target.leads]; done)) (Or.inl ⟨by rfl, ?hyis10⟩) hS ?_
    case hyis10 => (rintro V ⟨s1, s2, s3, s4, s5⟩; go_simp; try with_reducible rfl)
    try simp only [Act.put, List.setIfInBounds_toArray, List.set_cons_zero, List.set_cons_succ]
    refine wpAnyY_take (i := 11) (oi := { dst := some 50, op := Go.Op.binOp Go.BinOp.neq 3 (Go.Operand.tmp 44) (Go.Operand.tmp 49) 3, type := 4, pos := "law.go:84", after := #[{ on := 5, ground := Go.Ground.data }, { on := 10, ground := Go.Ground.data }, { on := 4, ground := Go.Ground.guard }], guard := some (4, false) }) (v := .bool false) rfl (by kernel_rfl) (by kernel_rfl) (by kernel_rfl) (by kernel_rfl) (fun _ _ _ h => h) (by intro w; first | rfl | (simp [Oper.about, resolve, Target.leads]; done)) (Or.inl ⟨by rfl, ?hyis11⟩) hS ?_
    case hyis11 => (rintro V ⟨s1, s2, s3, s4, s5⟩; go_simp; try with_reducible rfl)
    try simp only [Act.put, List.setIfInBounds_toArray, List.set_cons_zero, List.set_cons_succ]
    refine wpAnyY_take (i := 12) (oi := { dst := some 51, op := Go.Op.pick (Go.Operand.tmp 43) (Go.Operand.const (Go.Value.bool true)) (Go.Operand.tmp 50), type := 4, pos := "law.go:84", after := #[{ on := 4, ground := Go.Ground.data }, { on := 11, ground := Go.Ground.data }], guard := none }) (v := .bool false) rfl (by kernel_rfl) (by kernel_rfl) (by kernel_rfl) (by kernel_rfl) (fun _ _ _ h => h) (by intro w; first | rfl | (simp [Oper.about, resolve, Target.leads]; done)) (Or.inl ⟨by rfl, ?hyis12⟩) hS ?_
    case hyis12 => (rintro V ⟨s1, s2, s3, s4, s5⟩; go_simp; try with_reducible rfl)
    try simp only [Act.put, List.setIfInBounds_toArray, List.set_cons_zero, List.set_cons_succ]
    refine wpAnyY_take (i := 13) (oi := { dst := some 52, op := Go.Op.move (Go.Operand.tmp 51), type := 4, pos := "law.go:84", after := #[{ on := 12, ground := Go.Ground.data }, { on := 4, ground := Go.Ground.chain }], guard := none }) (v := .bool false) rfl (by kernel_rfl) (by kernel_rfl) (by kernel_rfl) (by kernel_rfl) (fun _ _ _ h => h) (by intro w; first | rfl | (simp [Oper.about, resolve, Target.leads]; done)) (Or.inl ⟨by rfl, ?hyis13⟩) hS ?_
    case hyis13 => (rintro V ⟨s1, s2, s3, s4, s5⟩; go_simp; try with_reducible rfl)
    try simp only [Act.put, List.setIfInBounds_toArray, List.set_cons_zero, List.set_cons_succ]
    refine wpAnyY_take (i := 14) (oi := { dst := some 53, op := Go.Op.move (Go.Operand.tmp 13), type := 43, pos := "law.go:84", after := #[{ on := 13, ground := Go.Ground.guard }], guard := some (13, false) }) (v := xv) rfl (by kernel_rfl) (by kernel_rfl) (by kernel_rfl) (by kernel_rfl) (fun _ _ _ h => h) (by intro w; first | rfl | (simp [Oper.about, resolve, Target.leads]; done)) (Or.inl ⟨by rfl, ?hyis14⟩) hS ?_
    case hyis14 => (rintro V ⟨s1, s2, s3, s4, s5⟩; go_simp; try with_reducible rfl)
    try simp only [Act.put, List.setIfInBounds_toArray, List.set_cons_zero, List.set_cons_succ]
    refine wpAnyY_take (i := 15) (oi := { dst := some 54, op := Go.Op.convert 43 9 (Go.Operand.tmp 53), type := 9, pos := "law.go:84", after := #[{ on := 14, ground := Go.Ground.data }, { on := 13, ground := Go.Ground.guard }], guard := some (13, false) }) (v := .string ⟨xb.toArray⟩) rfl (by kernel_rfl) (by kernel_rfl) (by kernel_rfl) (by kernel_rfl) (fun _ _ _ h => h) (by intro w; first | rfl | (simp [Oper.about, resolve, Target.leads]; done)) (Or.inl ⟨by rfl, ?hyis15⟩) hS ?_
    case hyis15 => (rintro V ⟨s1, s2, s3, s4, s5⟩; go_simp; try with_reducible rfl)
    try simp only [Act.put, List.setIfInBounds_toArray, List.set_cons_zero, List.set_cons_succ]
    refine wpAnyY_take (i := 16) (oi := { dst := some 55, op := Go.Op.load 81 (Go.Operand.tmp 9), type := 81, pos := "law.go:84", after := #[{ on := 13, ground := Go.Ground.guard }], guard := some (13, false) }) (v := .slice (some a) R.length cv) rfl (by kernel_rfl) (by kernel_rfl) (by kernel_rfl) (by kernel_rfl) (fun _ _ _ h => h) (by intro w; first | rfl | (simp [Oper.about, resolve, Target.leads]; done)) (Or.inl ⟨by rfl, ?hyis16⟩) hS ?_
    case hyis16 => (rintro V ⟨s1, s2, s3, s4, s5⟩; go_simp; try with_reducible rfl)
    try simp only [Act.put, List.setIfInBounds_toArray, List.set_cons_zero, List.set_cons_succ]
    refine wpAnyY_take (i := 17) (oi := { dst := some 56, op := Go.Op.load 3 (Go.Operand.tmp 11), type := 3, pos := "law.go:84", after := #[{ on := 13, ground := Go.Ground.guard }], guard := some (13, false) }) (v := .int .i64 (pre.length : Int)) rfl (by kernel_rfl) (by kernel_rfl) (by kernel_rfl) (by kernel_rfl) (fun _ _ _ h => h) (by intro w; first | rfl | (simp [Oper.about, resolve, Target.leads]; done)) (Or.inl ⟨by rfl, ?hyis17⟩) hS ?_
    case hyis17 => (rintro V ⟨s1, s2, s3, s4, s5⟩; go_simp; try with_reducible rfl)
    try simp only [Act.put, List.setIfInBounds_toArray, List.set_cons_zero, List.set_cons_succ]
    refine wpAnyY_take (i := 18) (oi := { dst := some 57, op := Go.Op.indexAddr 81 (Go.Operand.tmp 55) (Go.Operand.tmp 56), type := 0, pos := "law.go:84", after := #[{ on := 16, ground := Go.Ground.data }, { on := 17, ground := Go.Ground.data }, { on := 13, ground := Go.Ground.guard }], guard := some (13, false) }) (v := .pointer (some (a.add (pre.length * 2)))) rfl (by kernel_rfl) (by kernel_rfl) (by kernel_rfl) (by kernel_rfl) (fun _ _ _ h => h) (by intro w; first | rfl | (simp [Oper.about, resolve, Target.leads]; done)) (Or.inl ⟨by rfl, ?hyis18⟩) hS ?_
    case hyis18 => (rintro V ⟨s1, s2, s3, s4, s5⟩; go_simp; try with_reducible rfl)
    try simp only [Act.put, List.setIfInBounds_toArray, List.set_cons_zero, List.set_cons_succ]
    refine wpAnyY_take (i := 19) (oi := { dst := some 58, op := Go.Op.fieldAddr 84 (Go.Operand.tmp 57) 1, type := 0, pos := "law.go:84", after := #[{ on := 18, ground := Go.Ground.data }, { on := 13, ground := Go.Ground.guard }], guard := some (13, false) }) (v := .pointer (some ⟨(a.add (pre.length * 2)).block, (a.add (pre.length * 2)).off + 1, none⟩)) rfl (by kernel_rfl) (by kernel_rfl) (by kernel_rfl) (by kernel_rfl) (fun _ _ _ h => h) (by intro w; first | rfl | (simp [Oper.about, resolve, Target.leads]; done)) (Or.inl ⟨by rfl, ?hyis19⟩) hS ?_
    case hyis19 => (rintro V ⟨s1, s2, s3, s4, s5⟩; go_simp; try with_reducible rfl)
    try simp only [Act.put, List.setIfInBounds_toArray, List.set_cons_zero, List.set_cons_succ]
    refine wpAnyY_take (i := 20) (oi := { dst := some 59, op := Go.Op.load 9 (Go.Operand.tmp 58), type := 9, pos := "law.go:84", after := #[{ on := 19, ground := Go.Ground.data }, { on := 13, ground := Go.Ground.guard }], guard := some (13, false) }) (v := .string ⟨xb.toArray⟩) rfl (by kernel_rfl) (by kernel_rfl) (by kernel_rfl) (by kernel_rfl) (fun _ _ _ h => h) (by intro w; first | rfl | (simp [Oper.about, resolve, Target.leads]; done)) (Or.inl ⟨by rfl, ?hyis20⟩) hS ?_
    case hyis20 => (rintro V ⟨s1, s2, s3, s4, s5⟩; go_simp; try with_reducible rfl)
    try simp only [Act.put, List.setIfInBounds_toArray, List.set_cons_zero, List.set_cons_succ]
    refine wpAnyY_take (i := 21) (oi := { dst := some 60, op := Go.Op.binOp Go.BinOp.neq 9 (Go.Operand.tmp 54) (Go.Operand.tmp 59) 9, type := 4, pos := "law.go:84", after := #[{ on := 15, ground := Go.Ground.data }, { on := 20, ground := Go.Ground.data }, { on := 13, ground := Go.Ground.guard }], guard := some (13, false) }) (v := .bool false) rfl (by kernel_rfl) (by kernel_rfl) (by kernel_rfl) (by kernel_rfl) (fun _ _ _ h => h) (by intro w; first | rfl | (simp [Oper.about, resolve, Target.leads]; done)) (Or.inl ⟨by rfl, ?hyis21⟩) hS ?_
    case hyis21 => (rintro V ⟨s1, s2, s3, s4, s5⟩; go_simp; try with_reducible rfl)
    try simp only [Act.put, List.setIfInBounds_toArray, List.set_cons_zero, List.set_cons_succ]
    refine wpAnyY_take (i := 22) (oi := { dst := some 61, op := Go.Op.pick (Go.Operand.tmp 52) (Go.Operand.const (Go.Value.bool true)) (Go.Operand.tmp 60), type := 4, pos := "law.go:84", after := #[{ on := 13, ground := Go.Ground.data }, { on := 21, ground := Go.Ground.data }], guard := none }) (v := .bool false) rfl (by kernel_rfl) (by kernel_rfl) (by kernel_rfl) (by kernel_rfl) (fun _ _ _ h => h) (by intro w; first | rfl | (simp [Oper.about, resolve, Target.leads]; done)) (Or.inl ⟨by rfl, ?hyis22⟩) hS ?_
    case hyis22 => (rintro V ⟨s1, s2, s3, s4, s5⟩; go_simp; try with_reducible rfl)
    try simp only [Act.put, List.setIfInBounds_toArray, List.set_cons_zero, List.set_cons_succ]
    refine wpAnyY_done (by kernel_rfl) ?_ _
    have hKS : Hid (∀ u, Keep w7.heap.size (fun k => k < w4.heap.size) V (Vd.setCell ⟨w6.heap.size, 0, none⟩ u)) := Lib.hid fun u => HKV.out.setCell (p := ⟨w6.heap.size, 0, none⟩) (by show w6.heap.size < w7.heap.size; omega) (fun h => by simp at h; omega) _
    rw [hz7] at hKS
    have HLEN : Hid ((pre ++ [((xv, xi, xb) : Value × (Nat × List UInt8))]).length = pre.length + 1) := Lib.hid (by simp)
    by_cases hmb : many ≤ (pre.length : Int) + 1
    · gi_wp2_with fail
      first | (refine ⟨hKS.out _, rfl, by rw [HLEN.out]; exact HIJ.out.next _ _ (by omega), by rw [HLEN.out]; omega, by rw [HLEN.out]; omega, by rw [HLEN.out]; rcases HQ.out with h | h; (· left; rw [h]; rfl); (· right; omega)⟩) | (rw [hz7]; refine ⟨hKS.out _, rfl, by rw [HLEN.out]; exact HIJ.out.next _ _ (by omega), by rw [HLEN.out]; omega, by rw [HLEN.out]; omega, by rw [HLEN.out]; rcases HQ.out with h | h; (· left; rw [h]; rfl); (· right; omega)⟩)
    · gi_wp2_with fail
      first | exact ⟨hKS.out _, by rw [HLEN.out]; exact HIJ.out.next _ _ (by omega), .inr (by rw [HLEN.out]; omega)⟩ | (rw [hz7]; exact ⟨hKS.out _, by rw [HLEN.out]; exact HIJ.out.next _ _ (by omega), .inr (by rw [HLEN.out]; omega)⟩)
  case done =>
    rintro xs V hxs ⟨hij, hq⟩ hD
    have hxl : xs.length = R.length := by rw [← hxs, List.length_map]
    rw [hxl] at hij
    have hq2 : R.length = 0 ∨ (R.length : Int) < many := by rcases hq with h | h; (· left; subst h; simpa using hxl.symm); (· right; omega)
    obtain ⟨k1, k2, k3, k4, k5, k6⟩ := HALL.out V hij.b
    have hN := hij.n
    obtain ⟨M, hM⟩ : ∃ M, max (1 : Int) many = M := ⟨_, rfl⟩
    have hmn : min (R.length : Int) M = R.length := by omega
    have HD := Lib.hid hD
    have HB := Lib.hid k6
    clear hq hxs hq2 hij k5 k6
    go_wp2_with fail
    have hne5 : w7.heap.size ≠ W.heap.size + 1 + 1 := by omega
    have hD' : (V.setCell ⟨W.heap.size + 1 + 1, 0, none⟩ (.bool true)).heap[w7.heap.size]? = some (.deferred (some [])) := (Below.heap_setCell _ _ _ _ hne5).trans HD.out
    rw [hz7] at hD'
    have kc := cell_putL (World.cell?_setCell_same' V ⟨W.heap.size + 1 + 1, 0, none⟩ (.bool true) (by rw [k3]; rfl)) hD' (.deferred none)
    refine ⟨by simp, .inl ⟨_, _, rfl, run_takeDeferred hD', ?_⟩⟩
    exact ⟨.bool true, by simp [results, Tryz.results13, go_sem, kc], rfl, below_putL (HB.out.setCell (p := ⟨W.heap.size + 1 + 1, 0, none⟩) (by show W.heap.size ≤ W.heap.size + 1 + 1; omega) _) (by omega) _⟩
  case stop =>
    rintro c pre V hsp ⟨rfl, hij, h1, h2, h3⟩ hD
    have hple : pre.length ≤ R.length := by
      have := hsp.length_le
      simpa using this
    obtain ⟨k1, k2, k3, k4, k5, k6⟩ := HALL.out V hij.b
    have hN := hij.n
    obtain ⟨M, hM⟩ : ∃ M, max (1 : Int) many = M := ⟨_, rfl⟩
    have hmn : min (R.length : Int) M = pre.length := by omega
    have HD := Lib.hid hD
    have HB := Lib.hid k6
    clear h1 h2 h3 hij k5 k6
    refine wpIn_wide.2 ?_
    go_wp2_with fail
    have hne5 : w7.heap.size ≠ W.heap.size + 1 + 1 := by omega
    have hD' : (V.setCell ⟨W.heap.size + 1 + 1, 0, none⟩ (.bool true)).heap[w7.heap.size]? = some (.deferred (some [])) := (Below.heap_setCell _ _ _ _ hne5).trans HD.out
    rw [hz7] at hD'
    have kc := cell_putL (World.cell?_setCell_same' V ⟨W.heap.size + 1 + 1, 0, none⟩ (.bool true) (by rw [k3]; rfl)) hD' (.deferred none)
    refine ⟨by simp, .inl ⟨_, _, rfl, run_takeDeferred hD', ?_⟩⟩
    exact ⟨.bool true, by simp [results, Tryz.results13, go_sem, kc], rfl, below_putL (HB.out.setCell (p := ⟨W.heap.size + 1 + 1, 0, none⟩) (by show W.heap.size ≤ W.heap.size + 1 + 1; omega) _) (by omega) _⟩
end Go.Proofs.YtbhgcioeibhjeaaGreatDoor
