/-
  swingbridgelaw10.told.
-/
import Derived.Test.YtbhgcioeibhjeaaDoorLEach
import Derived.Test.YtbhgcioeibhjeaaDoorWaitY
namespace Go.Proofs.YtbhgcioeibhjeaaDoor
open Go.RowKit Go.Shelf
attribute [local go_sem] Oper.semAt_some

def bsR (R : List (Nat × List UInt8)) : List (List UInt8) := R.map (·.2)
def bsT (pre : List (Value × (Nat × List UInt8))) : List (List UInt8) := pre.map (·.2.2)
theorem bsT_R {xs : List (Value × (Nat × List UInt8))} {R : List (Nat × List UInt8)} (h : xs.map (·.2) = R) : bsT xs = bsR R := by
  subst h
  simp [bsT, bsR]
def toldV (R : List (Nat × List UInt8)) (L : List (List UInt8)) : Value := if bsR R <+: L then .tuple #[.int .i64 (R.length : Nat), .bool true] else .tuple #[.int .i64 0, .bool false]
theorem toldV_yes {R : List (Nat × List UInt8)} {L : List (List UInt8)} (h : bsR R <+: L) : toldV R L = .tuple #[.int .i64 (R.length : Nat), .bool true] := if_pos h
theorem toldV_no {R : List (Nat × List UInt8)} {L : List (List UInt8)} (h : ¬ bsR R <+: L) : toldV R L = .tuple #[.int .i64 0, .bool false] := if_neg h
/-- rows of bytes in a slice of slices -/
def RowsB (W : World) (ol : Option Addr) (L : List (List UInt8)) : Prop := ∀ (j : Nat) (h : j < L.length), ∃ a v, ol = some a ∧ W.cell? (a.add j) = some v ∧ BtAt W v L[j]
theorem RowsB.keep {W W' : World} {ol : Option Addr} {L : List (List UInt8)} (h : RowsB W ol L) (hb : Below W.heap.size W W') : RowsB W' ol L := fun j hj => by
  obtain ⟨a, v, h1, h2, h3⟩ := h j hj
  exact ⟨a, v, h1, (hb.cell (World.block_lt_of_cell? W _ h2)).trans h2, h3.keep hb⟩
/-- what lies in memory while told goes over the records -/
structure TI (W : World) (B T n : Nat) (lv : Value) (rn : Int) (ok : Bool) (V : World) : Prop where
  l : V.cell? ⟨B, 0, none⟩ = some lv
  r : V.cell? ⟨B + 1, 0, none⟩ = some (.int .i64 rn)
  rf : V.frozen? ⟨B + 1, 0, none⟩ = false
  o : V.cell? ⟨B + 1 + 1, 0, none⟩ = some (.bool ok)
  of : V.frozen? ⟨B + 1 + 1, 0, none⟩ = false
  n : V.cell? ⟨T, 0, none⟩ = some (.int .i64 n)
  nf : V.frozen? ⟨T, 0, none⟩ = false
  b : Below W.heap.size W V
/-- its first three boxes -/
structure TB (W : World) (B : Nat) (lv : Value) (rn : Int) (ok : Bool) (V : World) : Prop where
  l : V.cell? ⟨B, 0, none⟩ = some lv
  r : V.cell? ⟨B + 1, 0, none⟩ = some (.int .i64 rn)
  rf : V.frozen? ⟨B + 1, 0, none⟩ = false
  o : V.cell? ⟨B + 1 + 1, 0, none⟩ = some (.bool ok)
  of : V.frozen? ⟨B + 1 + 1, 0, none⟩ = false
  b : Below W.heap.size W V
theorem TB.below {W : World} {B N : Nat} {lv : Value} {rn : Int} {ok : Bool} {V V' : World} (h : TB W B lv rn ok V) (hb : Below N V V') (hN : B + 3 ≤ N) (hW : W.heap.size ≤ B := by omega) : TB W B lv rn ok V' :=
  ⟨(hb.cell (by show B < N; omega)).trans h.l, (hb.cell (by show B + 1 < N; omega)).trans h.r, (hb.frozen (by show B + 1 < N; omega)).trans h.rf, (hb.cell (by show B + 1 + 1 < N; omega)).trans h.o, (hb.frozen (by show B + 1 + 1 < N; omega)).trans h.of, h.b.trans (hb.mono (by omega))⟩
theorem TI.boxes (W : World) (lv : Value) (T1 T2 T3 : TypeId) (hlv : lv.cells = #[lv] := by rfl) : TB W W.heap.size lv 0 false (((W.alloc (.cells #[lv] T1)).alloc (.cells #[.int .i64 0] T2)).alloc (.cells #[.bool false] T3)) := by
  have h0 : (((W.alloc (.cells #[lv] T1)).alloc (.cells #[.int .i64 0] T2)).alloc (.cells #[.bool false] T3)).heap[W.heap.size]? = some (.cells #[lv] T1 (0, 0)) :=
    (Below.heap_alloc _ _ _ (by simp; omega)).trans ((Below.heap_alloc _ _ _ (by simp)).trans (heap_alloc_at W _))
  have h1 : (((W.alloc (.cells #[lv] T1)).alloc (.cells #[.int .i64 0] T2)).alloc (.cells #[.bool false] T3)).heap[W.heap.size + 1]? = some (.cells #[.int .i64 0] T2 (0, 0)) := by
    have h := heap_alloc_at (W.alloc (.cells #[lv] T1)) (.cells #[.int .i64 0] T2)
    rw [World.size_alloc] at h
    exact (Below.heap_alloc _ _ _ (by simp)).trans h
  have h2 : (((W.alloc (.cells #[lv] T1)).alloc (.cells #[.int .i64 0] T2)).alloc (.cells #[.bool false] T3)).heap[W.heap.size + 1 + 1]? = some (.cells #[.bool false] T3 (0, 0)) := by
    have h := heap_alloc_at ((W.alloc (.cells #[lv] T1)).alloc (.cells #[.int .i64 0] T2)) (.cells #[.bool false] T3)
    rw [World.size_alloc, World.size_alloc] at h
    exact h
  exact ⟨by simp only [World.cell?]; rw [h0]; rfl, by simp only [World.cell?]; rw [h1]; rfl, by simp only [World.frozen?]; rw [h1]; rfl, by simp only [World.cell?]; rw [h2]; rfl, by simp only [World.frozen?]; rw [h2]; rfl,
    (((Below.refl _ W).alloc (Nat.le_refl _) _).alloc (by simp) _).alloc (by simp; omega) _⟩
theorem notpre_len {pre : List (Value × (Nat × List UInt8))} {x : Value × (Nat × List UInt8)} {R : List (Nat × List UInt8)} {L : List (List UInt8)} (h : (pre ++ [x]).map (·.2) <+: R) (hn : L.length ≤ pre.length) : ¬ bsR R <+: L := fun hp => by
  have h1 := h.length_le
  have h2 := hp.length_le
  simp [bsR] at h1 h2
  omega
theorem notpre_ne {pre : List (Value × (Nat × List UInt8))} {x : Value × (Nat × List UInt8)} {R : List (Nat × List UInt8)} {L : List (List UInt8)} (h : (pre ++ [x]).map (·.2) <+: R) (hn : pre.length < L.length) (hne : x.2.2 ≠ L[pre.length]) : ¬ bsR R <+: L := fun hp => by
  obtain ⟨q, rfl⟩ := h
  obtain ⟨r, rfl⟩ := hp
  apply hne
  simp [bsR]
theorem pre_nextL {pre : List (Value × (Nat × List UInt8))} {x : Value × (Nat × List UInt8)} {L : List (List UInt8)} (h : bsT pre <+: L) (hn : pre.length < L.length) (he : x.2.2 = L[pre.length]) : bsT (pre ++ [x]) <+: L := by
  rw [List.prefix_iff_eq_take] at h ⊢
  unfold bsT at h ⊢
  rw [List.map_append, List.map_singleton, List.length_append, List.length_map, List.length_singleton, List.take_succ_eq_append_getElem hn, he]
  rw [List.length_map] at h
  rw [← h]
theorem TI.tb {W : World} {B T n : Nat} {lv : Value} {rn : Int} {ok : Bool} {V : World} (h : TI W B T n lv rn ok V) : TB W B lv rn ok V := ⟨h.l, h.r, h.rf, h.o, h.of, h.b⟩
theorem TI.below {W : World} {B T n N : Nat} {lv : Value} {rn : Int} {ok : Bool} {V V' : World} (h : TI W B T n lv rn ok V) (hb : Below N V V') (hN : B + 3 ≤ N) (hT : T < N) (hW : W.heap.size ≤ B := by omega) : TI W B T n lv rn ok V' := by
  obtain ⟨a, b, c, d, e, g⟩ := h.tb.below hb hN hW
  exact ⟨a, b, c, d, e, (hb.cell (by exact hT)).trans h.n, (hb.frozen (by exact hT)).trans h.nf, g⟩
theorem TI.next {W : World} {B T n : Nat} {lv : Value} {rn : Int} {ok : Bool} {V : World} (h : TI W B T n lv rn ok V) (hT : B + 3 ≤ T) (hW : W.heap.size ≤ B) (m : Int) (k : Nat) (hm : m = k) : TI W B T k lv rn ok (V.setCell ⟨T, 0, none⟩ (.int .i64 m)) := by
  subst hm
  have nn : ∀ j, j < B + 3 → (⟨T, 0, none⟩ : Addr) ≠ ⟨j, 0, none⟩ := fun j hj e => by have h := congrArg Addr.block e; simp at h; omega
  exact ⟨(World.cell?_setCell_other _ _ _ _ (nn B (by omega))).trans h.l, (World.cell?_setCell_other _ _ _ _ (nn (B + 1) (by omega))).trans h.r, (World.frozen?_setCell _ _ _ _).trans h.rf, (World.cell?_setCell_other _ _ _ _ (nn (B + 1 + 1) (by omega))).trans h.o, (World.frozen?_setCell _ _ _ _).trans h.of, World.cell?_setCell_same' _ _ _ (by rw [h.n]; rfl), (World.frozen?_setCell _ _ _ _).trans h.nf, h.b.setCell (p := ⟨T, 0, none⟩) (by show W.heap.size ≤ T; omega) _⟩
theorem TI.ends {W : World} {B T n : Nat} {lv : Value} {rn : Int} {ok : Bool} {V : World} (h : TI W B T n lv rn ok V) (hT : B + 3 ≤ T) (hW : W.heap.size ≤ B) (m : Int) (ok' : Bool) : TI W B T n lv m ok' ((V.setCell ⟨B + 1, 0, none⟩ (.int .i64 m)).setCell ⟨B + 1 + 1, 0, none⟩ (.bool ok')) := by
  have n1 : (⟨B + 1, 0, none⟩ : Addr) ≠ ⟨B + 1 + 1, 0, none⟩ := fun e => by simp at e
  have m0 : (⟨B + 1, 0, none⟩ : Addr) ≠ ⟨B, 0, none⟩ := fun e => by simp at e
  have m1 : (⟨B + 1 + 1, 0, none⟩ : Addr) ≠ ⟨B, 0, none⟩ := fun e => by simp at e
  have t0 : (⟨B + 1, 0, none⟩ : Addr) ≠ ⟨T, 0, none⟩ := fun e => by have h := congrArg Addr.block e; simp at h; omega
  have t1 : (⟨B + 1 + 1, 0, none⟩ : Addr) ≠ ⟨T, 0, none⟩ := fun e => by have h := congrArg Addr.block e; simp at h; omega
  have ff : ∀ a, ((V.setCell ⟨B + 1, 0, none⟩ (.int .i64 m)).setCell ⟨B + 1 + 1, 0, none⟩ (.bool ok')).frozen? a = V.frozen? a := fun a => by rw [World.frozen?_setCell, World.frozen?_setCell]
  refine ⟨?_, ?_, (ff _).trans h.rf, ?_, (ff _).trans h.of, ?_, (ff _).trans h.nf, (h.b.setCell (p := ⟨B + 1, 0, none⟩) (by show W.heap.size ≤ B + 1; omega) _).setCell (p := ⟨B + 1 + 1, 0, none⟩) (by show W.heap.size ≤ B + 1 + 1; omega) _⟩
  · rw [World.cell?_setCell_other _ _ _ _ m1, World.cell?_setCell_other _ _ _ _ m0]
    exact h.l
  · rw [World.cell?_setCell_other _ _ _ _ n1.symm]
    exact World.cell?_setCell_same' _ _ _ (by rw [h.r]; rfl)
  · exact World.cell?_setCell_same' _ _ _ (by rw [World.cell?_setCell_other _ _ _ _ n1, h.o]; rfl)
  · rw [World.cell?_setCell_other _ _ _ _ t1, World.cell?_setCell_other _ _ _ _ t0]
    exact h.n
theorem cell_loop {V : World} {a : Addr} {v : Value} {k : Nat} {r : Loop} (h : V.cell? a = some v) (hD : V.heap[k]? = some (.loop r)) (o : Obj) : (V.putObj k o).cell? a = some v := by
  have hne : a.block ≠ k := fun e => by
    simp only [World.cell?, e, hD] at h
    cases h
  rw [World.cell?_of_block (World.putObj_heap_other hne)]
  exact h
theorem BtAt.loop {V : World} {v : Value} {b : List UInt8} {k : Nat} {r : Loop} (h : BtAt V v b) (hD : V.heap[k]? = some (.loop r)) (o : Obj) : BtAt (V.putObj k o) v b := by
  obtain ⟨oa, cap, e, hc⟩ := h
  refine ⟨oa, cap, e, fun j hj => ?_⟩
  obtain ⟨a, ha, hcell⟩ := hc j hj
  exact ⟨a, ha, cell_loop hcell hD o⟩
set_option maxRecDepth 100000 in
set_option maxHeartbeats 4000000 in
theorem told_any {N : Nat} {W : World} {Φ : Nat → Prop} {q p : Nat} {D : Dk} {e t : Int} {f : Nat} (hD : DkAt N W Φ p D) (hi : D.Inv) (hlog : LogC W q p f e t) (hf : f < 64) (L : List (List UInt8)) (ol : Option Addr) (cl : Nat) (hrow : RowsB W ol L) (hL : L.length ≤ 1000) :
    Calls Tryd.prog 15 #[.pointer (some ⟨q, 0, none⟩), .slice ol L.length cl] W fun x W' => x = .returned (toldV (RL (D.F f) 0) L) ∧ Below W.heap.size W W' := by
  have hq : ∀ (g : Fn) (a b : Array Value) (V : World), (binOp .eql 78 (.func g a b) .nilFunc).run Tryd.prog V = .ok (.bool false) V := fun _ _ _ _ => rfl
  have HE := Lib.hid (fun V => Each_any q 0 V)
  obtain ⟨lf, hlf⟩ : ∃ lf, D.F f = lf := ⟨_, rfl⟩
  rw [hlf]
  refine (callsIn_wide (n := 8)).1 ?_
  refine callsIn_of_wp_marks Tryd.func15 rfl trivial ?_ rfl
  simp only [Tryd.ntmps15, List.size_toArray, List.length_cons, List.length_nil, Nat.reduceAdd, Nat.reduceSub, Array.replicate_succ, Array.replicate_zero, List.push_toArray, List.append_toArray, List.nil_append, List.cons_append]
  gi_wp2_with fail
  refine ⟨trivial, (callsIn_wide.2 (HE.out _)).mono ?_⟩
  rintro e4 w4 ⟨rfl, hc0, hc1, hb4⟩
  obtain ⟨W3, hW3⟩ : ∃ W3, (((W.alloc (.cells #[.slice ol L.length cl] 40)).alloc (.cells #[.int .i64 0] 3)).alloc (.cells #[.bool false] 4)) = W3 := ⟨_, rfl⟩
  have hz3 : W3.heap.size = W.heap.size + 3 := by rw [← hW3]; simp
  have hti := TI.boxes W (.slice ol L.length cl) 40 3 4
  rw [hW3] at hc0 hc1 hb4 hti ⊢
  rw [hz3] at hc0 hc1 hb4 ⊢
  have HTI4 := Lib.hid (hti.below hb4 (Nat.le_refl _))
  have H4 := Lib.hid (And.intro hc0 (And.intro hc1 hb4))
  clear hc0 hc1 hb4 hti hW3 hz3
  have HR0 := Lib.hid hrow
  have HGV : Hid (∀ V : World, w4.heap.size ≤ V.heap.size → (∀ k, (k < W.heap.size ∨ k = W.heap.size + 3 ∨ k = W.heap.size + 3 + 1) → V.heap[k]? = w4.heap[k]?) → Calls Tryd.prog 53 #[.pointer (some ⟨q, 0, none⟩)] V (OctP lf V)) := Lib.hid fun V hs hk => by
    rw [← hlf]
    have hold : ∀ k, k < W.heap.size → V.heap[k]? = W.heap[k]? := fun k hk' => (hk k (.inl hk')).trans (HTI4.out.b.block k hk')
    obtain ⟨mf, ms, V1, U, lv, B, h1⟩ := hD
    have hs4 := HTI4.out.b.size
    exact loctets_at (N := N) ⟨mf, ms, V1, U, lv, B, h1.keep (by omega) (fun k hp => hold k (h1.lt k hp).2)⟩ hi ((hold q (Array.getElem?_eq_some_iff.1 hlog).1).trans hlog) hf
  have hfl : lf.length ≤ 100000000 := by
    rw [← hlf]
    have h1 := len_le_sum D.F f hf
    have h2 := hi.sum
    have h3 := hi.room
    omega
  have hz4 : W.heap.size + 5 ≤ w4.heap.size := by
    have := World.block_lt_of_cell? w4 _ H4.out.1
    simp at this
    omega
  clear hD hi hlog hf hrow hlf
  gi_wp2_with fail
  obtain ⟨w5, hw5⟩ : ∃ w5, w4.alloc (.cells #[.int .i64 0] 3) = w5 := ⟨_, rfl⟩
  have hb5 : Below w4.heap.size w4 w5 := by rw [← hw5]; exact (Below.refl _ w4).alloc (Nat.le_refl _) _
  have hz5 : w5.heap.size = w4.heap.size + 1 := by rw [← hw5]; simp
  have hblk : w5.heap[w4.heap.size]? = some (.cells #[.int .i64 0] 3 (0, 0)) := by rw [← hw5]; exact heap_alloc_at w4 _
  have htb5 := HTI4.out.below hb5 (by omega)
  have HTI5 : Hid (TI W W.heap.size w4.heap.size 0 (.slice ol L.length cl) 0 false w5) := Lib.hid ⟨htb5.l, htb5.r, htb5.rf, htb5.o, htb5.of, by simp only [World.cell?]; rw [hblk]; rfl, by simp only [World.frozen?]; rw [hblk]; rfl, htb5.b⟩
  have HT := Lib.hid (eachL_turns 7 (by decide) (W.heap.size + 3 + 1) (W.heap.size + 3) q lf 0 w5 ((hb5.cell (by show W.heap.size + 3 + 1 < w4.heap.size; omega)).trans H4.out.1) ((hb5.cell (by show W.heap.size + 3 < w4.heap.size; omega)).trans H4.out.2.1) hfl (Nat.zero_le _) (fun k => k < W.heap.size ∨ k = W.heap.size + 3 ∨ k = W.heap.size + 3 + 1) (fun k hk => by rcases hk with h | h | h <;> omega) (.inr (.inr rfl)) (.inr (.inl rfl))
    (fun V hs hk => HGV.out V (by omega) (fun k hg => (hk k hg).trans (hb5.block k (by rcases hg with h | h | h <;> omega)))))
  rw [hw5]
  clear hb5 hblk htb5 HGV H4 HTI4 hw5
  refine wpIn_turnsF (F := Fence.wide) (G := fun k => k < W.heap.size ∨ k = W.heap.size + 3 ∨ k = W.heap.size + 3 + 1) rfl (by decide) (gf := 52) (lb := #[.pointer (some ⟨W.heap.size + 3 + 1, 0, none⟩), .pointer (some ⟨W.heap.size + 3, 0, none⟩)]) rfl trivial (enters_of Tryd.func52 (by kernel_rfl) rfl)
    HT.out (fun k hk => by rcases hk with h | h | h <;> omega) (fun x => rfl)
    (fun (pre : List (Value × (Nat × List UInt8))) V => TI W W.heap.size w4.heap.size pre.length (.slice ol L.length cl) 0 false V ∧ bsT pre <+: L ∧ w5.heap.size ≤ V.heap.size)
    (fun c (_ : List (Value × (Nat × List UInt8))) V => c = .ret ∧ ¬ bsR (RL lf 0) <+: L ∧ TB W W.heap.size (.slice ol L.length cl) 0 false V)
    (fun s A A' h hb => ⟨h.1.below hb (by omega) (by omega) (Nat.le_refl _), h.2.1, Nat.le_trans h.2.2 hb.size⟩)
    (fun c s A A' h hb => ⟨h.1, h.2.1, h.2.2.below hb (by omega) (Nat.le_refl _)⟩)
    (fun x V l r o h hl => h.loop hl o)
    ⟨HTI5.out, List.nil_prefix, Nat.le_refl _⟩
    (fun x => { tmps := #[.pointer (some ⟨q, 0, none⟩), .slice ol L.length cl, undef, .pointer (some ⟨W.heap.size, 0, none⟩), .pointer (some ⟨W.heap.size + 1, 0, none⟩), .pointer (some ⟨W.heap.size + 1 + 1, 0, none⟩), .func (.func 52) #[] #[.pointer (some ⟨W.heap.size + 3 + 1, 0, none⟩), .pointer (some ⟨W.heap.size + 3, 0, none⟩)], .pointer (some ⟨w4.heap.size, 0, none⟩), undef, x.1, .pointer (some ⟨q, 0, none⟩), .func (.func 52) #[] #[.pointer (some ⟨W.heap.size + 3 + 1, 0, none⟩), .pointer (some ⟨W.heap.size + 3, 0, none⟩)], .func (.func 52) #[] #[.pointer (some ⟨W.heap.size + 3 + 1, 0, none⟩), .pointer (some ⟨W.heap.size + 3, 0, none⟩)], .bool false, .func (.func 52) #[] #[.pointer (some ⟨W.heap.size + 3 + 1, 0, none⟩), .pointer (some ⟨W.heap.size + 3, 0, none⟩)], .int .i64 x.2.1, x.1, undef, undef, undef, undef, undef, undef, undef, undef, undef, undef, undef, undef, undef, undef, undef, undef, undef], defers := [] }) ?assign ?body ?done ?stop
  case assign =>
    intro lp x V K hK
    simp only [encE]
    gi_wp2
    exact hK
  case body =>
    rintro lp pre x V ⟨ht, hp, hsz⟩ hsp hbt hszV
    obtain ⟨xv, xi, xb⟩ := x
    simp only at hbt
    have hrowV := HR0.out.keep ht.b
    have hN : V.drew.cell? ⟨w4.heap.size, 0, none⟩ = some (.int .i64 (pre.length : Nat)) := ht.n
    have hB : V.drew.cell? ⟨W.heap.size, 0, none⟩ = some (.slice ol L.length cl) := ht.l
    have nf : V.drew.frozen? ⟨w4.heap.size, 0, none⟩ = false := ht.nf
    have r1 : V.drew.cell? ⟨W.heap.size + 1, 0, none⟩ = some (.int .i64 0) := ht.r
    have r2 : V.drew.cell? ⟨W.heap.size + 1 + 1, 0, none⟩ = some (.bool false) := ht.o
    have f1 : V.drew.frozen? ⟨W.heap.size + 1, 0, none⟩ = false := ht.rf
    have f2 : V.drew.frozen? ⟨W.heap.size + 1 + 1, 0, none⟩ = false := ht.of
    have hbd : Below V.heap.size V V.drew := (Below.refl _ V).drew
    have hs1 := bt_string (hbt.keep hbd)
    have HTD := Lib.hid (ht.below hbd (by omega) (by omega) (Nat.le_refl _))
    have hKV : Keep w5.heap.size (fun k => k < W.heap.size ∨ k = W.heap.size + 3 ∨ k = W.heap.size + 3 + 1) V V.drew := ⟨Nat.le_refl _, fun _ _ _ => rfl⟩
    have HKV := Lib.hid hKV
    have hszD : w5.heap.size + 2 ≤ V.drew.heap.size := hszV
    have HP := Lib.hid hp
    have HSP := Lib.hid hsp
    dsimp only
    gi_wp2_with fail
    by_cases hn : pre.length < L.length
    · obtain ⟨a, vn, hol, hcn, hbn⟩ := hrowV pre.length hn
      subst hol
      have hs2 := bt_string (hbn.keep hbd)
      have hcn2 : V.drew.cell? (a.add pre.length) = some vn := hcn
      by_cases he : xb = L[pre.length]
      · refine wpIn_region_Y (S := fun V => V.cell? ⟨w4.heap.size, 0, none⟩ = some (.int .i64 (pre.length : Int)) ∧ V.cell? ⟨W.heap.size, 0, none⟩ = some (.slice (some a) L.length cl) ∧ V.cell? (a.add pre.length) = some vn ∧ (convert 22 9 xv).run Tryd.prog V = .ok (.string ⟨xb.toArray⟩) V ∧ (convert 22 9 vn).run Tryd.prog V = .ok (.string ⟨L[pre.length].toArray⟩) V) (by kernel_rfl) ?_
        generalize V.drew = Vd at *
        have hS := And.intro hN (And.intro hB (And.intro hcn2 (And.intro hs1 hs2)))
        refine wpAnyY_take (i := 0) (oi := { dst := some 17, op := Go.Op.load 3 (Go.Operand.tmp 7), type := 3, pos := "law.go:216", after := #[], guard := none }) (v := .int .i64 (pre.length : Int)) rfl (by kernel_rfl) (by kernel_rfl) (by kernel_rfl) (by kernel_rfl) (fun _ _ _ h => h) (by intro w; first | rfl | (simp [Oper.about, resolve, Target.leads]; done)) (Or.inl ⟨by rfl, ?hysame0⟩) hS ?_
        case hysame0 => (rintro V ⟨s1, s2, s3, s4, s5⟩; go_simp; try with_reducible rfl)
        try simp only [Act.put, List.setIfInBounds_toArray, List.set_cons_zero, List.set_cons_succ]
        refine wpAnyY_take (i := 1) (oi := { dst := some 18, op := Go.Op.load 40 (Go.Operand.tmp 3), type := 40, pos := "law.go:216", after := #[], guard := none }) (v := .slice (some a) L.length cl) rfl (by kernel_rfl) (by kernel_rfl) (by kernel_rfl) (by kernel_rfl) (fun _ _ _ h => h) (by intro w; first | rfl | (simp [Oper.about, resolve, Target.leads]; done)) (Or.inl ⟨by rfl, ?hysame1⟩) hS ?_
        case hysame1 => (rintro V ⟨s1, s2, s3, s4, s5⟩; go_simp; try with_reducible rfl)
        try simp only [Act.put, List.setIfInBounds_toArray, List.set_cons_zero, List.set_cons_succ]
        refine wpAnyY_take (i := 2) (oi := { dst := some 19, op := Go.Op.call { callee := Go.Callee.builtin Go.Builtin.len, args := #[Go.Operand.tmp 18], argTypes := #[40] }, type := 3, pos := "law.go:216", after := #[{ on := 1, ground := Go.Ground.data }], guard := none }) (v := .int .i64 (L.length : Int)) rfl (by kernel_rfl) (by kernel_rfl) (by kernel_rfl) (by kernel_rfl) (fun _ _ _ h => h) (by intro w; first | rfl | (simp [Oper.about, resolve, Target.leads]; done)) (Or.inl ⟨by rfl, ?hysame2⟩) hS ?_
        case hysame2 => (rintro V ⟨s1, s2, s3, s4, s5⟩; go_simp; try with_reducible rfl)
        try simp only [Act.put, List.setIfInBounds_toArray, List.set_cons_zero, List.set_cons_succ]
        refine wpAnyY_take (i := 3) (oi := { dst := some 20, op := Go.Op.binOp Go.BinOp.geq 3 (Go.Operand.tmp 17) (Go.Operand.tmp 19) 3, type := 4, pos := "law.go:216", after := #[{ on := 0, ground := Go.Ground.data }, { on := 2, ground := Go.Ground.data }], guard := none }) (v := .bool false) rfl (by kernel_rfl) (by kernel_rfl) (by kernel_rfl) (by kernel_rfl) (fun _ _ _ h => h) (by intro w; first | rfl | (simp [Oper.about, resolve, Target.leads]; done)) (Or.inl ⟨by rfl, ?hysame3⟩) hS ?_
        case hysame3 => (rintro V ⟨s1, s2, s3, s4, s5⟩; go_simp; try with_reducible rfl)
        try simp only [Act.put, List.setIfInBounds_toArray, List.set_cons_zero, List.set_cons_succ]
        refine wpAnyY_take (i := 4) (oi := { dst := some 21, op := Go.Op.move (Go.Operand.tmp 20), type := 4, pos := "law.go:216", after := #[{ on := 3, ground := Go.Ground.data }], guard := none }) (v := .bool false) rfl (by kernel_rfl) (by kernel_rfl) (by kernel_rfl) (by kernel_rfl) (fun _ _ _ h => h) (by intro w; first | rfl | (simp [Oper.about, resolve, Target.leads]; done)) (Or.inl ⟨by rfl, ?hysame4⟩) hS ?_
        case hysame4 => (rintro V ⟨s1, s2, s3, s4, s5⟩; go_simp; try with_reducible rfl)
        try simp only [Act.put, List.setIfInBounds_toArray, List.set_cons_zero, List.set_cons_succ]
        refine wpAnyY_take (i := 5) (oi := { dst := some 22, op := Go.Op.move (Go.Operand.tmp 9), type := 22, pos := "law.go:216", after := #[{ on := 4, ground := Go.Ground.guard }], guard := some (4, false) }) (v := xv) rfl (by kernel_rfl) (by kernel_rfl) (by kernel_rfl) (by kernel_rfl) (fun _ _ _ h => h) (by intro w; first | rfl | (simp [Oper.about, resolve, Target.leads]; done)) (Or.inl ⟨by rfl, ?hysame5⟩) hS ?_
        case hysame5 => (rintro V ⟨s1, s2, s3, s4, s5⟩; go_simp; try with_reducible rfl)
        try simp only [Act.put, List.setIfInBounds_toArray, List.set_cons_zero, List.set_cons_succ]
        refine wpAnyY_take (i := 6) (oi := { dst := some 23, op := Go.Op.convert 22 9 (Go.Operand.tmp 22), type := 9, pos := "law.go:216", after := #[{ on := 5, ground := Go.Ground.data }, { on := 4, ground := Go.Ground.guard }], guard := some (4, false) }) (v := .string ⟨xb.toArray⟩) rfl (by kernel_rfl) (by kernel_rfl) (by kernel_rfl) (by kernel_rfl) (fun _ _ _ h => h) (by intro w; first | rfl | (simp [Oper.about, resolve, Target.leads]; done)) (Or.inl ⟨by rfl, ?hysame6⟩) hS ?_
        case hysame6 => (rintro V ⟨s1, s2, s3, s4, s5⟩; go_simp; try with_reducible rfl)
        try simp only [Act.put, List.setIfInBounds_toArray, List.set_cons_zero, List.set_cons_succ]
        refine wpAnyY_take (i := 7) (oi := { dst := some 24, op := Go.Op.load 40 (Go.Operand.tmp 3), type := 40, pos := "law.go:216", after := #[{ on := 4, ground := Go.Ground.guard }], guard := some (4, false) }) (v := .slice (some a) L.length cl) rfl (by kernel_rfl) (by kernel_rfl) (by kernel_rfl) (by kernel_rfl) (fun _ _ _ h => h) (by intro w; first | rfl | (simp [Oper.about, resolve, Target.leads]; done)) (Or.inl ⟨by rfl, ?hysame7⟩) hS ?_
        case hysame7 => (rintro V ⟨s1, s2, s3, s4, s5⟩; go_simp; try with_reducible rfl)
        try simp only [Act.put, List.setIfInBounds_toArray, List.set_cons_zero, List.set_cons_succ]
        refine wpAnyY_take (i := 8) (oi := { dst := some 25, op := Go.Op.load 3 (Go.Operand.tmp 7), type := 3, pos := "law.go:216", after := #[{ on := 4, ground := Go.Ground.guard }], guard := some (4, false) }) (v := .int .i64 (pre.length : Int)) rfl (by kernel_rfl) (by kernel_rfl) (by kernel_rfl) (by kernel_rfl) (fun _ _ _ h => h) (by intro w; first | rfl | (simp [Oper.about, resolve, Target.leads]; done)) (Or.inl ⟨by rfl, ?hysame8⟩) hS ?_
        case hysame8 => (rintro V ⟨s1, s2, s3, s4, s5⟩; go_simp; try with_reducible rfl)
        try simp only [Act.put, List.setIfInBounds_toArray, List.set_cons_zero, List.set_cons_succ]
        refine wpAnyY_take (i := 9) (oi := { dst := some 26, op := Go.Op.indexAddr 40 (Go.Operand.tmp 24) (Go.Operand.tmp 25), type := 0, pos := "law.go:216", after := #[{ on := 7, ground := Go.Ground.data }, { on := 8, ground := Go.Ground.data }, { on := 4, ground := Go.Ground.guard }], guard := some (4, false) }) (v := .pointer (some (a.add pre.length))) rfl (by kernel_rfl) (by kernel_rfl) (by kernel_rfl) (by kernel_rfl) (fun _ _ _ h => h) (by intro w; first | rfl | (simp [Oper.about, resolve, Target.leads]; done)) (Or.inl ⟨by rfl, ?hysame9⟩) hS ?_
        case hysame9 => (rintro V ⟨s1, s2, s3, s4, s5⟩; go_simp; try with_reducible rfl)
        try simp only [Act.put, List.setIfInBounds_toArray, List.set_cons_zero, List.set_cons_succ]
        refine wpAnyY_take (i := 10) (oi := { dst := some 27, op := Go.Op.load 22 (Go.Operand.tmp 26), type := 22, pos := "law.go:216", after := #[{ on := 9, ground := Go.Ground.data }, { on := 4, ground := Go.Ground.guard }], guard := some (4, false) }) (v := vn) rfl (by kernel_rfl) (by kernel_rfl) (by kernel_rfl) (by kernel_rfl) (fun _ _ _ h => h) (by intro w; first | rfl | (simp [Oper.about, resolve, Target.leads]; done)) (Or.inl ⟨by rfl, ?hysame10⟩) hS ?_
        case hysame10 => (rintro V ⟨s1, s2, s3, s4, s5⟩; go_simp; try with_reducible rfl)
        try simp only [Act.put, List.setIfInBounds_toArray, List.set_cons_zero, List.set_cons_succ]
        refine wpAnyY_take (i := 11) (oi := { dst := some 28, op := Go.Op.convert 22 9 (Go.Operand.tmp 27), type := 9, pos := "law.go:216", after := #[{ on := 10, ground := Go.Ground.data }, { on := 4, ground := Go.Ground.guard }], guard := some (4, false) }) (v := .string ⟨L[pre.length].toArray⟩) rfl (by kernel_rfl) (by kernel_rfl) (by kernel_rfl) (by kernel_rfl) (fun _ _ _ h => h) (by intro w; first | rfl | (simp [Oper.about, resolve, Target.leads]; done)) (Or.inl ⟨by rfl, ?hysame11⟩) hS ?_
        case hysame11 => (rintro V ⟨s1, s2, s3, s4, s5⟩; go_simp; try with_reducible rfl)
        try simp only [Act.put, List.setIfInBounds_toArray, List.set_cons_zero, List.set_cons_succ]
        refine wpAnyY_take (i := 12) (oi := { dst := some 29, op := Go.Op.binOp Go.BinOp.neq 9 (Go.Operand.tmp 23) (Go.Operand.tmp 28) 9, type := 4, pos := "law.go:216", after := #[{ on := 6, ground := Go.Ground.data }, { on := 11, ground := Go.Ground.data }, { on := 4, ground := Go.Ground.guard }], guard := some (4, false) }) (v := .bool false) rfl (by kernel_rfl) (by kernel_rfl) (by kernel_rfl) (by kernel_rfl) (fun _ _ _ h => h) (by intro w; first | rfl | (simp [Oper.about, resolve, Target.leads]; done)) (Or.inl ⟨by rfl, ?hysame12⟩) hS ?_
        case hysame12 => (rintro V ⟨s1, s2, s3, s4, s5⟩; go_simp; try with_reducible rfl)
        try simp only [Act.put, List.setIfInBounds_toArray, List.set_cons_zero, List.set_cons_succ]
        refine wpAnyY_take (i := 13) (oi := { dst := some 30, op := Go.Op.pick (Go.Operand.tmp 21) (Go.Operand.const (Go.Value.bool true)) (Go.Operand.tmp 29), type := 4, pos := "law.go:216", after := #[{ on := 4, ground := Go.Ground.data }, { on := 12, ground := Go.Ground.data }], guard := none }) (v := .bool false) rfl (by kernel_rfl) (by kernel_rfl) (by kernel_rfl) (by kernel_rfl) (fun _ _ _ h => h) (by intro w; first | rfl | (simp [Oper.about, resolve, Target.leads]; done)) (Or.inl ⟨by rfl, ?hysame13⟩) hS ?_
        case hysame13 => (rintro V ⟨s1, s2, s3, s4, s5⟩; go_simp; try with_reducible rfl)
        try simp only [Act.put, List.setIfInBounds_toArray, List.set_cons_zero, List.set_cons_succ]
        refine wpAnyY_done (by kernel_rfl) ?_ _
        have HX := Lib.hid (pre_nextL (x := (xv, xi, xb)) HP.out hn he)
        gi_wp2_with fail
        refine ⟨HKV.out.setCell (p := ⟨w4.heap.size, 0, none⟩) (by show w4.heap.size < w5.heap.size; omega) (fun h => by rcases h with h | h | h <;> simp at h <;> omega) _, ?_, HX.out, by simp [World.setCell]; omega⟩
        exact HTD.out.next (by omega) (Nat.le_refl _) _ _ (by simp)
      · refine wpIn_region_Y (S := fun V => V.cell? ⟨w4.heap.size, 0, none⟩ = some (.int .i64 (pre.length : Int)) ∧ V.cell? ⟨W.heap.size, 0, none⟩ = some (.slice (some a) L.length cl) ∧ V.cell? (a.add pre.length) = some vn ∧ (convert 22 9 xv).run Tryd.prog V = .ok (.string ⟨xb.toArray⟩) V ∧ (convert 22 9 vn).run Tryd.prog V = .ok (.string ⟨L[pre.length].toArray⟩) V) (by kernel_rfl) ?_
        have HX := Lib.hid (notpre_ne HSP.out hn he)
        generalize V.drew = Vd at *
        have hS := And.intro hN (And.intro hB (And.intro hcn2 (And.intro hs1 hs2)))
        refine wpAnyY_take (i := 0) (oi := { dst := some 17, op := Go.Op.load 3 (Go.Operand.tmp 7), type := 3, pos := "law.go:216", after := #[], guard := none }) (v := .int .i64 (pre.length : Int)) rfl (by kernel_rfl) (by kernel_rfl) (by kernel_rfl) (by kernel_rfl) (fun _ _ _ h => h) (by intro w; first | rfl | (simp [Oper.about, resolve, Target.leads]; done)) (Or.inl ⟨by rfl, ?hyother0⟩) hS ?_
        case hyother0 => (rintro V ⟨s1, s2, s3, s4, s5⟩; go_simp; try with_reducible rfl)
        try simp only [Act.put, List.setIfInBounds_toArray, List.set_cons_zero, List.set_cons_succ]
        refine wpAnyY_take (i := 1) (oi := { dst := some 18, op := Go.Op.load 40 (Go.Operand.tmp 3), type := 40, pos := "law.go:216", after := #[], guard := none }) (v := .slice (some a) L.length cl) rfl (by kernel_rfl) (by kernel_rfl) (by kernel_rfl) (by kernel_rfl) (fun _ _ _ h => h) (by intro w; first | rfl | (simp [Oper.about, resolve, Target.leads]; done)) (Or.inl ⟨by rfl, ?hyother1⟩) hS ?_
        case hyother1 => (rintro V ⟨s1, s2, s3, s4, s5⟩; go_simp; try with_reducible rfl)
        try simp only [Act.put, List.setIfInBounds_toArray, List.set_cons_zero, List.set_cons_succ]
        refine wpAnyY_take (i := 2) (oi := { dst := some 19, op := Go.Op.call { callee := Go.Callee.builtin Go.Builtin.len, args := #[Go.Operand.tmp 18], argTypes := #[40] }, type := 3, pos := "law.go:216", after := #[{ on := 1, ground := Go.Ground.data }], guard := none }) (v := .int .i64 (L.length : Int)) rfl (by kernel_rfl) (by kernel_rfl) (by kernel_rfl) (by kernel_rfl) (fun _ _ _ h => h) (by intro w; first | rfl | (simp [Oper.about, resolve, Target.leads]; done)) (Or.inl ⟨by rfl, ?hyother2⟩) hS ?_
        case hyother2 => (rintro V ⟨s1, s2, s3, s4, s5⟩; go_simp; try with_reducible rfl)
        try simp only [Act.put, List.setIfInBounds_toArray, List.set_cons_zero, List.set_cons_succ]
        refine wpAnyY_take (i := 3) (oi := { dst := some 20, op := Go.Op.binOp Go.BinOp.geq 3 (Go.Operand.tmp 17) (Go.Operand.tmp 19) 3, type := 4, pos := "law.go:216", after := #[{ on := 0, ground := Go.Ground.data }, { on := 2, ground := Go.Ground.data }], guard := none }) (v := .bool false) rfl (by kernel_rfl) (by kernel_rfl) (by kernel_rfl) (by kernel_rfl) (fun _ _ _ h => h) (by intro w; first | rfl | (simp [Oper.about, resolve, Target.leads]; done)) (Or.inl ⟨by rfl, ?hyother3⟩) hS ?_
        case hyother3 => (rintro V ⟨s1, s2, s3, s4, s5⟩; go_simp; try with_reducible rfl)
        try simp only [Act.put, List.setIfInBounds_toArray, List.set_cons_zero, List.set_cons_succ]
        refine wpAnyY_take (i := 4) (oi := { dst := some 21, op := Go.Op.move (Go.Operand.tmp 20), type := 4, pos := "law.go:216", after := #[{ on := 3, ground := Go.Ground.data }], guard := none }) (v := .bool false) rfl (by kernel_rfl) (by kernel_rfl) (by kernel_rfl) (by kernel_rfl) (fun _ _ _ h => h) (by intro w; first | rfl | (simp [Oper.about, resolve, Target.leads]; done)) (Or.inl ⟨by rfl, ?hyother4⟩) hS ?_
        case hyother4 => (rintro V ⟨s1, s2, s3, s4, s5⟩; go_simp; try with_reducible rfl)
        try simp only [Act.put, List.setIfInBounds_toArray, List.set_cons_zero, List.set_cons_succ]
        refine wpAnyY_take (i := 5) (oi := { dst := some 22, op := Go.Op.move (Go.Operand.tmp 9), type := 22, pos := "law.go:216", after := #[{ on := 4, ground := Go.Ground.guard }], guard := some (4, false) }) (v := xv) rfl (by kernel_rfl) (by kernel_rfl) (by kernel_rfl) (by kernel_rfl) (fun _ _ _ h => h) (by intro w; first | rfl | (simp [Oper.about, resolve, Target.leads]; done)) (Or.inl ⟨by rfl, ?hyother5⟩) hS ?_
        case hyother5 => (rintro V ⟨s1, s2, s3, s4, s5⟩; go_simp; try with_reducible rfl)
        try simp only [Act.put, List.setIfInBounds_toArray, List.set_cons_zero, List.set_cons_succ]
        refine wpAnyY_take (i := 6) (oi := { dst := some 23, op := Go.Op.convert 22 9 (Go.Operand.tmp 22), type := 9, pos := "law.go:216", after := #[{ on := 5, ground := Go.Ground.data }, { on := 4, ground := Go.Ground.guard }], guard := some (4, false) }) (v := .string ⟨xb.toArray⟩) rfl (by kernel_rfl) (by kernel_rfl) (by kernel_rfl) (by kernel_rfl) (fun _ _ _ h => h) (by intro w; first | rfl | (simp [Oper.about, resolve, Target.leads]; done)) (Or.inl ⟨by rfl, ?hyother6⟩) hS ?_
        case hyother6 => (rintro V ⟨s1, s2, s3, s4, s5⟩; go_simp; try with_reducible rfl)
        try simp only [Act.put, List.setIfInBounds_toArray, List.set_cons_zero, List.set_cons_succ]
        refine wpAnyY_take (i := 7) (oi := { dst := some 24, op := Go.Op.load 40 (Go.Operand.tmp 3), type := 40, pos := "law.go:216", after := #[{ on := 4, ground := Go.Ground.guard }], guard := some (4, false) }) (v := .slice (some a) L.length cl) rfl (by kernel_rfl) (by kernel_rfl) (by kernel_rfl) (by kernel_rfl) (fun _ _ _ h => h) (by intro w; first | rfl | (simp [Oper.about, resolve, Target.leads]; done)) (Or.inl ⟨by rfl, ?hyother7⟩) hS ?_
        case hyother7 => (rintro V ⟨s1, s2, s3, s4, s5⟩; go_simp; try with_reducible rfl)
        try simp only [Act.put, List.setIfInBounds_toArray, List.set_cons_zero, List.set_cons_succ]
        refine wpAnyY_take (i := 8) (oi := { dst := some 25, op := Go.Op.load 3 (Go.Operand.tmp 7), type := 3, pos := "law.go:216", after := #[{ on := 4, ground := Go.Ground.guard }], guard := some (4, false) }) (v := .int .i64 (pre.length : Int)) rfl (by kernel_rfl) (by kernel_rfl) (by kernel_rfl) (by kernel_rfl) (fun _ _ _ h => h) (by intro w; first | rfl | (simp [Oper.about, resolve, Target.leads]; done)) (Or.inl ⟨by rfl, ?hyother8⟩) hS ?_
        case hyother8 => (rintro V ⟨s1, s2, s3, s4, s5⟩; go_simp; try with_reducible rfl)
        try simp only [Act.put, List.setIfInBounds_toArray, List.set_cons_zero, List.set_cons_succ]
        refine wpAnyY_take (i := 9) (oi := { dst := some 26, op := Go.Op.indexAddr 40 (Go.Operand.tmp 24) (Go.Operand.tmp 25), type := 0, pos := "law.go:216", after := #[{ on := 7, ground := Go.Ground.data }, { on := 8, ground := Go.Ground.data }, { on := 4, ground := Go.Ground.guard }], guard := some (4, false) }) (v := .pointer (some (a.add pre.length))) rfl (by kernel_rfl) (by kernel_rfl) (by kernel_rfl) (by kernel_rfl) (fun _ _ _ h => h) (by intro w; first | rfl | (simp [Oper.about, resolve, Target.leads]; done)) (Or.inl ⟨by rfl, ?hyother9⟩) hS ?_
        case hyother9 => (rintro V ⟨s1, s2, s3, s4, s5⟩; go_simp; try with_reducible rfl)
        try simp only [Act.put, List.setIfInBounds_toArray, List.set_cons_zero, List.set_cons_succ]
        refine wpAnyY_take (i := 10) (oi := { dst := some 27, op := Go.Op.load 22 (Go.Operand.tmp 26), type := 22, pos := "law.go:216", after := #[{ on := 9, ground := Go.Ground.data }, { on := 4, ground := Go.Ground.guard }], guard := some (4, false) }) (v := vn) rfl (by kernel_rfl) (by kernel_rfl) (by kernel_rfl) (by kernel_rfl) (fun _ _ _ h => h) (by intro w; first | rfl | (simp [Oper.about, resolve, Target.leads]; done)) (Or.inl ⟨by rfl, ?hyother10⟩) hS ?_
        case hyother10 => (rintro V ⟨s1, s2, s3, s4, s5⟩; go_simp; try with_reducible rfl)
        try simp only [Act.put, List.setIfInBounds_toArray, List.set_cons_zero, List.set_cons_succ]
        refine wpAnyY_take (i := 11) (oi := { dst := some 28, op := Go.Op.convert 22 9 (Go.Operand.tmp 27), type := 9, pos := "law.go:216", after := #[{ on := 10, ground := Go.Ground.data }, { on := 4, ground := Go.Ground.guard }], guard := some (4, false) }) (v := .string ⟨L[pre.length].toArray⟩) rfl (by kernel_rfl) (by kernel_rfl) (by kernel_rfl) (by kernel_rfl) (fun _ _ _ h => h) (by intro w; first | rfl | (simp [Oper.about, resolve, Target.leads]; done)) (Or.inl ⟨by rfl, ?hyother11⟩) hS ?_
        case hyother11 => (rintro V ⟨s1, s2, s3, s4, s5⟩; go_simp; try with_reducible rfl)
        try simp only [Act.put, List.setIfInBounds_toArray, List.set_cons_zero, List.set_cons_succ]
        refine wpAnyY_take (i := 12) (oi := { dst := some 29, op := Go.Op.binOp Go.BinOp.neq 9 (Go.Operand.tmp 23) (Go.Operand.tmp 28) 9, type := 4, pos := "law.go:216", after := #[{ on := 6, ground := Go.Ground.data }, { on := 11, ground := Go.Ground.data }, { on := 4, ground := Go.Ground.guard }], guard := some (4, false) }) (v := .bool true) rfl (by kernel_rfl) (by kernel_rfl) (by kernel_rfl) (by kernel_rfl) (fun _ _ _ h => h) (by intro w; first | rfl | (simp [Oper.about, resolve, Target.leads]; done)) (Or.inl ⟨by rfl, ?hyother12⟩) hS ?_
        case hyother12 => (rintro V ⟨s1, s2, s3, s4, s5⟩; go_simp; try with_reducible rfl)
        try simp only [Act.put, List.setIfInBounds_toArray, List.set_cons_zero, List.set_cons_succ]
        refine wpAnyY_take (i := 13) (oi := { dst := some 30, op := Go.Op.pick (Go.Operand.tmp 21) (Go.Operand.const (Go.Value.bool true)) (Go.Operand.tmp 29), type := 4, pos := "law.go:216", after := #[{ on := 4, ground := Go.Ground.data }, { on := 12, ground := Go.Ground.data }], guard := none }) (v := .bool true) rfl (by kernel_rfl) (by kernel_rfl) (by kernel_rfl) (by kernel_rfl) (fun _ _ _ h => h) (by intro w; first | rfl | (simp [Oper.about, resolve, Target.leads]; done)) (Or.inl ⟨by rfl, ?hyother13⟩) hS ?_
        case hyother13 => (rintro V ⟨s1, s2, s3, s4, s5⟩; go_simp; try with_reducible rfl)
        try simp only [Act.put, List.setIfInBounds_toArray, List.set_cons_zero, List.set_cons_succ]
        refine wpAnyY_done (by kernel_rfl) ?_ _
        gi_wp2_with fail
        exact ⟨(HKV.out.setCell (p := ⟨W.heap.size + 1, 0, none⟩) (by show W.heap.size + 1 < w5.heap.size; omega) (fun h => by rcases h with h | h | h <;> simp at h <;> omega) _).setCell (p := ⟨W.heap.size + 1 + 1, 0, none⟩) (by show W.heap.size + 1 + 1 < w5.heap.size; omega) (fun h => by rcases h with h | h | h <;> simp at h <;> omega) _, rfl, HX.out, (HTD.out.ends (by omega) (Nat.le_refl _) 0 false).tb⟩
    · refine wpIn_region_Y (S := fun V => V.cell? ⟨w4.heap.size, 0, none⟩ = some (.int .i64 (pre.length : Int)) ∧ V.cell? ⟨W.heap.size, 0, none⟩ = some (.slice ol L.length cl)) (by kernel_rfl) ?_
      have hge : L.length ≤ pre.length := Nat.not_lt.1 hn
      have HX := Lib.hid (notpre_len HSP.out hge)
      generalize V.drew = Vd at *
      have hS := And.intro hN hB
      refine wpAnyY_take (i := 0) (oi := { dst := some 17, op := Go.Op.load 3 (Go.Operand.tmp 7), type := 3, pos := "law.go:216", after := #[], guard := none }) (v := .int .i64 (pre.length : Int)) rfl (by kernel_rfl) (by kernel_rfl) (by kernel_rfl) (by kernel_rfl) (fun _ _ _ h => h) (by intro w; first | rfl | (simp [Oper.about, resolve, Target.leads]; done)) (Or.inl ⟨by rfl, ?hyover0⟩) hS ?_
      case hyover0 => (rintro V ⟨s1, s2⟩; go_simp; try with_reducible rfl)
      try simp only [Act.put, List.setIfInBounds_toArray, List.set_cons_zero, List.set_cons_succ]
      refine wpAnyY_take (i := 1) (oi := { dst := some 18, op := Go.Op.load 40 (Go.Operand.tmp 3), type := 40, pos := "law.go:216", after := #[], guard := none }) (v := .slice ol L.length cl) rfl (by kernel_rfl) (by kernel_rfl) (by kernel_rfl) (by kernel_rfl) (fun _ _ _ h => h) (by intro w; first | rfl | (simp [Oper.about, resolve, Target.leads]; done)) (Or.inl ⟨by rfl, ?hyover1⟩) hS ?_
      case hyover1 => (rintro V ⟨s1, s2⟩; go_simp; try with_reducible rfl)
      try simp only [Act.put, List.setIfInBounds_toArray, List.set_cons_zero, List.set_cons_succ]
      refine wpAnyY_take (i := 2) (oi := { dst := some 19, op := Go.Op.call { callee := Go.Callee.builtin Go.Builtin.len, args := #[Go.Operand.tmp 18], argTypes := #[40] }, type := 3, pos := "law.go:216", after := #[{ on := 1, ground := Go.Ground.data }], guard := none }) (v := .int .i64 (L.length : Int)) rfl (by kernel_rfl) (by kernel_rfl) (by kernel_rfl) (by kernel_rfl) (fun _ _ _ h => h) (by intro w; first | rfl | (simp [Oper.about, resolve, Target.leads]; done)) (Or.inl ⟨by rfl, ?hyover2⟩) hS ?_
      case hyover2 => (rintro V ⟨s1, s2⟩; go_simp; try with_reducible rfl)
      try simp only [Act.put, List.setIfInBounds_toArray, List.set_cons_zero, List.set_cons_succ]
      refine wpAnyY_take (i := 3) (oi := { dst := some 20, op := Go.Op.binOp Go.BinOp.geq 3 (Go.Operand.tmp 17) (Go.Operand.tmp 19) 3, type := 4, pos := "law.go:216", after := #[{ on := 0, ground := Go.Ground.data }, { on := 2, ground := Go.Ground.data }], guard := none }) (v := .bool true) rfl (by kernel_rfl) (by kernel_rfl) (by kernel_rfl) (by kernel_rfl) (fun _ _ _ h => h) (by intro w; first | rfl | (simp [Oper.about, resolve, Target.leads]; done)) (Or.inl ⟨by rfl, ?hyover3⟩) hS ?_
      case hyover3 => (rintro V ⟨s1, s2⟩; go_simp; try with_reducible rfl)
      try simp only [Act.put, List.setIfInBounds_toArray, List.set_cons_zero, List.set_cons_succ]
      refine wpAnyY_take (i := 4) (oi := { dst := some 21, op := Go.Op.move (Go.Operand.tmp 20), type := 4, pos := "law.go:216", after := #[{ on := 3, ground := Go.Ground.data }], guard := none }) (v := .bool true) rfl (by kernel_rfl) (by kernel_rfl) (by kernel_rfl) (by kernel_rfl) (fun _ _ _ h => h) (by intro w; first | rfl | (simp [Oper.about, resolve, Target.leads]; done)) (Or.inl ⟨by rfl, ?hyover4⟩) hS ?_
      case hyover4 => (rintro V ⟨s1, s2⟩; go_simp; try with_reducible rfl)
      try simp only [Act.put, List.setIfInBounds_toArray, List.set_cons_zero, List.set_cons_succ]
      refine wpAnyY_take (i := 5) (oi := { dst := some 22, op := Go.Op.move (Go.Operand.tmp 9), type := 22, pos := "law.go:216", after := #[{ on := 4, ground := Go.Ground.guard }], guard := some (4, false) }) (v := undef) rfl (by kernel_rfl) (by kernel_rfl) (by kernel_rfl) (by kernel_rfl) (fun _ _ _ h => h) (by intro w; first | rfl | (simp [Oper.about, resolve, Target.leads]; done)) (Or.inr ⟨by rfl, rfl⟩) hS ?_
      try simp only [Act.put, List.setIfInBounds_toArray, List.set_cons_zero, List.set_cons_succ]
      refine wpAnyY_take (i := 6) (oi := { dst := some 23, op := Go.Op.convert 22 9 (Go.Operand.tmp 22), type := 9, pos := "law.go:216", after := #[{ on := 5, ground := Go.Ground.data }, { on := 4, ground := Go.Ground.guard }], guard := some (4, false) }) (v := undef) rfl (by kernel_rfl) (by kernel_rfl) (by kernel_rfl) (by kernel_rfl) (fun _ _ _ h => h) (by intro w; first | rfl | (simp [Oper.about, resolve, Target.leads]; done)) (Or.inr ⟨by rfl, rfl⟩) hS ?_
      try simp only [Act.put, List.setIfInBounds_toArray, List.set_cons_zero, List.set_cons_succ]
      refine wpAnyY_take (i := 7) (oi := { dst := some 24, op := Go.Op.load 40 (Go.Operand.tmp 3), type := 40, pos := "law.go:216", after := #[{ on := 4, ground := Go.Ground.guard }], guard := some (4, false) }) (v := undef) rfl (by kernel_rfl) (by kernel_rfl) (by kernel_rfl) (by kernel_rfl) (fun _ _ _ h => h) (by intro w; first | rfl | (simp [Oper.about, resolve, Target.leads]; done)) (Or.inr ⟨by rfl, rfl⟩) hS ?_
      try simp only [Act.put, List.setIfInBounds_toArray, List.set_cons_zero, List.set_cons_succ]
      refine wpAnyY_take (i := 8) (oi := { dst := some 25, op := Go.Op.load 3 (Go.Operand.tmp 7), type := 3, pos := "law.go:216", after := #[{ on := 4, ground := Go.Ground.guard }], guard := some (4, false) }) (v := undef) rfl (by kernel_rfl) (by kernel_rfl) (by kernel_rfl) (by kernel_rfl) (fun _ _ _ h => h) (by intro w; first | rfl | (simp [Oper.about, resolve, Target.leads]; done)) (Or.inr ⟨by rfl, rfl⟩) hS ?_
      try simp only [Act.put, List.setIfInBounds_toArray, List.set_cons_zero, List.set_cons_succ]
      refine wpAnyY_take (i := 9) (oi := { dst := some 26, op := Go.Op.indexAddr 40 (Go.Operand.tmp 24) (Go.Operand.tmp 25), type := 0, pos := "law.go:216", after := #[{ on := 7, ground := Go.Ground.data }, { on := 8, ground := Go.Ground.data }, { on := 4, ground := Go.Ground.guard }], guard := some (4, false) }) (v := undef) rfl (by kernel_rfl) (by kernel_rfl) (by kernel_rfl) (by kernel_rfl) (fun _ _ _ h => h) (by intro w; first | rfl | (simp [Oper.about, resolve, Target.leads]; done)) (Or.inr ⟨by rfl, rfl⟩) hS ?_
      try simp only [Act.put, List.setIfInBounds_toArray, List.set_cons_zero, List.set_cons_succ]
      refine wpAnyY_take (i := 10) (oi := { dst := some 27, op := Go.Op.load 22 (Go.Operand.tmp 26), type := 22, pos := "law.go:216", after := #[{ on := 9, ground := Go.Ground.data }, { on := 4, ground := Go.Ground.guard }], guard := some (4, false) }) (v := undef) rfl (by kernel_rfl) (by kernel_rfl) (by kernel_rfl) (by kernel_rfl) (fun _ _ _ h => h) (by intro w; first | rfl | (simp [Oper.about, resolve, Target.leads]; done)) (Or.inr ⟨by rfl, rfl⟩) hS ?_
      try simp only [Act.put, List.setIfInBounds_toArray, List.set_cons_zero, List.set_cons_succ]
      refine wpAnyY_take (i := 11) (oi := { dst := some 28, op := Go.Op.convert 22 9 (Go.Operand.tmp 27), type := 9, pos := "law.go:216", after := #[{ on := 10, ground := Go.Ground.data }, { on := 4, ground := Go.Ground.guard }], guard := some (4, false) }) (v := undef) rfl (by kernel_rfl) (by kernel_rfl) (by kernel_rfl) (by kernel_rfl) (fun _ _ _ h => h) (by intro w; first | rfl | (simp [Oper.about, resolve, Target.leads]; done)) (Or.inr ⟨by rfl, rfl⟩) hS ?_
      try simp only [Act.put, List.setIfInBounds_toArray, List.set_cons_zero, List.set_cons_succ]
      refine wpAnyY_take (i := 12) (oi := { dst := some 29, op := Go.Op.binOp Go.BinOp.neq 9 (Go.Operand.tmp 23) (Go.Operand.tmp 28) 9, type := 4, pos := "law.go:216", after := #[{ on := 6, ground := Go.Ground.data }, { on := 11, ground := Go.Ground.data }, { on := 4, ground := Go.Ground.guard }], guard := some (4, false) }) (v := undef) rfl (by kernel_rfl) (by kernel_rfl) (by kernel_rfl) (by kernel_rfl) (fun _ _ _ h => h) (by intro w; first | rfl | (simp [Oper.about, resolve, Target.leads]; done)) (Or.inr ⟨by rfl, rfl⟩) hS ?_
      try simp only [Act.put, List.setIfInBounds_toArray, List.set_cons_zero, List.set_cons_succ]
      refine wpAnyY_take (i := 13) (oi := { dst := some 30, op := Go.Op.pick (Go.Operand.tmp 21) (Go.Operand.const (Go.Value.bool true)) (Go.Operand.tmp 29), type := 4, pos := "law.go:216", after := #[{ on := 4, ground := Go.Ground.data }, { on := 12, ground := Go.Ground.data }], guard := none }) (v := .bool true) rfl (by kernel_rfl) (by kernel_rfl) (by kernel_rfl) (by kernel_rfl) (fun _ _ _ h => h) (by intro w; first | rfl | (simp [Oper.about, resolve, Target.leads]; done)) (Or.inl ⟨by rfl, ?hyover13⟩) hS ?_
      case hyover13 => (rintro V ⟨s1, s2⟩; go_simp; try with_reducible rfl)
      try simp only [Act.put, List.setIfInBounds_toArray, List.set_cons_zero, List.set_cons_succ]
      refine wpAnyY_done (by kernel_rfl) ?_ _
      gi_wp2_with fail
      exact ⟨(HKV.out.setCell (p := ⟨W.heap.size + 1, 0, none⟩) (by show W.heap.size + 1 < w5.heap.size; omega) (fun h => by rcases h with h | h | h <;> simp at h <;> omega) _).setCell (p := ⟨W.heap.size + 1 + 1, 0, none⟩) (by show W.heap.size + 1 + 1 < w5.heap.size; omega) (fun h => by rcases h with h | h | h <;> simp at h <;> omega) _, rfl, HX.out, (HTD.out.ends (by omega) (Nat.le_refl _) 0 false).tb⟩
  case done =>
    rintro xs V hxs ⟨ht, hp, hsz⟩ hD
    have hM := bsT_R hxs
    rw [hM] at hp
    have hlen : xs.length = (RL lf 0).length := by rw [← hxs, List.length_map]
    rw [hlen] at ht
    have hN := ht.n
    have r1 := ht.r
    have r2 := ht.o
    have f1 := ht.rf
    have f2 := ht.of
    have HTI := Lib.hid ht
    have HP := Lib.hid hp
    clear hM hp hlen ht
    gi_wp2_with fail
    have hD' : ((V.setCell ⟨W.heap.size + 1, 0, none⟩ (.int .i64 (RL lf 0).length)).setCell ⟨W.heap.size + 1 + 1, 0, none⟩ (.bool true)).heap[w5.heap.size]? = some (.deferred (some [])) := (Below.heap_setCell _ _ _ _ (by simp; omega)).trans ((Below.heap_setCell _ _ _ _ (by simp; omega)).trans hD)
    rw [hz5] at hD'
    have hF2 := HTI.out.ends (by omega) (Nat.le_refl _) (RL lf 0).length true
    have k1 := cell_putL hF2.r hD' (.deferred none)
    have k2 := cell_putL hF2.o hD' (.deferred none)
    refine ⟨by simp, .inl ⟨_, _, rfl, run_takeDeferred hD', ?_⟩⟩
    exact ⟨.tuple #[.int .i64 (RL lf 0).length, .bool true], by simp [results, Tryd.results15, go_sem, k1, k2], by rw [toldV_yes HP.out], below_putL hF2.b (by omega) _⟩
  case stop =>
    rintro c pre V hsp ⟨rfl, hx, ht⟩ hD
    have r1 := ht.r
    have r2 := ht.o
    rw [hz5] at hD
    have k1 := cell_putL r1 hD (.deferred none)
    have k2 := cell_putL r2 hD (.deferred none)
    have HX := Lib.hid hx
    have HB := Lib.hid ht.b
    clear hx ht
    gi_wp2_with fail
    refine ⟨by simp, .inl ⟨_, _, rfl, run_takeDeferred hD, ?_⟩⟩
    exact ⟨.tuple #[.int .i64 0, .bool false], by simp [results, Tryd.results15, go_sem, k1, k2], by rw [toldV_no HX.out], below_putL HB.out (by omega) _⟩
end Go.Proofs.YtbhgcioeibhjeaaDoor
