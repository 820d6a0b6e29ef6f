/-
  key: layBytes.
-/
import Derived.Test.YtcedeipmboekaaaGreatDoorKGrp
import Derived.Test.YtcedeipmboekaaaGreatDoorKChunk
import Derived.Lib.ConvBytes
import Derived.Deep.AppendLies
import Derived.Deep.RegionLaw
import Derived.Deep.Onto
namespace Go.Proofs.YtcedeipmboekaaaGreatDoor
open Go.RowKit Go.Shelf
attribute [local go_sem] Oper.semAt_some

theorem conv_bytes (t : TypeId) (ht : Tryz.prog.underlying t = some .string) (s : ByteArray) (W : World) : ∃ cap W', (convert t 55 (.string s)).run Tryz.prog W = .ok (.slice (some ⟨W.heap.size, 0, none⟩) s.size cap) W' ∧ s.size ≤ cap ∧ (∀ j (h : j < s.data.toList.length), W'.cell? ⟨W.heap.size, j, none⟩ = some (.int .u8 (s.data.toList[j].toNat : Int))) ∧ Below W.heap.size W W' ∧ W'.heap.size = W.heap.size + 1 := by
  refine ⟨_, _, Lib.run_convert_string_bytes W t 55 5 s ht Tryz.underlying55 Tryz.underlying5, ?_, fun j hj => ?_, ?_, Lib.bytesWorld_size _ _ _⟩
  · exact grownCap_ge W _ _ _
  · have hj' : j < s.size := by rw [Array.length_toList] at hj; exact hj
    have e : (s.data.toList.getD j 0) = s.data.toList[j] := by rw [List.getD_eq_getElem?_getD, List.getElem?_eq_getElem hj]; rfl
    have h := Lib.bytesWorld_cell W 5 s j hj'
    rw [e] at h
    exact h
  · exact ⟨rfl, rfl, rfl, by rw [Lib.bytesWorld_size]; omega, fun k hk => Lib.bytesWorld_at_old W _ s k hk⟩
theorem append_run {w : World} {base : Nat} {v vb : Value} {l m : List UInt8} (hown : w.ownsRow base 5 1 v l.length (u8s l)) (hsrc : BytesOf w vb m) (hm : m ≠ []) (hlen : l.length + m.length ≤ 1000000) (hbase : base ≤ w.heap.size) (ty : TypeId) :
    ∃ v' w', (Builtin.append_ #[55, 55] ty #[v, vb]).run Tryz.prog w = .ok v' w' ∧ w'.ownsRow base 5 1 v' (l ++ m).length (u8s (l ++ m)) ∧ w.grownBy w' v.ownBlock := by
  obtain ⟨i0, hi0, hz0, hz1, hz2⟩ := info_parts infoU8
  rcases hsrc with ⟨_, e⟩ | ⟨ad, c, rfl, hc, hcell⟩
  · exact absurd e hm
  obtain ⟨v', w', hrun, r1, r2, _⟩ := run_append_own (P := Tryz.prog) w base 55 ty 5 i0 (.int .u8 0) 1 1 Tryz.underlying55 hi0 hz0 hz1 hz2 rfl (by decide) v l.length (u8s l) hown ad m.length c (u8s m) (by rw [u8s_length]; omega) (fun j u hj => by
      unfold u8s at hj
      rw [List.getElem?_map] at hj
      cases hq : m[j]? with
      | none => rw [hq] at hj; cases hj
      | some q =>
        rw [hq] at hj
        obtain ⟨hjl, e⟩ := List.getElem?_eq_some_iff.1 hq
        have := hcell j hjl
        rw [e] at this
        rw [this]
        exact hj) (fun u hu => by unfold u8s at hu; rw [List.mem_map] at hu; obtain ⟨q, _, rfl⟩ := hu; rfl) (by unfold maxLen; omega) (by omega) hbase
  refine ⟨v', w', hrun, ?_, r2⟩
  rw [List.length_append]
  rw [show u8s (l ++ m) = u8s l ++ u8s m by unfold u8s; rw [List.map_append]]
  exact r1
theorem qChunk_any (v : Value) (oa : Option Addr) (n cap : Nat) (hv : v = .slice oa n cap) (w : World) :
    Calls Tryz.prog 64 #[v, .int .i64 8] w fun e w' => e = .returned (.func (.func 95) #[] #[.pointer (some ⟨w.heap.size, 0, none⟩), .pointer (some ⟨w.heap.size + 1, 0, none⟩)]) ∧ (w.alloc (.cells #[v] 55)).alloc (.cells #[.int .i64 8] 3) = w' := by
  subst hv
  have hmf : ∀ (fn : Fn) (first cap : Array Value) (w : World), (Instr.makeFunc fn first cap).run Tryz.prog w = .ok (.func fn first cap) w := fun _ _ _ _ => rfl
  go_enter Tryz.func64, Tryz.ntmps64
  go_wp2_with fail
  go_ret
  exact ⟨rfl, rfl⟩

/-- the i-th eight bytes -/
def pc (l : List UInt8) (i : Nat) : List UInt8 := (l.drop (8 * i)).take 8
def accG (l : List UInt8) (k : Nat) : List UInt8 := (List.range (k - 1)).flatMap fun i => pc l i ++ [9]
def lastK (l : List UInt8) (k : Nat) : List UInt8 := if k = 0 then List.replicate 9 0 else grpL (pc l (k - 1)) (UInt8.ofNat (pc l (k - 1)).length)
theorem pc_length (l : List UInt8) (i : Nat) : (pc l i).length = min 8 (l.length - 8 * i) := by unfold pc; rw [List.length_take, List.length_drop]
theorem pc_drop (l : List UInt8) (i : Nat) : pc l (i + 1) = pc (l.drop 8) i := by
  unfold pc
  rw [List.drop_drop]
  congr 2
  omega
theorem grp_chunks : ∀ (n : Nat) (l : List UInt8), l.length ≤ n → accG l ((l.length + 7) / 8) ++ lastK l ((l.length + 7) / 8) = grpB l := by
  intro n
  induction n with
  | zero =>
    intro l h
    obtain rfl : l = [] := List.eq_nil_of_length_eq_zero (by omega)
    rfl
  | succ n ih =>
    intro l h
    by_cases h8 : l.length ≤ 8
    · rw [grpB_small h8]
      rcases Nat.eq_zero_or_pos l.length with h0 | h0
      · obtain rfl : l = [] := List.eq_nil_of_length_eq_zero h0
        rfl
      · rw [show (l.length + 7) / 8 = 1 by omega]
        unfold accG lastK grpL padG lastG
        rw [if_neg (by decide)]
        have : pc l 0 = l := by unfold pc; rw [Nat.mul_zero, List.drop_zero, List.take_of_length_le h8]
        simp [this]
    · rw [grpB_more (by omega), ← ih (l.drop 8) (by rw [List.length_drop]; omega)]
      obtain ⟨K, hK⟩ : ∃ K, ((l.drop 8).length + 7) / 8 = K + 1 := ⟨((l.drop 8).length + 7) / 8 - 1, by rw [List.length_drop]; omega⟩
      rw [hK, show (l.length + 7) / 8 = K + 1 + 1 by rw [List.length_drop] at hK; omega]
      unfold accG lastK
      rw [if_neg (by omega), if_neg (by omega)]
      simp only [Nat.add_sub_cancel]
      rw [List.range_succ_eq_map, List.flatMap_cons, List.flatMap_map, pc_drop]
      have e : (fun i => pc l (i + 1) ++ [(9 : UInt8)]) = fun i => pc (l.drop 8) i ++ [9] := by funext i; rw [pc_drop]
      simp only [Nat.succ_eq_add_one, e]
      unfold pc
      simp
theorem accG_next (l : List UInt8) (k : Nat) : accG l (k + 1 + 1) = accG l (k + 1) ++ (pc l k ++ [9]) := by
  unfold accG
  simp only [Nat.add_sub_cancel]
  rw [List.range_succ, List.flatMap_append]
  simp
theorem accG_len (l : List UInt8) (k : Nat) (hk : 8 * k ≤ l.length + 7) : (accG l k).length ≤ 2 * l.length + 16 := by
  unfold accG
  have : ∀ m, ((List.range m).flatMap fun i => pc l i ++ [(9 : UInt8)]).length ≤ 9 * m := by
    intro m
    induction m with
    | zero => simp
    | succ m ih =>
      rw [List.range_succ, List.flatMap_append, List.length_append, List.flatMap_cons, List.flatMap_nil, List.append_nil, List.length_append, pc_length]
      have : [(9 : UInt8)].length = 1 := rfl
      omega
  have := this (k - 1)
  omega

theorem lastK_len (l : List UInt8) (k : Nat) : (lastK l k).length = 9 := by
  unfold lastK
  split
  · simp
  · exact grpL_length _ (by rw [pc_length]; omega)
theorem list9 {α : Type} : ∀ (l : List α), l.length = 9 → ∃ a b c d e f g h i, l = [a, b, c, d, e, f, g, h, i]
  | [a, b, c, d, e, f, g, h, i], _ => ⟨a, b, c, d, e, f, g, h, i, rfl⟩
theorem Row9.keep {w w' : World} {g N : Nat} {a b c d e f h i j : UInt8} (r : Row9 w g a b c d e f h i j) (hb : Below N w w') (hg : g < N) : Row9 w' g a b c d e f h i j := by
  have q : ∀ o, w'.cell? ⟨g, o, none⟩ = w.cell? ⟨g, o, none⟩ := fun o => hb.cell (p := ⟨g, o, none⟩) hg
  exact ⟨(q 0).trans r.c0, (q 1).trans r.c1, (q 2).trans r.c2, (q 3).trans r.c3, (q 4).trans r.c4, (q 5).trans r.c5, (q 6).trans r.c6, (q 7).trans r.c7, (q 8).trans r.c8, fun o => (hb.frozen (p := ⟨g, o, none⟩) hg).trans (r.fr o)⟩
/-- what the loop has laid so far: k chunks; the source lies in block S -/
structure LBI (w : World) (Ab Lb S B : Nat) (l : List UInt8) (k : Nat) (W : World) : Prop where
  acc : ∃ v, W.cell? ⟨Ab, 0, none⟩ = some v ∧ W.ownsRow B 5 1 v (accG l k).length (u8s (accG l k))
  accf : W.frozen? ⟨Ab, 0, none⟩ = false
  last : ∃ a b c d e f h i j, lastK l k = [a, b, c, d, e, f, h, i, j] ∧ Row9 W Lb a b c d e f h i j
  src : ∀ j (h : j < l.length), W.cell? ⟨S, j, none⟩ = some (.int .u8 (l[j].toNat : Int))
  below : Below w.heap.size w W
theorem LBI.ext {w A A' : World} {Ab Lb S B N k : Nat} {l : List UInt8} (hA : Ab < N) (hL : Lb < N) (hS : S < N) (hN : w.heap.size ≤ N) (hNA : N ≤ A.heap.size) (h : LBI w Ab Lb S B l k A) (hb : Below A.heap.size A A') : LBI w Ab Lb S B l k A' := by
  obtain ⟨⟨v, h1, h2⟩, h3, ⟨a, b, c, d, e, f, g, i, j, h4, h5⟩, h6, h7⟩ := h
  exact ⟨⟨v, by rw [hb.cell (by show Ab < _; omega)]; exact h1, h2.kept (row := none) ⟨hb.os, hb.tape, hb.output, hb.size, fun k hk _ => hb.block k hk⟩ (by cases v.ownBlock <;> simp)⟩, by rw [hb.frozen (by show Ab < _; omega)]; exact h3, ⟨a, b, c, d, e, f, g, i, j, h4, h5.keep hb (by omega)⟩, fun j hj => by rw [hb.cell (by show S < _; omega)]; exact h6 j hj, h7.trans (hb.mono (by omega))⟩
theorem LBI.put {w A : World} {Ab Lb S B N k lp : Nat} {l : List UInt8} (hA : Ab < N) (hL : Lb < N) (hS : S < N) (hN : w.heap.size ≤ N) (h : LBI w Ab Lb S B l k A) (hl : N ≤ lp) {r : Loop} (hr : A.heap[lp]? = some (.loop r)) (o : Obj) : LBI w Ab Lb S B l k (A.putObj lp o) := by
  obtain ⟨⟨v, h1, h2⟩, h3, ⟨a, b, c, d, e, f, g, i, j, h4, h5⟩, h6, h7⟩ := h
  have q : ∀ (g o' : Nat), g < N → (A.putObj lp o).cell? ⟨g, o', none⟩ = A.cell? ⟨g, o', none⟩ := fun g o' hg => World.cell?_of_block (a := ⟨g, o', none⟩) (World.putObj_heap_other (by show g ≠ lp; omega))
  have qf : ∀ (g o' : Nat), g < N → (A.putObj lp o).frozen? ⟨g, o', none⟩ = A.frozen? ⟨g, o', none⟩ := fun g o' hg => World.frozen?_of_block (a := ⟨g, o', none⟩) (World.putObj_heap_other (by show g ≠ lp; omega))
  exact ⟨⟨v, (q _ _ hA).trans h1, ownsRow_putObj h2 o hr rfl⟩, (qf _ _ hA).trans h3, ⟨a, b, c, d, e, f, g, i, j, h4, (q _ _ hL).trans h5.c0, (q _ _ hL).trans h5.c1, (q _ _ hL).trans h5.c2, (q _ _ hL).trans h5.c3, (q _ _ hL).trans h5.c4, (q _ _ hL).trans h5.c5, (q _ _ hL).trans h5.c6, (q _ _ hL).trans h5.c7, (q _ _ hL).trans h5.c8, fun o => (qf _ _ hL).trans (h5.fr o)⟩, fun j hj => (q _ _ hS).trans (h6 j hj), h7.trans ⟨rfl, rfl, rfl, by simp, fun k hk => World.putObj_heap_other (by omega)⟩⟩
theorem snoc_rangeK {pre : List Nat} {x k : Nat} (h : pre ++ [x] = List.range k) : pre = List.range x ∧ k = x + 1 := by
  cases k with
  | zero => simp at h
  | succ k =>
    rw [List.range_succ] at h
    obtain ⟨h1, h2⟩ := List.append_inj' h rfl
    obtain rfl : x = k := by simpa using h2
    exact ⟨h1, rfl⟩
theorem keepM_grown {B m : Nat} {G : Nat → Prop} {W W' : World} {row : Option Nat} (hg : W.grownBy W' row) (h : ∀ r, row = some r → ¬ (B ≤ r ∧ r < B + m) ∧ ¬ G r) : KeepM B m G W W' :=
  ⟨hg.size, fun k hk hh => hg.block k hk (fun e => by have := h k e.symm; rcases hh with hh | hh; exact this.1 hh; exact this.2 hh)⟩
theorem keepM_below {B m : Nat} {G : Nat → Prop} {W W' : World} (hb : Below W.heap.size W W') : KeepM B m G W W' := .of_below hb
/-- the nine cells of a row stored -/
def set9 (W : World) (g : Nat) (a b c d e f h i j : UInt8) : World :=
  ((((((((W.setCell ⟨g, 0, none⟩ (.int .u8 a.toNat)).setCell ⟨g, 1, none⟩ (.int .u8 b.toNat)).setCell ⟨g, 2, none⟩ (.int .u8 c.toNat)).setCell ⟨g, 3, none⟩ (.int .u8 d.toNat)).setCell ⟨g, 4, none⟩ (.int .u8 e.toNat)).setCell ⟨g, 5, none⟩ (.int .u8 f.toNat)).setCell ⟨g, 6, none⟩ (.int .u8 h.toNat)).setCell ⟨g, 7, none⟩ (.int .u8 i.toNat)).setCell ⟨g, 8, none⟩ (.int .u8 j.toNat)
theorem set9_row {W : World} {g : Nat} {a b c d e f h i j a' b' c' d' e' f' h' i' j' : UInt8} (r : Row9 W g a' b' c' d' e' f' h' i' j') : Row9 (set9 W g a b c d e f h i j) g a b c d e f h i j := by
  obtain ⟨c0, c1, c2, c3, c4, c5, c6, c7, c8, fr⟩ := r
  unfold set9
  exact ⟨by simp [go_sem, c0], by simp [go_sem, c1], by simp [go_sem, c2], by simp [go_sem, c3], by simp [go_sem, c4], by simp [go_sem, c5], by simp [go_sem, c6], by simp [go_sem, c7], by simp [go_sem, c8], fun o => by simp [go_sem, fr]⟩
theorem set9_far {W : World} {g : Nat} {a b c d e f h i j : UInt8} {p : Addr} (hp : g ≠ p.block) : (set9 W g a b c d e f h i j).cell? p = W.cell? p := by
  unfold set9
  simp only [World.cell?_setCell_far _ _ _ _ (show (⟨g, 0, none⟩ : Addr).block ≠ p.block from hp), World.cell?_setCell_far _ _ _ _ (show (⟨g, 1, none⟩ : Addr).block ≠ p.block from hp), World.cell?_setCell_far _ _ _ _ (show (⟨g, 2, none⟩ : Addr).block ≠ p.block from hp), World.cell?_setCell_far _ _ _ _ (show (⟨g, 3, none⟩ : Addr).block ≠ p.block from hp), World.cell?_setCell_far _ _ _ _ (show (⟨g, 4, none⟩ : Addr).block ≠ p.block from hp), World.cell?_setCell_far _ _ _ _ (show (⟨g, 5, none⟩ : Addr).block ≠ p.block from hp), World.cell?_setCell_far _ _ _ _ (show (⟨g, 6, none⟩ : Addr).block ≠ p.block from hp), World.cell?_setCell_far _ _ _ _ (show (⟨g, 7, none⟩ : Addr).block ≠ p.block from hp), World.cell?_setCell_far _ _ _ _ (show (⟨g, 8, none⟩ : Addr).block ≠ p.block from hp)]
theorem set9_size (W : World) (g : Nat) (a b c d e f h i j : UInt8) : (set9 W g a b c d e f h i j).heap.size = W.heap.size := by
  unfold set9
  simp
theorem set9_frozen {W : World} {g : Nat} {a b c d e f h i j : UInt8} (p : Addr) : (set9 W g a b c d e f h i j).frozen? p = W.frozen? p := by
  unfold set9
  simp [go_sem]
theorem set9_below {w W : World} {N g : Nat} {a b c d e f h i j : UInt8} (hb : Below N w W) (hg : N ≤ g) : Below N w (set9 W g a b c d e f h i j) :=
  ((((((((hb.setCell hg _).setCell hg _).setCell hg _).setCell hg _).setCell hg _).setCell hg _).setCell hg _).setCell hg _).setCell hg _
theorem set9_own {W : World} {N g : Nat} {a b c d e f h i j : UInt8} {t : TypeId} {k n : Nat} {v : Value} {xs : List Value} (h0 : W.ownsRow N t k v n xs) (hg : g < N) : (set9 W g a b c d e f h i j).ownsRow N t k v n xs :=
  ownsRow_setCell_below (ownsRow_setCell_below (ownsRow_setCell_below (ownsRow_setCell_below (ownsRow_setCell_below (ownsRow_setCell_below (ownsRow_setCell_below (ownsRow_setCell_below (ownsRow_setCell_below h0 hg _) hg _) hg _) hg _) hg _) hg _) hg _) hg _) hg _
theorem set9_keep {B m : Nat} {G : Nat → Prop} {W0 W : World} {g : Nat} {a b c d e f h i j : UInt8} (hk : KeepM B m G W0 W) (hg : ¬ (B ≤ g ∧ g < B + m)) (hG : ¬ G g) : KeepM B m G W0 (set9 W g a b c d e f h i j) :=
  ((((((((hk.setCell (p := ⟨g, 0, none⟩) hg hG _).setCell (p := ⟨g, 1, none⟩) hg hG _).setCell (p := ⟨g, 2, none⟩) hg hG _).setCell (p := ⟨g, 3, none⟩) hg hG _).setCell (p := ⟨g, 4, none⟩) hg hG _).setCell (p := ⟨g, 5, none⟩) hg hG _).setCell (p := ⟨g, 6, none⟩) hg hG _).setCell (p := ⟨g, 7, none⟩) hg hG _).setCell (p := ⟨g, 8, none⟩) hg hG _
theorem LBI.set {w W : World} {Ab Lb S B k : Nat} {l : List UInt8} {a b c d e f h i j : UInt8} (hi : LBI w Ab Lb S B l k W ∨ (∃ v, W.cell? ⟨Ab, 0, none⟩ = some v ∧ W.ownsRow B 5 1 v (accG l k).length (u8s (accG l k))) ∧ W.frozen? ⟨Ab, 0, none⟩ = false ∧ (∃ a b c d e f h i j, Row9 W Lb a b c d e f h i j) ∧ (∀ j (h : j < l.length), W.cell? ⟨S, j, none⟩ = some (.int .u8 (l[j].toNat : Int))) ∧ Below w.heap.size w W)
    (hne : Lb ≠ Ab) (hnS : Lb ≠ S) (hLB : Lb < B) (hwL : w.heap.size ≤ Lb) (hl : lastK l k = [a, b, c, d, e, f, h, i, j]) : LBI w Ab Lb S B l k (set9 W Lb a b c d e f h i j) := by
  obtain ⟨⟨v, h1, h2⟩, h3, ⟨a', b', c', d', e', f', h', i', j', h5⟩, h6, h7⟩ : (∃ v, W.cell? ⟨Ab, 0, none⟩ = some v ∧ W.ownsRow B 5 1 v (accG l k).length (u8s (accG l k))) ∧ W.frozen? ⟨Ab, 0, none⟩ = false ∧ (∃ a b c d e f h i j, Row9 W Lb a b c d e f h i j) ∧ (∀ j (h : j < l.length), W.cell? ⟨S, j, none⟩ = some (.int .u8 (l[j].toNat : Int))) ∧ Below w.heap.size w W := by
    rcases hi with hi | hi
    · obtain ⟨a, b, c, d, e, f, h, i, j, _, h5⟩ := hi.last
      exact ⟨hi.acc, hi.accf, ⟨a, b, c, d, e, f, h, i, j, h5⟩, hi.src, hi.below⟩
    · exact hi
  exact ⟨⟨v, (set9_far (p := ⟨Ab, 0, none⟩) hne).trans h1, set9_own h2 hLB⟩, (set9_frozen _).trans h3, ⟨a, b, c, d, e, f, h, i, j, hl, set9_row h5⟩, fun j hj => (set9_far (p := ⟨S, j, none⟩) hnS).trans (h6 j hj), set9_below h7 hwL⟩
theorem src_piece {W : World} {S L : Nat} {l : List UInt8} (hL : l.length = L) (h : ∀ j (h : j < l.length), W.cell? ⟨S, j, none⟩ = some (.int .u8 (l[j].toNat : Int))) (x : Nat) : BytesOf W (.slice (some ((⟨S, 0, none⟩ : Addr).add (8 * x))) (min 8 (L - 8 * x)) (min 8 (L - 8 * x))) (pc l x) := by
  subst hL
  rw [← pc_length]
  refine .inr ⟨_, _, rfl, Nat.le_refl _, fun j hj => ?_⟩
  have hj2 : 8 * x + j < l.length := by rw [pc_length] at hj; omega
  have e : (pc l x)[j] = l[8 * x + j] := by simp [pc]
  have e2 : ((⟨S, 0, none⟩ : Addr).add (8 * x)).add j = ⟨S, 8 * x + j, none⟩ := by rw [Addr.add_lit, Addr.add_lit, Nat.zero_add]
  rw [e2, h _ hj2, e]
theorem wpAnyInK_one {F : Fence} {n : Nat} {P : Program} {md : Region.Mode} {ops : Array Oper} {Q : Exit → Act → World → Prop} {fuel : Nat} {listed : Array Bool} {a : Act} {w : World} (i : Nat) (h1 : Region.ready md ops listed = [i]) (h : wpOpIn F n P ops Q i (wpAnyIn F n P md ops Q fuel (listed.setIfInBounds i true)) a w) : wpAnyIn F n P md ops Q (fuel + 1) listed a w := by
  unfold wpAnyIn
  refine ⟨fun h0 => ?_, fun j hj => ?_⟩
  · rw [h1] at h0
    cases h0
  · rw [h1] at hj
    rw [List.mem_singleton.1 hj]
    exact h
theorem wpAnyInK_two {F : Fence} {n : Nat} {P : Program} {md : Region.Mode} {ops : Array Oper} {Q : Exit → Act → World → Prop} {fuel : Nat} {listed : Array Bool} {a : Act} {w : World} (i j : Nat) (h1 : Region.ready md ops listed = [i, j]) (hi : wpOpIn F n P ops Q i (wpAnyIn F n P md ops Q fuel (listed.setIfInBounds i true)) a w) (hj : wpOpIn F n P ops Q j (wpAnyIn F n P md ops Q fuel (listed.setIfInBounds j true)) a w) : wpAnyIn F n P md ops Q (fuel + 1) listed a w := by
  unfold wpAnyIn
  refine ⟨fun h0 => ?_, fun k hk => ?_⟩
  · rw [h1] at h0
    cases h0
  · rw [h1] at hk
    rcases List.mem_cons.1 hk with rfl | hk
    · exact hi
    · rw [List.mem_singleton.1 hk]
      exact hj
theorem wpOpInK_append {F : Fence} (hF : ∀ f, F.fn f) {n : Nat} {P : Program} {ops : Array Oper} {Q : Exit → Act → World → Prop} {i : Nat} {K : Act → World → Prop} {a : Act} {w : World} {o : Oper} (ho : ops[i]? = some o) (hg : o.guard = none) {s x : Operand} {t : TypeId} (hop : o.op = Op.call { callee := Callee.builtin Builtin.append, args := #[s, x], argTypes := #[t, t] })
    {v u v' : Value} {w' : World} (hs : a.eval s = v) (hx : a.eval x = u) (hrun : (Builtin.append_ #[t, t] o.type #[v, u]).run P w = .ok v' w') (hK : K (a.put o.dst v') w') : wpOpIn F n P ops Q i K a w := by
  unfold wpOpIn
  rw [ho]
  have hw : Region.wanted o (yielded ops a.tmps) = true := by simp [Region.wanted, hg]
  simp only [hw, if_true]
  unfold Oper.wpIn
  refine ⟨fun f _ => hF f, ?_⟩
  rw [Oper.semAt_eq _ _ _ (by intro c; rw [hop]; simp)]
  simp [execOp, hop, resolve, invoke, builtin, hs, hx, hrun, Result.andThen, Oper.uponIn]
  exact hK
theorem step_append_hrun {P : Program} {ops : Array Oper} {o : Oper} {a : Act} {w : World} {K : Act → World → Prop} {Q : Exit → Act → World → Prop} {E : Prop}
    (hg : o.guard = none) (s x : Operand) (t : TypeId) (hop : o.op = Op.call { callee := Callee.builtin Builtin.append, args := #[s, x], argTypes := #[t, t] })
    {v u v' : Value} {w' : World} (hs : a.eval s = v) (hx : a.eval x = u) (hrun : (Builtin.append_ #[t, t] o.type #[v, u]).run P w = .ok v' w') (hK : K (a.put o.dst v') w') :
    if Region.wanted o (yielded ops a.tmps) = true then Oper.wp P o a w K Q else E := by
  have hw : Region.wanted o (yielded ops a.tmps) = true := by simp [Region.wanted, hg]
  rw [if_pos hw]
  unfold Oper.wp
  simp [execOp, hop, resolve, invoke, builtin, hs, hx, hrun, Result.andThen]
  exact hK
theorem Row9.drew {W : World} {g : Nat} {a b c d e f h i j : UInt8} (r : Row9 W g a b c d e f h i j) : Row9 W.drew g a b c d e f h i j := ⟨r.c0, r.c1, r.c2, r.c3, r.c4, r.c5, r.c6, r.c7, r.c8, r.fr⟩
theorem bytes_put {W : World} {v : Value} {l : List UInt8} (h : BytesOf W v l) {r : Nat} {ds : Option (List Deferred)} (hr : W.heap[r]? = some (.deferred ds)) (o : Obj) : BytesOf (W.putObj r o) v l := by
  rcases h with h | ⟨a, cap, rfl, hl, hc⟩
  · exact .inl h
  · refine .inr ⟨a, cap, rfl, hl, fun j hj => ?_⟩
    have hne : (a.add j).block ≠ r := fun e => by
      have := hc j hj
      simp [World.cell?, e, hr] at this
    rw [World.cell?_of_block (World.putObj_heap_other hne)]
    exact hc j hj
theorem own_slice {W : World} {B n : Nat} {v : Value} {xs : List Value} (h : W.ownsRow B 5 1 v n xs) : ∃ a c, v = .slice a n c := by
  rcases h.2 with ⟨e0, h0⟩ | ⟨g, cap, cur, e0, _⟩
  · exact ⟨none, 0, by rw [e0, h0]⟩
  · exact ⟨_, _, e0⟩
theorem row9_bytes {W : World} {g : Nat} {a b c d e f h i j : UInt8} (r : Row9 W g a b c d e f h i j) : BytesOf W (.slice (some ⟨g, 0, none⟩) 9 9) [a, b, c, d, e, f, h, i, j] := by
  refine .inr ⟨_, 9, rfl, Nat.le_refl _, fun k hk => ?_⟩
  rw [Addr.add_lit, Nat.zero_add]
  rcases (show k = 0 ∨ k = 1 ∨ k = 2 ∨ k = 3 ∨ k = 4 ∨ k = 5 ∨ k = 6 ∨ k = 7 ∨ k = 8 by simp at hk; omega) with rfl | rfl | rfl | rfl | rfl | rfl | rfl | rfl | rfl
  · exact r.c0
  · exact r.c1
  · exact r.c2
  · exact r.c3
  · exact r.c4
  · exact r.c5
  · exact r.c6
  · exact r.c7
  · exact r.c8
end Go.Proofs.YtcedeipmboekaaaGreatDoor
