/-
  swingbridgelaw10.told.
-/
import Derived.Test.YtbhgcioeibhjeaaGreatDoorLEach
import Derived.Test.YtbhgcioeibhjeaaGreatDoorSqFs
namespace Go.Proofs.YtbhgcioeibhjeaaGreatDoor
open Go.RowKit Go.Shelf
attribute [local go_sem] Oper.semAt_some

def bsR (R : List (Nat × List UInt8)) : List (List UInt8) := R.map (·.2)
def bsT (pre : List (Value × (Nat × List UInt8))) : List (List UInt8) := pre.map (·.2.2)
theorem bsT_R {xs : List (Value × (Nat × List UInt8))} {R : List (Nat × List UInt8)} (h : xs.map (·.2) = R) : bsT xs = bsR R := by
  subst h
  simp [bsT, bsR]
def toldV (R : List (Nat × List UInt8)) (L : List (List UInt8)) : Value := if bsR R <+: L then .tuple #[.int .i64 (R.length : Nat), .bool true] else .tuple #[.int .i64 0, .bool false]
theorem toldV_yes {R : List (Nat × List UInt8)} {L : List (List UInt8)} (h : bsR R <+: L) : toldV R L = .tuple #[.int .i64 (R.length : Nat), .bool true] := if_pos h
theorem toldV_no {R : List (Nat × List UInt8)} {L : List (List UInt8)} (h : ¬ bsR R <+: L) : toldV R L = .tuple #[.int .i64 0, .bool false] := if_neg h
/-- rows of bytes in a slice of slices -/
def RowsB (W : World) (ol : Option Addr) (L : List (List UInt8)) : Prop := ∀ (j : Nat) (h : j < L.length), ∃ a v, ol = some a ∧ W.cell? (a.add j) = some v ∧ BtAt W v L[j]
theorem RowsB.keep {W W' : World} {ol : Option Addr} {L : List (List UInt8)} (h : RowsB W ol L) (hb : Below W.heap.size W W') : RowsB W' ol L := fun j hj => by
  obtain ⟨a, v, h1, h2, h3⟩ := h j hj
  exact ⟨a, v, h1, (hb.cell (World.block_lt_of_cell? W _ h2)).trans h2, h3.keep hb⟩
/-- what lies in memory while told goes over the records -/
structure TI (W : World) (B T n : Nat) (lv : Value) (rn : Int) (ok : Bool) (V : World) : Prop where
  l : V.cell? ⟨B, 0, none⟩ = some lv
  r : V.cell? ⟨B + 1, 0, none⟩ = some (.int .i64 rn)
  rf : V.frozen? ⟨B + 1, 0, none⟩ = false
  o : V.cell? ⟨B + 1 + 1, 0, none⟩ = some (.bool ok)
  of : V.frozen? ⟨B + 1 + 1, 0, none⟩ = false
  n : V.cell? ⟨T, 0, none⟩ = some (.int .i64 n)
  nf : V.frozen? ⟨T, 0, none⟩ = false
  b : Below W.heap.size W V
/-- its first three boxes -/
structure TB (W : World) (B : Nat) (lv : Value) (rn : Int) (ok : Bool) (V : World) : Prop where
  l : V.cell? ⟨B, 0, none⟩ = some lv
  r : V.cell? ⟨B + 1, 0, none⟩ = some (.int .i64 rn)
  rf : V.frozen? ⟨B + 1, 0, none⟩ = false
  o : V.cell? ⟨B + 1 + 1, 0, none⟩ = some (.bool ok)
  of : V.frozen? ⟨B + 1 + 1, 0, none⟩ = false
  b : Below W.heap.size W V
theorem TB.below {W : World} {B N : Nat} {lv : Value} {rn : Int} {ok : Bool} {V V' : World} (h : TB W B lv rn ok V) (hb : Below N V V') (hN : B + 3 ≤ N) (hW : W.heap.size ≤ B := by omega) : TB W B lv rn ok V' :=
  ⟨(hb.cell (by show B < N; omega)).trans h.l, (hb.cell (by show B + 1 < N; omega)).trans h.r, (hb.frozen (by show B + 1 < N; omega)).trans h.rf, (hb.cell (by show B + 1 + 1 < N; omega)).trans h.o, (hb.frozen (by show B + 1 + 1 < N; omega)).trans h.of, h.b.trans (hb.mono (by omega))⟩
theorem TI.boxes (W : World) (lv : Value) (T1 T2 T3 : TypeId) (hlv : lv.cells = #[lv] := by rfl) : TB W W.heap.size lv 0 false (((W.alloc (.cells #[lv] T1)).alloc (.cells #[.int .i64 0] T2)).alloc (.cells #[.bool false] T3)) := by
  have h0 : (((W.alloc (.cells #[lv] T1)).alloc (.cells #[.int .i64 0] T2)).alloc (.cells #[.bool false] T3)).heap[W.heap.size]? = some (.cells #[lv] T1 (0, 0)) :=
    (Below.heap_alloc _ _ _ (by simp; omega)).trans ((Below.heap_alloc _ _ _ (by simp)).trans (heap_alloc_at W _))
  have h1 : (((W.alloc (.cells #[lv] T1)).alloc (.cells #[.int .i64 0] T2)).alloc (.cells #[.bool false] T3)).heap[W.heap.size + 1]? = some (.cells #[.int .i64 0] T2 (0, 0)) := by
    have h := heap_alloc_at (W.alloc (.cells #[lv] T1)) (.cells #[.int .i64 0] T2)
    rw [World.size_alloc] at h
    exact (Below.heap_alloc _ _ _ (by simp)).trans h
  have h2 : (((W.alloc (.cells #[lv] T1)).alloc (.cells #[.int .i64 0] T2)).alloc (.cells #[.bool false] T3)).heap[W.heap.size + 1 + 1]? = some (.cells #[.bool false] T3 (0, 0)) := by
    have h := heap_alloc_at ((W.alloc (.cells #[lv] T1)).alloc (.cells #[.int .i64 0] T2)) (.cells #[.bool false] T3)
    rw [World.size_alloc, World.size_alloc] at h
    exact h
  exact ⟨by simp only [World.cell?]; rw [h0]; rfl, by simp only [World.cell?]; rw [h1]; rfl, by simp only [World.frozen?]; rw [h1]; rfl, by simp only [World.cell?]; rw [h2]; rfl, by simp only [World.frozen?]; rw [h2]; rfl,
    (((Below.refl _ W).alloc (Nat.le_refl _) _).alloc (by simp) _).alloc (by simp; omega) _⟩
theorem notpre_len {pre : List (Value × (Nat × List UInt8))} {x : Value × (Nat × List UInt8)} {R : List (Nat × List UInt8)} {L : List (List UInt8)} (h : (pre ++ [x]).map (·.2) <+: R) (hn : L.length ≤ pre.length) : ¬ bsR R <+: L := fun hp => by
  have h1 := h.length_le
  have h2 := hp.length_le
  simp [bsR] at h1 h2
  omega
theorem notpre_ne {pre : List (Value × (Nat × List UInt8))} {x : Value × (Nat × List UInt8)} {R : List (Nat × List UInt8)} {L : List (List UInt8)} (h : (pre ++ [x]).map (·.2) <+: R) (hn : pre.length < L.length) (hne : x.2.2 ≠ L[pre.length]) : ¬ bsR R <+: L := fun hp => by
  obtain ⟨q, rfl⟩ := h
  obtain ⟨r, rfl⟩ := hp
  apply hne
  simp [bsR]
theorem pre_nextL {pre : List (Value × (Nat × List UInt8))} {x : Value × (Nat × List UInt8)} {L : List (List UInt8)} (h : bsT pre <+: L) (hn : pre.length < L.length) (he : x.2.2 = L[pre.length]) : bsT (pre ++ [x]) <+: L := by
  rw [List.prefix_iff_eq_take] at h ⊢
  unfold bsT at h ⊢
  rw [List.map_append, List.map_singleton, List.length_append, List.length_map, List.length_singleton, List.take_succ_eq_append_getElem hn, he]
  rw [List.length_map] at h
  rw [← h]
theorem TI.tb {W : World} {B T n : Nat} {lv : Value} {rn : Int} {ok : Bool} {V : World} (h : TI W B T n lv rn ok V) : TB W B lv rn ok V := ⟨h.l, h.r, h.rf, h.o, h.of, h.b⟩
theorem TI.below {W : World} {B T n N : Nat} {lv : Value} {rn : Int} {ok : Bool} {V V' : World} (h : TI W B T n lv rn ok V) (hb : Below N V V') (hN : B + 3 ≤ N) (hT : T < N) (hW : W.heap.size ≤ B := by omega) : TI W B T n lv rn ok V' := by
  obtain ⟨a, b, c, d, e, g⟩ := h.tb.below hb hN hW
  exact ⟨a, b, c, d, e, (hb.cell (by exact hT)).trans h.n, (hb.frozen (by exact hT)).trans h.nf, g⟩
theorem TI.next {W : World} {B T n : Nat} {lv : Value} {rn : Int} {ok : Bool} {V : World} (h : TI W B T n lv rn ok V) (hT : B + 3 ≤ T) (hW : W.heap.size ≤ B) (m : Int) (k : Nat) (hm : m = k) : TI W B T k lv rn ok (V.setCell ⟨T, 0, none⟩ (.int .i64 m)) := by
  subst hm
  have nn : ∀ j, j < B + 3 → (⟨T, 0, none⟩ : Addr) ≠ ⟨j, 0, none⟩ := fun j hj e => by have h := congrArg Addr.block e; simp at h; omega
  exact ⟨(World.cell?_setCell_other _ _ _ _ (nn B (by omega))).trans h.l, (World.cell?_setCell_other _ _ _ _ (nn (B + 1) (by omega))).trans h.r, (World.frozen?_setCell _ _ _ _).trans h.rf, (World.cell?_setCell_other _ _ _ _ (nn (B + 1 + 1) (by omega))).trans h.o, (World.frozen?_setCell _ _ _ _).trans h.of, World.cell?_setCell_same' _ _ _ (by rw [h.n]; rfl), (World.frozen?_setCell _ _ _ _).trans h.nf, h.b.setCell (p := ⟨T, 0, none⟩) (by show W.heap.size ≤ T; omega) _⟩
theorem TI.ends {W : World} {B T n : Nat} {lv : Value} {rn : Int} {ok : Bool} {V : World} (h : TI W B T n lv rn ok V) (hT : B + 3 ≤ T) (hW : W.heap.size ≤ B) (m : Int) (ok' : Bool) : TI W B T n lv m ok' ((V.setCell ⟨B + 1, 0, none⟩ (.int .i64 m)).setCell ⟨B + 1 + 1, 0, none⟩ (.bool ok')) := by
  have n1 : (⟨B + 1, 0, none⟩ : Addr) ≠ ⟨B + 1 + 1, 0, none⟩ := fun e => by simp at e
  have m0 : (⟨B + 1, 0, none⟩ : Addr) ≠ ⟨B, 0, none⟩ := fun e => by simp at e
  have m1 : (⟨B + 1 + 1, 0, none⟩ : Addr) ≠ ⟨B, 0, none⟩ := fun e => by simp at e
  have t0 : (⟨B + 1, 0, none⟩ : Addr) ≠ ⟨T, 0, none⟩ := fun e => by have h := congrArg Addr.block e; simp at h; omega
  have t1 : (⟨B + 1 + 1, 0, none⟩ : Addr) ≠ ⟨T, 0, none⟩ := fun e => by have h := congrArg Addr.block e; simp at h; omega
  have ff : ∀ a, ((V.setCell ⟨B + 1, 0, none⟩ (.int .i64 m)).setCell ⟨B + 1 + 1, 0, none⟩ (.bool ok')).frozen? a = V.frozen? a := fun a => by rw [World.frozen?_setCell, World.frozen?_setCell]
  refine ⟨?_, ?_, (ff _).trans h.rf, ?_, (ff _).trans h.of, ?_, (ff _).trans h.nf, (h.b.setCell (p := ⟨B + 1, 0, none⟩) (by show W.heap.size ≤ B + 1; omega) _).setCell (p := ⟨B + 1 + 1, 0, none⟩) (by show W.heap.size ≤ B + 1 + 1; omega) _⟩
  · rw [World.cell?_setCell_other _ _ _ _ m1, World.cell?_setCell_other _ _ _ _ m0]
    exact h.l
  · rw [World.cell?_setCell_other _ _ _ _ n1.symm]
    exact World.cell?_setCell_same' _ _ _ (by rw [h.r]; rfl)
  · exact World.cell?_setCell_same' _ _ _ (by rw [World.cell?_setCell_other _ _ _ _ n1, h.o]; rfl)
  · rw [World.cell?_setCell_other _ _ _ _ t1, World.cell?_setCell_other _ _ _ _ t0]
    exact h.n
theorem cell_loop {V : World} {a : Addr} {v : Value} {k : Nat} {r : Loop} (h : V.cell? a = some v) (hD : V.heap[k]? = some (.loop r)) (o : Obj) : (V.putObj k o).cell? a = some v := by
  have hne : a.block ≠ k := fun e => by
    simp only [World.cell?, e, hD] at h
    cases h
  rw [World.cell?_of_block (World.putObj_heap_other hne)]
  exact h
theorem BtAt.loop {V : World} {v : Value} {b : List UInt8} {k : Nat} {r : Loop} (h : BtAt V v b) (hD : V.heap[k]? = some (.loop r)) (o : Obj) : BtAt (V.putObj k o) v b := by
  obtain ⟨oa, cap, e, hc⟩ := h
  refine ⟨oa, cap, e, fun j hj => ?_⟩
  obtain ⟨a, ha, hcell⟩ := hc j hj
  exact ⟨a, ha, cell_loop hcell hD o⟩
end Go.Proofs.YtbhgcioeibhjeaaGreatDoor
