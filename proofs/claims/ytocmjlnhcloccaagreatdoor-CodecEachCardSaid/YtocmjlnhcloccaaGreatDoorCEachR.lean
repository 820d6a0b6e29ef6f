/-
  swingbridgelaw04.CodecEach: its cells and its two rows while it gathers what is asked.
-/
import Derived.Test.YtocmjlnhcloccaaGreatDoorCEachI
import Derived.Test.YtocmjlnhcloccaaGreatDoorCRVl
import Derived.Deep.RegionLaw
import Derived.Maps.AppendAt
import Derived.RangeFuncBox
namespace Go.Proofs.YtocmjlnhcloccaaGreatDoor
open Go.RowKit

theorem step_append_row {P : Program} {ops : Array Oper} {o : Oper} {a : Act} {w : World} {K : Act → World → Prop} {Q : Exit → Act → World → Prop} {E : Prop}
    (hg : o.guard = none) (s x : Operand) (t : TypeId) (hop : o.op = Op.call { callee := Callee.builtin Builtin.append, args := #[s, x], argTypes := #[t, t] })
    (base : Nat) (e : TypeId) (i : TypeInfo) (z : Value) (size bytes : Nat) (h1 : P.underlying t = some (.slice e)) (h2 : P.info? e = some i) (h3 : i.zero = some z) (h4 : i.size = size) (h5 : i.bytes = bytes) (h6 : z.cells.size = size) (h7 : 0 < size)
    (v : Value) (n : Nat) (olds : List Value) (hs : a.eval s = v) (hown : w.ownsRow base e size v n olds)
    (ad : Addr) (m c : Nat) (news : List Value) (hx : a.eval x = .slice (some ad) m c) (hn : news.length = m * size) (hc : ∀ j u, news[j]? = some u → w.cell? (ad.add j) = some u) (h1c : ∀ u ∈ news, u.oneCell' = true)
    (b1 : n + m ≤ maxLen) (b2 : (n + m) * bytes ≤ 140737488355328) (hb : base ≤ w.heap.size)
    (hK : ∀ v' w', w'.ownsRow base e size v' (n + m) (olds ++ news) → w.grownBy w' v.ownBlock → K (a.put o.dst v') w') :
    if Region.wanted o (yielded ops a.tmps) = true then Oper.wp P o a w K Q else E := by
  have hw : Region.wanted o (yielded ops a.tmps) = true := by simp [Region.wanted, hg]
  rw [if_pos hw]
  obtain ⟨v', w', hrun, r1, r2, _⟩ := run_append_own (P := P) w base t o.type e i z size bytes h1 h2 h3 h4 h5 h6 h7 v n olds hown ad m c news hn hc h1c b1 b2 hb
  unfold Oper.wp
  simp [execOp, hop, resolve, invoke, builtin, hs, hx, hrun, Result.andThen]
  exact hK v' w' r1 r2

/-- a row that is gathered: a slice of values in a block of values -/
def RowT (N : Nat) (W : World) (v : Value) (vs : List Vl) : Prop := SliceOf W v vs ∧ ∀ g, v.ownBlock = some g → N + 2 ≤ g ∧ ∃ cur, W.heap[g]? = some (.cells cur 68 (0, 0))
theorem RowT.grown {N : Nat} {W W' : World} {v : Value} {vs : List Vl} {row : Option Nat} (h : RowT N W v vs) (hg : W.grownBy W' row) (hne : ∀ (g : Nat) (cur : Array Value), N + 2 ≤ g → W.heap[g]? = some (.cells cur 68 (0, 0)) → some g ≠ row) : RowT N W' v vs := by
  obtain ⟨hs, ht⟩ := h
  rcases hs with ⟨rfl, rfl⟩ | ⟨a, cap, rfl, hc, hv⟩
  · exact ⟨.inl ⟨rfl, rfl⟩, fun g hg => by cases hg⟩
  · obtain ⟨h1, cur, h2⟩ := ht a.block rfl
    have he := hg.block a.block (Array.getElem?_eq_some_iff.1 h2).1 (hne _ cur h1 h2)
    refine ⟨.inr ⟨a, cap, rfl, hc, fun j hj => ?_⟩, fun g hgg => ?_⟩
    · obtain ⟨q0, q1, q2, q3⟩ := hv j hj
      have hb : (a.add (j * 4)).block = a.block := Addr.add_block _ _
      have he' : W'.heap[(a.add (j * 4)).block]? = W.heap[(a.add (j * 4)).block]? := by rw [hb]; exact he
      exact ⟨(World.cell?_of_block he').trans q0, (World.cell?_of_block (a := ⟨(a.add (j * 4)).block, _, none⟩) he').trans q1, (World.cell?_of_block (a := ⟨(a.add (j * 4)).block, _, none⟩) he').trans q2, (World.cell?_of_block (a := ⟨(a.add (j * 4)).block, _, none⟩) he').trans q3⟩
    · obtain rfl : a.block = g := Option.some.inj hgg
      exact ⟨h1, cur, he.trans h2⟩
theorem RowT.one {N : Nat} {W : World} {v : Value} {vs : List Vl} (h : RowT N W v vs) : v.oneCell' = true := by
  rcases h.1 with ⟨rfl, _⟩ | ⟨a, cap, rfl, _⟩ <;> rfl
def RwsIn (N : Nat) (W : World) (lo : List Value) (Lo : List (List Vl)) : Prop := lo.length = Lo.length ∧ ∀ (j : Nat) (h : j < lo.length) (h2 : j < Lo.length), RowT N W lo[j] Lo[j]
theorem RwsIn.grown {N : Nat} {W W' : World} {lo : List Value} {Lo : List (List Vl)} {row : Option Nat} (h : RwsIn N W lo Lo) (hg : W.grownBy W' row) (hne : ∀ (g : Nat) (cur : Array Value), N + 2 ≤ g → W.heap[g]? = some (.cells cur 68 (0, 0)) → some g ≠ row) : RwsIn N W' lo Lo := ⟨h.1, fun j h1 h2 => (h.2 j h1 h2).grown hg hne⟩
theorem RwsIn.snoc {N : Nat} {W : World} {lo : List Value} {Lo : List (List Vl)} {v : Value} {vs : List Vl} (h : RwsIn N W lo Lo) (hv : RowT N W v vs) : RwsIn N W (lo ++ [v]) (Lo ++ [vs]) := by
  refine ⟨by simp [h.1], fun j h1 h2 => ?_⟩
  by_cases hj : j < lo.length
  · have hj2 : j < Lo.length := by rw [← h.1]; exact hj
    rw [List.getElem_append_left hj, List.getElem_append_left hj2]
    exact h.2 j hj hj2
  · have e : j = lo.length := by simp at h1; omega
    subst e
    rw [List.getElem_append_right (Nat.le_refl _), List.getElem_append_right (by rw [h.1]; exact Nat.le_refl _)]
    simpa [h.1] using hv
theorem own_other {W : World} {B e n : Nat} {v : Value} {xs : List Value} (h : W.ownsRow B e 1 v n xs) (he : e ≠ 68) (N : Nat) : ∀ (g : Nat) (cur : Array Value), N + 2 ≤ g → W.heap[g]? = some (.cells cur 68 (0, 0)) → some g ≠ v.ownBlock := fun g cur _ hc hg => by
  obtain ⟨_, cur', hc'⟩ := own_typed h g hg.symm
  rw [hc] at hc'
  simp only [Option.some.injEq, Obj.cells.injEq] at hc'
  exact he hc'.2.1.symm
/-- what lies in memory while the law gathers: the boxes of the schema, of many, of the result; at N, N + 1 those of the two rows -/
structure StC (w : World) (N : Nat) (sc : Array Value) (many : Int) (wr : World) (c5 c6 v5 v6 : Value) (l5 l6 lo : List Value) (Lo : List (List Vl)) : Prop where
  le : w.heap.size + 3 ≤ N
  sb : wr.heap[w.heap.size]? = some (.cells sc 26 (0, 0))
  many : wr.cell? ⟨w.heap.size + 1, 0, none⟩ = some (.int .i64 many)
  res : wr.cell? ⟨w.heap.size + 2, 0, none⟩ = some (.bool false)
  resF : wr.frozen? ⟨w.heap.size + 2, 0, none⟩ = false
  at5 : wr.cell? ⟨N, 0, none⟩ = some c5
  at5F : wr.frozen? ⟨N, 0, none⟩ = false
  at6 : wr.cell? ⟨N + 1, 0, none⟩ = some c6
  at6F : wr.frozen? ⟨N + 1, 0, none⟩ = false
  r5 : wr.ownsRow (N + 2) 3 1 v5 l5.length l5
  r6 : wr.ownsRow (N + 2) 27 1 v6 l6.length l6
  below : Below w.heap.size w wr
  rws : RwsIn N wr lo Lo
theorem StC.size {w wr : World} {N : Nat} {sc : Array Value} {many : Int} {c5 c6 v5 v6 : Value} {l5 l6 lo : List Value} {Lo : List (List Vl)} (h : StC w N sc many wr c5 c6 v5 v6 l5 l6 lo Lo) : N + 2 ≤ wr.heap.size := by
  have h1 : N + 1 < wr.heap.size := World.block_lt_of_cell? wr _ h.at6
  omega
/-- two rows of different types lie in different blocks -/
theorem rows_apart {W : World} {B e e' n n' : Nat} {v v' : Value} {xs ys : List Value} (h : W.ownsRow B e 1 v n xs) (h' : W.ownsRow B e' 1 v' n' ys) (he : e ≠ e') : v.ownBlock = none ∨ v.ownBlock ≠ v'.ownBlock := by
  rcases h.2 with ⟨rfl, _⟩ | ⟨g, cap, cur, rfl, _, hg, _⟩
  · exact .inl rfl
  · rcases h'.2 with ⟨rfl, _⟩ | ⟨g', cap', cur', rfl, _, hg', _⟩
    · exact .inr (by simp [Value.ownBlock])
    · refine .inr (fun hb => he ?_)
      simp only [Value.ownBlock, Option.some.injEq] at hb
      subst hb
      rw [hg] at hg'
      simp only [Option.some.injEq, Obj.cells.injEq] at hg'
      exact hg'.2.1
theorem StC.grown {w wr w' : World} {N : Nat} {sc : Array Value} {many : Int} {c5 c6 v5 v6 : Value} {l5 l6 lo : List Value} {Lo : List (List Vl)} {row : Option Nat} (h : StC w N sc many wr c5 c6 v5 v6 l5 l6 lo Lo) (hg : wr.grownBy w' row) (hr : ∀ k, row = some k → N + 2 ≤ k) (hne : ∀ (g : Nat) (cur : Array Value), N + 2 ≤ g → wr.heap[g]? = some (.cells cur 68 (0, 0)) → some g ≠ row) {u5 u6 : Value} {m5 m6 : List Value}
    (k5 : w'.ownsRow (N + 2) 3 1 u5 m5.length m5) (k6 : w'.ownsRow (N + 2) 27 1 u6 m6.length m6) : StC w N sc many w' c5 c6 u5 u6 m5 m6 lo Lo := by
  have hl := h.le
  have hs := h.size
  have hb : ∀ j, j < N + 2 → w'.heap[j]? = wr.heap[j]? := fun j hj => hg.block _ (by omega) (fun e => by have := hr _ e.symm; omega)
  have cc : ∀ j, j < N + 2 → w'.cell? ⟨j, 0, none⟩ = wr.cell? ⟨j, 0, none⟩ := fun j hj => World.cell?_of_block (hb j hj)
  have ff : ∀ j, j < N + 2 → w'.frozen? ⟨j, 0, none⟩ = wr.frozen? ⟨j, 0, none⟩ := fun j hj => World.frozen?_of_block (hb j hj)
  exact ⟨hl, (hb _ (by omega)).trans h.sb, (cc _ (by omega)).trans h.many, (cc _ (by omega)).trans h.res, (ff _ (by omega)).trans h.resF, (cc _ (by omega)).trans h.at5, (ff _ (by omega)).trans h.at5F, (cc _ (by omega)).trans h.at6, (ff _ (by omega)).trans h.at6F, k5, k6,
    h.below.grown hg (by omega) (fun k hk => by have := hr k hk; omega), h.rws.grown hg hne⟩
theorem StC.app5 {w wr w' : World} {N : Nat} {sc : Array Value} {many : Int} {c5 c6 v5 v6 : Value} {l5 l6 lo : List Value} {Lo : List (List Vl)} {u5 x : Value} (h : StC w N sc many wr c5 c6 v5 v6 l5 l6 lo Lo) (hown : w'.ownsRow (N + 2) 3 1 u5 (l5.length + 1) (l5 ++ [x])) (hg : wr.grownBy w' v5.ownBlock) : StC w N sc many w' c5 c6 u5 v6 (l5 ++ [x]) l6 lo Lo :=
  h.grown hg (fun k hk => (h.r5.lt k hk).1) (own_other h.r5 (by decide) N) (by rw [List.length_append]; exact hown) (h.r6.kept hg (rows_apart h.r6 h.r5 (by decide)))
theorem StC.app6 {w wr w' : World} {N : Nat} {sc : Array Value} {many : Int} {c5 c6 v5 v6 : Value} {l5 l6 lo : List Value} {Lo : List (List Vl)} {u6 x : Value} (h : StC w N sc many wr c5 c6 v5 v6 l5 l6 lo Lo) (hown : w'.ownsRow (N + 2) 27 1 u6 (l6.length + 1) (l6 ++ [x])) (hg : wr.grownBy w' v6.ownBlock) : StC w N sc many w' c5 c6 v5 u6 l5 (l6 ++ [x]) lo Lo :=
  h.grown hg (fun k hk => (h.r6.lt k hk).1) (own_other h.r6 (by decide) N) (h.r5.kept hg (rows_apart h.r5 h.r6 (by decide))) (by rw [List.length_append]; exact hown)
theorem StC.alloc {w wr : World} {N : Nat} {sc : Array Value} {many : Int} {c5 c6 v5 v6 : Value} {l5 l6 lo : List Value} {Lo : List (List Vl)} (h : StC w N sc many wr c5 c6 v5 v6 l5 l6 lo Lo) (o : Obj) : StC w N sc many (wr.alloc o) c5 c6 v5 v6 l5 l6 lo Lo :=
  h.grown (World.grownBy_alloc wr o none) (fun _ e => by cases e) (fun _ _ _ _ e => by cases e) (h.r5.alloc o) (h.r6.alloc o)
theorem StC.ne {w wr : World} {N : Nat} {sc : Array Value} {many : Int} {c5 c6 v5 v6 : Value} {l5 l6 lo : List Value} {Lo : List (List Vl)} (_h : StC w N sc many wr c5 c6 v5 v6 l5 l6 lo Lo) {v : Value} {e n k : Nat} {xs : List Value} (hr : wr.ownsRow (N + 2) e 1 v n xs) (hk : k < N + 2) : v.ownBlock = none ∨ v.ownBlock ≠ some k := by
  cases hv : v.ownBlock with
  | none => exact .inl rfl
  | some q => exact .inr (fun he => by have := (hr.lt q hv).1; cases he; omega)
/-- a store into the box of at -/
theorem StC.put5 {w wr : World} {N : Nat} {sc : Array Value} {many : Int} {c5 c6 v5 v6 : Value} {l5 l6 lo : List Value} {Lo : List (List Vl)} (h : StC w N sc many wr c5 c6 v5 v6 l5 l6 lo Lo) (u : Value) : StC w N sc many (wr.setCell ⟨N, 0, none⟩ u) u c6 v5 v6 l5 l6 lo Lo := by
  have hg := grownBy_setCell' wr N u
  have hl := h.le
  have hs := h.size
  have hb : ∀ j, j ≠ N → j < N + 2 → (wr.setCell ⟨N, 0, none⟩ u).heap[j]? = wr.heap[j]? := fun j hj h4 => hg.block _ (by omega) (fun e => hj (Option.some.inj e))
  have cc := fun j (hj : j ≠ N) (h4 : j < N + 2) => World.cell?_of_block (a := ⟨j, 0, none⟩) (hb j hj h4)
  have ff := fun j (hj : j ≠ N) (h4 : j < N + 2) => World.frozen?_of_block (a := ⟨j, 0, none⟩) (hb j hj h4)
  exact ⟨hl, (hb _ (by omega) (by omega)).trans h.sb, (cc _ (by omega) (by omega)).trans h.many, (cc _ (by omega) (by omega)).trans h.res, (ff _ (by omega) (by omega)).trans h.resF, World.cell?_setCell_same' _ _ _ (by rw [h.at5]; rfl), by rw [World.frozen?_setCell]; exact h.at5F, (cc _ (by omega) (by omega)).trans h.at6, (ff _ (by omega) (by omega)).trans h.at6F,
    h.r5.kept hg (h.ne h.r5 (by omega)), h.r6.kept hg (h.ne h.r6 (by omega)), h.below.setCell (p := ⟨N, 0, none⟩) (by simp; omega) _, h.rws.grown hg (fun g _ hg2 _ e => by have := Option.some.inj e; omega)⟩
/-- a store into the box of want -/
theorem StC.put6 {w wr : World} {N : Nat} {sc : Array Value} {many : Int} {c5 c6 v5 v6 : Value} {l5 l6 lo : List Value} {Lo : List (List Vl)} (h : StC w N sc many wr c5 c6 v5 v6 l5 l6 lo Lo) (u : Value) : StC w N sc many (wr.setCell ⟨N + 1, 0, none⟩ u) c5 u v5 v6 l5 l6 lo Lo := by
  have hg := grownBy_setCell' wr (N + 1) u
  have hl := h.le
  have hs := h.size
  have hb : ∀ j, j ≠ N + 1 → j < N + 2 → (wr.setCell ⟨N + 1, 0, none⟩ u).heap[j]? = wr.heap[j]? := fun j hj h4 => hg.block _ (by omega) (fun e => hj (Option.some.inj e))
  have cc := fun j (hj : j ≠ N + 1) (h4 : j < N + 2) => World.cell?_of_block (a := ⟨j, 0, none⟩) (hb j hj h4)
  have ff := fun j (hj : j ≠ N + 1) (h4 : j < N + 2) => World.frozen?_of_block (a := ⟨j, 0, none⟩) (hb j hj h4)
  exact ⟨hl, (hb _ (by omega) (by omega)).trans h.sb, (cc _ (by omega) (by omega)).trans h.many, (cc _ (by omega) (by omega)).trans h.res, (ff _ (by omega) (by omega)).trans h.resF, (cc _ (by omega) (by omega)).trans h.at5, (ff _ (by omega) (by omega)).trans h.at5F, World.cell?_setCell_same' _ _ _ (by rw [h.at6]; rfl), by rw [World.frozen?_setCell]; exact h.at6F,
    h.r5.kept hg (h.ne h.r5 (by omega)), h.r6.kept hg (h.ne h.r6 (by omega)), h.below.setCell (p := ⟨N + 1, 0, none⟩) (by simp; omega) _, h.rws.grown hg (fun g _ hg2 _ e => by have := Option.some.inj e; omega)⟩
/-- the row that is read last -/
theorem StC.row {w wr : World} {N : Nat} {sc : Array Value} {many : Int} {c5 c6 v5 v6 v : Value} {l5 l6 lo : List Value} {Lo : List (List Vl)} {vs : List Vl} (h : StC w N sc many wr c5 c6 v5 v6 l5 l6 lo Lo) (hv : RowT N wr v vs) : StC w N sc many wr c5 c6 v5 v6 l5 l6 (lo ++ [v]) (Lo ++ [vs]) :=
  ⟨h.le, h.sb, h.many, h.res, h.resF, h.at5, h.at5F, h.at6, h.at6F, h.r5, h.r6, h.below, h.rws.snoc hv⟩
theorem StC.keep {w wr w' : World} {N : Nat} {sc : Array Value} {many : Int} {c5 c6 v5 v6 : Value} {l5 l6 lo : List Value} {Lo : List (List Vl)} (h : StC w N sc many wr c5 c6 v5 v6 l5 l6 lo Lo) (hb : Below wr.heap.size wr w') : StC w N sc many w' c5 c6 v5 v6 l5 l6 lo Lo :=
  have hg : wr.grownBy w' none := ⟨hb.os, hb.tape, hb.output, hb.size, fun k hk _ => hb.block k hk⟩
  h.grown hg (fun _ e => by cases e) (fun _ _ _ _ e => by cases e) (h.r5.kept hg (by cases v5.ownBlock <;> simp)) (h.r6.kept hg (by cases v6.ownBlock <;> simp))
theorem StC.drew {w wr : World} {N : Nat} {sc : Array Value} {many : Int} {c5 c6 v5 v6 : Value} {l5 l6 lo : List Value} {Lo : List (List Vl)} (h : StC w N sc many wr c5 c6 v5 v6 l5 l6 lo Lo) : StC w N sc many wr.drew c5 c6 v5 v6 l5 l6 lo Lo :=
  ⟨h.le, h.sb, h.many, h.res, h.resF, h.at5, h.at5F, h.at6, h.at6F, h.r5, h.r6, h.below.drew, ⟨h.rws.1, fun j h1 h2 => h.rws.2 j h1 h2⟩⟩
end Go.Proofs.YtocmjlnhcloccaaGreatDoor
