/-
  swingbridgelaw02.OctetEach: its cells and its two rows while it gathers what is asked; append to a row of one's own, as a step of a region that draws its order.
-/
import Derived.Test.YtkjdhkpnbgflhaaOEachC
import Derived.Deep.RegionLaw
import Derived.Maps.AppendAt
import Derived.RangeFuncBox
namespace Go.Proofs.Ytkjdhkpnbgflhaa
open Go.RowKit

theorem step_append_row {P : Program} {ops : Array Oper} {o : Oper} {a : Act} {w : World} {K : Act → World → Prop} {Q : Exit → Act → World → Prop} {E : Prop}
    (hg : o.guard = none) (s x : Operand) (t : TypeId) (hop : o.op = Op.call { callee := Callee.builtin Builtin.append, args := #[s, x], argTypes := #[t, t] })
    (base : Nat) (e : TypeId) (i : TypeInfo) (z : Value) (size bytes : Nat) (h1 : P.underlying t = some (.slice e)) (h2 : P.info? e = some i) (h3 : i.zero = some z) (h4 : i.size = size) (h5 : i.bytes = bytes) (h6 : z.cells.size = size) (h7 : 0 < size)
    (v : Value) (n : Nat) (olds : List Value) (hs : a.eval s = v) (hown : w.ownsRow base e size v n olds)
    (ad : Addr) (m c : Nat) (news : List Value) (hx : a.eval x = .slice (some ad) m c) (hn : news.length = m * size) (hc : ∀ j u, news[j]? = some u → w.cell? (ad.add j) = some u) (h1c : ∀ u ∈ news, u.oneCell' = true)
    (b1 : n + m ≤ maxLen) (b2 : (n + m) * bytes ≤ 140737488355328) (hb : base ≤ w.heap.size)
    (hK : ∀ v' w', w'.ownsRow base e size v' (n + m) (olds ++ news) → w.grownBy w' v.ownBlock → K (a.put o.dst v') w') :
    if Region.wanted o (yielded ops a.tmps) = true then Oper.wp P o a w K Q else E := by
  have hw : Region.wanted o (yielded ops a.tmps) = true := by simp [Region.wanted, hg]
  rw [if_pos hw]
  obtain ⟨v', w', hrun, r1, r2, _⟩ := run_append_own (P := P) w base t o.type e i z size bytes h1 h2 h3 h4 h5 h6 h7 v n olds hown ad m c news hn hc h1c b1 b2 hb
  unfold Oper.wp
  simp [execOp, hop, resolve, invoke, builtin, hs, hx, hrun, Result.andThen]
  exact hK v' w' r1 r2

/-- what lies in memory while the law gathers: the boxes at N to N + 3, the two rows -/
structure St (w : World) (many : Int) (wr : World) (c5 c6 v5 v6 : Value) (l5 l6 : List Value) : Prop where
  many : wr.cell? ⟨w.heap.size, 0, none⟩ = some (.int .i64 many)
  res : wr.cell? ⟨w.heap.size + 1, 0, none⟩ = some (.bool false)
  resF : wr.frozen? ⟨w.heap.size + 1, 0, none⟩ = false
  at5 : wr.cell? ⟨w.heap.size + 2, 0, none⟩ = some c5
  at5F : wr.frozen? ⟨w.heap.size + 2, 0, none⟩ = false
  at6 : wr.cell? ⟨w.heap.size + 3, 0, none⟩ = some c6
  at6F : wr.frozen? ⟨w.heap.size + 3, 0, none⟩ = false
  r5 : wr.ownsRow (w.heap.size + 4) 3 1 v5 l5.length l5
  r6 : wr.ownsRow (w.heap.size + 4) 26 1 v6 l6.length l6
  below : Below w.heap.size w wr

theorem St.size {w wr : World} {many : Int} {c5 c6 v5 v6 : Value} {l5 l6 : List Value} (h : St w many wr c5 c6 v5 v6 l5 l6) : w.heap.size + 4 ≤ wr.heap.size := by
  have h1 : w.heap.size + 3 < wr.heap.size := World.block_lt_of_cell? wr _ h.at6
  omega
/-- two rows of different types lie in different blocks -/
theorem rows_apart {W : World} {B e e' n n' : Nat} {v v' : Value} {xs ys : List Value} (h : W.ownsRow B e 1 v n xs) (h' : W.ownsRow B e' 1 v' n' ys) (he : e ≠ e') : v.ownBlock = none ∨ v.ownBlock ≠ v'.ownBlock := by
  rcases h.2 with ⟨rfl, _⟩ | ⟨g, cap, cur, rfl, _, hg, _⟩
  · exact .inl rfl
  · rcases h'.2 with ⟨rfl, _⟩ | ⟨g', cap', cur', rfl, _, hg', _⟩
    · exact .inr (by simp [Value.ownBlock])
    · refine .inr (fun hb => he ?_)
      simp only [Value.ownBlock, Option.some.injEq] at hb
      subst hb
      rw [hg] at hg'
      simp only [Option.some.injEq, Obj.cells.injEq] at hg'
      exact hg'.2.1
theorem St.grown {w wr w' : World} {many : Int} {c5 c6 v5 v6 : Value} {l5 l6 : List Value} {row : Option Nat} (h : St w many wr c5 c6 v5 v6 l5 l6) (hg : wr.grownBy w' row) (hr : ∀ k, row = some k → w.heap.size + 4 ≤ k) {u5 u6 : Value} {m5 m6 : List Value}
    (k5 : w'.ownsRow (w.heap.size + 4) 3 1 u5 m5.length m5) (k6 : w'.ownsRow (w.heap.size + 4) 26 1 u6 m6.length m6) : St w many w' c5 c6 u5 u6 m5 m6 := by
  have hb : ∀ j, j < 4 → w'.heap[w.heap.size + j]? = wr.heap[w.heap.size + j]? := fun j hj => hg.block _ (by have := h.size; omega) (fun e => by have := hr _ e.symm; omega)
  have cc : ∀ j, j < 4 → w'.cell? ⟨w.heap.size + j, 0, none⟩ = wr.cell? ⟨w.heap.size + j, 0, none⟩ := fun j hj => World.cell?_of_block (hb j hj)
  have ff : ∀ j, j < 4 → w'.frozen? ⟨w.heap.size + j, 0, none⟩ = wr.frozen? ⟨w.heap.size + j, 0, none⟩ := fun j hj => World.frozen?_of_block (hb j hj)
  exact ⟨(cc 0 (by omega)).trans h.many, (cc 1 (by omega)).trans h.res, (ff 1 (by omega)).trans h.resF, (cc 2 (by omega)).trans h.at5, (ff 2 (by omega)).trans h.at5F, (cc 3 (by omega)).trans h.at6, (ff 3 (by omega)).trans h.at6F, k5, k6,
    h.below.grown hg (by have := h.size; omega) (fun k hk => by have := hr k hk; omega)⟩
theorem St.app5 {w wr w' : World} {many : Int} {c5 c6 v5 v6 u5 : Value} {l5 l6 : List Value} {x : Value} (h : St w many wr c5 c6 v5 v6 l5 l6) (hown : w'.ownsRow (w.heap.size + 4) 3 1 u5 (l5.length + 1) (l5 ++ [x])) (hg : wr.grownBy w' v5.ownBlock) : St w many w' c5 c6 u5 v6 (l5 ++ [x]) l6 :=
  h.grown hg (fun k hk => (h.r5.lt k hk).1) (by rw [List.length_append]; exact hown) (h.r6.kept hg (rows_apart h.r6 h.r5 (by decide)))
theorem St.app6 {w wr w' : World} {many : Int} {c5 c6 v5 v6 u6 : Value} {l5 l6 : List Value} {x : Value} (h : St w many wr c5 c6 v5 v6 l5 l6) (hown : w'.ownsRow (w.heap.size + 4) 26 1 u6 (l6.length + 1) (l6 ++ [x])) (hg : wr.grownBy w' v6.ownBlock) : St w many w' c5 c6 v5 u6 l5 (l6 ++ [x]) :=
  h.grown hg (fun k hk => (h.r6.lt k hk).1) (h.r5.kept hg (rows_apart h.r5 h.r6 (by decide))) (by rw [List.length_append]; exact hown)
theorem St.alloc {w wr : World} {many : Int} {c5 c6 v5 v6 : Value} {l5 l6 : List Value} (h : St w many wr c5 c6 v5 v6 l5 l6) (o : Obj) : St w many (wr.alloc o) c5 c6 v5 v6 l5 l6 :=
  h.grown (World.grownBy_alloc wr o none) (fun _ e => by cases e) (h.r5.alloc o) (h.r6.alloc o)
/-- a store into the box of at -/
theorem St.put5 {w wr : World} {many : Int} {c5 c6 v5 v6 : Value} {l5 l6 : List Value} (h : St w many wr c5 c6 v5 v6 l5 l6) (u : Value) : St w many (wr.setCell ⟨w.heap.size + 2, 0, none⟩ u) u c6 v5 v6 l5 l6 := by
  have hg := grownBy_setCell' wr (w.heap.size + 2) u
  have hb : ∀ j, j ≠ 2 → j < 4 → (wr.setCell ⟨w.heap.size + 2, 0, none⟩ u).heap[w.heap.size + j]? = wr.heap[w.heap.size + j]? := fun j hj h4 => hg.block _ (by have := h.size; omega) (fun e => by have := Option.some.inj e; simp at this; omega)
  have cc := fun j (hj : j ≠ 2) (h4 : j < 4) => World.cell?_of_block (a := ⟨w.heap.size + j, 0, none⟩) (hb j hj h4)
  have ff := fun j (hj : j ≠ 2) (h4 : j < 4) => World.frozen?_of_block (a := ⟨w.heap.size + j, 0, none⟩) (hb j hj h4)
  have ne : ∀ (v : Value) (e : TypeId) (n : Nat) (xs : List Value), wr.ownsRow (w.heap.size + 4) e 1 v n xs → v.ownBlock = none ∨ v.ownBlock ≠ some (w.heap.size + 2) := fun v e n xs hr => by
    cases hv : v.ownBlock with
    | none => exact .inl rfl
    | some k => exact .inr (fun he => by have := (hr.lt k hv).1; cases he; omega)
  exact ⟨(cc 0 (by omega) (by omega)).trans h.many, (cc 1 (by omega) (by omega)).trans h.res, (ff 1 (by omega) (by omega)).trans h.resF, World.cell?_setCell_same' _ _ _ (by rw [h.at5]; rfl), by rw [World.frozen?_setCell]; exact h.at5F, (cc 3 (by omega) (by omega)).trans h.at6, (ff 3 (by omega) (by omega)).trans h.at6F,
    h.r5.kept hg (ne _ _ _ _ h.r5), h.r6.kept hg (ne _ _ _ _ h.r6), h.below.setCell (p := ⟨w.heap.size + 2, 0, none⟩) (by simp) _⟩
/-- a store into the box of want -/
theorem St.put6 {w wr : World} {many : Int} {c5 c6 v5 v6 : Value} {l5 l6 : List Value} (h : St w many wr c5 c6 v5 v6 l5 l6) (u : Value) : St w many (wr.setCell ⟨w.heap.size + 3, 0, none⟩ u) c5 u v5 v6 l5 l6 := by
  have hg := grownBy_setCell' wr (w.heap.size + 3) u
  have hb : ∀ j, j ≠ 3 → j < 4 → (wr.setCell ⟨w.heap.size + 3, 0, none⟩ u).heap[w.heap.size + j]? = wr.heap[w.heap.size + j]? := fun j hj h4 => hg.block _ (by have := h.size; omega) (fun e => by have := Option.some.inj e; simp at this; omega)
  have cc := fun j (hj : j ≠ 3) (h4 : j < 4) => World.cell?_of_block (a := ⟨w.heap.size + j, 0, none⟩) (hb j hj h4)
  have ff := fun j (hj : j ≠ 3) (h4 : j < 4) => World.frozen?_of_block (a := ⟨w.heap.size + j, 0, none⟩) (hb j hj h4)
  have ne : ∀ (v : Value) (e : TypeId) (n : Nat) (xs : List Value), wr.ownsRow (w.heap.size + 4) e 1 v n xs → v.ownBlock = none ∨ v.ownBlock ≠ some (w.heap.size + 3) := fun v e n xs hr => by
    cases hv : v.ownBlock with
    | none => exact .inl rfl
    | some k => exact .inr (fun he => by have := (hr.lt k hv).1; cases he; omega)
  exact ⟨(cc 0 (by omega) (by omega)).trans h.many, (cc 1 (by omega) (by omega)).trans h.res, (ff 1 (by omega) (by omega)).trans h.resF, (cc 2 (by omega) (by omega)).trans h.at5, (ff 2 (by omega) (by omega)).trans h.at5F, World.cell?_setCell_same' _ _ _ (by rw [h.at6]; rfl), by rw [World.frozen?_setCell]; exact h.at6F,
    h.r5.kept hg (ne _ _ _ _ h.r5), h.r6.kept hg (ne _ _ _ _ h.r6), h.below.setCell (p := ⟨w.heap.size + 3, 0, none⟩) (by simp) _⟩
end Go.Proofs.Ytkjdhkpnbgflhaa
