/-
  parts that belong together.
-/
import Derived.Test.YtbhgcioeibhjeaaGreatDoorLHadP
import Derived.Test.YtbhgcioeibhjeaaGreatDoorLKeep
import Derived.Test.YtbhgcioeibhjeaaGreatDoorDHCp
import Derived.Deep.Upon
import Derived.Test.YtbhgcioeibhjeaaGreatDoorDOpn
import Derived.OpenShut
namespace Go.Proofs.YtbhgcioeibhjeaaGreatDoor
open Go.RowKit

/-- rows of bytes that stay: in the caller's memory, or in a block beside the log's -/
def RowsK (Ψ : Nat → Prop) (V0 w : World) (ob : Option Addr) (Hd : List (List UInt8)) : Prop := ∀ (j : Nat) (h : j < Hd.length), ∃ a v, ob = some a ∧ ((a.block < w.heap.size ∧ w.cell? (a.add j) = some v) ∨ (Ψ a.block ∧ V0.cell? (a.add j) = some v)) ∧ BytesOf w v Hd[j]
theorem RowsK.at {Ψ : Nat → Prop} {V0 w W : World} {ob : Option Addr} {Hd : List (List UInt8)} (h : RowsK Ψ V0 w ob Hd) (hb : Below w.heap.size w W) (hf : ∀ k, Ψ k → k < W.heap.size ∧ W.heap[k]? = V0.heap[k]?) (j : Nat) (hj : j < Hd.length) : ∃ a v, ob = some a ∧ W.cell? (a.add j) = some v ∧ BytesOf W v Hd[j] := by
  obtain ⟨a, v, h1, h2, h3⟩ := h j hj
  refine ⟨a, v, h1, ?_, h3.keep hb (Nat.le_refl _)⟩
  rcases h2 with ⟨h4, h5⟩ | ⟨h4, h5⟩
  · exact (hb.cell (by rw [Addr.add_block]; exact h4)).trans h5
  · exact (World.cell?_of_block (by rw [Addr.add_block]; exact (hf _ h4).2)).trans h5
theorem RowsK.rows {Ψ : Nat → Prop} {V0 w W : World} {ob : Option Addr} {Hd : List (List UInt8)} (h : RowsK Ψ V0 w ob Hd) (hb : Below w.heap.size w W) (hf : ∀ k, Ψ k → k < W.heap.size ∧ W.heap[k]? = V0.heap[k]?) : RowsB W ob Hd := fun j hj => by
  obtain ⟨a, v, h1, h2, h3⟩ := h.at hb hf j hj
  exact ⟨a, v, h1, h2, h3.bt⟩
theorem bytes_one {w : World} {v : Value} {l : List UInt8} (h : BytesOf w v l) : v.oneCell' = true := by
  obtain ⟨o, c, rfl⟩ := h.form
  rfl
theorem infoBs : (Tryz.prog.info? 43).map (fun i => (i.zero, i.size, i.bytes)) = some (some (.slice none 0 0), 1, 24) := by kernel_rfl
/-- values more behind a row of one's own -/
theorem rows_append {W : World} {base : Nat} {v : Value} {vs ws : List Value} (hown : W.ownsRow base 43 1 v vs.length vs) (hbase : base ≤ W.heap.size) (ob : Option Addr) (c : Nat) (hnil : ob = none → ws = [] ∧ c = 0) (hsrc : ∀ (j : Nat) (h : j < ws.length), ∃ a, ob = some a ∧ W.cell? (a.add j) = some ws[j]) (hone : ∀ u ∈ ws, u.oneCell' = true) (hl : vs.length + ws.length ≤ 100000) :
    ∃ v' W', (Builtin.append_ #[162, 162] 162 #[v, .slice ob ws.length c]).run Tryz.prog W = .ok v' W' ∧ W'.ownsRow base 43 1 v' (vs ++ ws).length (vs ++ ws) ∧ W.grownBy W' v.ownBlock := by
  obtain ⟨i0, hi0, hz0, hz1, hz2⟩ := info_parts infoBs
  cases ob with
  | none =>
    obtain ⟨rfl, rfl⟩ := hnil rfl
    obtain ⟨vo, vcap, rfl, hle⟩ : ∃ o c, v = .slice o vs.length c ∧ vs.length ≤ c := by
      rcases hown.2 with ⟨e0, h0⟩ | ⟨g, cap, cur, e0, _, _, h1, _⟩
      · exact ⟨none, 0, by rw [e0, h0], by omega⟩
      · exact ⟨_, _, e0, h1⟩
    have hs : Src Tryz.prog i0.size 162 (.slice none 0 0) 0 [] W := ⟨.inl ⟨_, Tryz.underlying162⟩, fun _ => rfl, rfl, rfl, by simp, by simp⟩
    exact ⟨_, _, run_append_nothing W _ _ _ _ i0 Tryz.underlying162 hi0 vo _ _ hle _ hs, by rw [List.append_nil]; exact hown, ⟨rfl, rfl, rfl, Nat.le_refl _, fun _ _ _ => rfl⟩⟩
  | some a =>
    obtain ⟨v', w2, hr, hrow, hgr, _, ho⟩ := run_append_own_at (P := Tryz.prog) W base 162 162 43 i0 _ 1 24 Tryz.underlying162 hi0 hz0 hz1 hz2 rfl (by decide) v vs.length vs hown a ws.length c ws (by omega) (fun j u hj => by
      obtain ⟨hjl, e⟩ := List.getElem?_eq_some_iff.1 hj
      obtain ⟨a', ha, hc⟩ := hsrc j hjl
      cases ha
      rw [hc, e]) hone (by unfold maxLen; omega) (by omega) hbase
    rw [← List.length_append] at hrow
    exact ⟨v', w2, hr, hrow, hgr⟩
theorem pick_vals {p : Nat → Value → Prop} : ∀ (n : Nat), (∀ i, i < n → ∃ v, p i v) → ∃ l : List Value, l.length = n ∧ ∀ (i : Nat) (h : i < l.length), p i l[i]
  | 0, _ => ⟨[], rfl, fun i h => absurd h (Nat.not_lt_zero i)⟩
  | n + 1, h => by
    obtain ⟨l, hl, hp⟩ := pick_vals n (fun i hi => h i (by omega))
    obtain ⟨v, hv⟩ := h n (by omega)
    refine ⟨l ++ [v], by simp [hl], fun i hi => ?_⟩
    by_cases hlt : i < l.length
    · rw [List.getElem_append_left hlt]
      exact hp i hlt
    · have : i = n := by simp at hi; omega
      subst this
      rw [List.getElem_append_right (by omega)]
      simpa [hl] using hv
theorem RowsK.vals {Ψ : Nat → Prop} {V0 w W : World} {ob : Option Addr} {Hd : List (List UInt8)} (h : RowsK Ψ V0 w ob Hd) (hb : Below w.heap.size w W) (hf : ∀ k, Ψ k → k < W.heap.size ∧ W.heap[k]? = V0.heap[k]?) :
    ∃ vs : List Value, vs.length = Hd.length ∧ ∀ (j : Nat) (hj : j < vs.length), (∃ a, ob = some a ∧ W.cell? (a.add j) = some vs[j]) ∧ ∃ h2 : j < Hd.length, BytesOf w vs[j] Hd[j] := by
  refine pick_vals (p := fun j v => (∃ a, ob = some a ∧ W.cell? (a.add j) = some v) ∧ ∃ h2 : j < Hd.length, BytesOf w v Hd[j]) Hd.length (fun i hi => ?_)
  obtain ⟨a, v, h1, h2, h3⟩ := h i hi
  refine ⟨v, ⟨a, h1, ?_⟩, hi, h3⟩
  rcases h2 with ⟨h4, h5⟩ | ⟨h4, h5⟩
  · exact (hb.cell (by rw [Addr.add_block]; exact h4)).trans h5
  · exact (World.cell?_of_block (by rw [Addr.add_block]; exact (hf _ h4).2)).trans h5
theorem below_grownL {B : Nat} {W W' : World} {r : Option Nat} (hg : W.grownBy W' r) (hR : ∀ g, r = some g → B ≤ g) (hs : B ≤ W.heap.size) : Below B W W' :=
  ⟨hg.os, hg.tape, hg.output, hg.size, fun k hk => hg.block k (by omega) (fun e => by have := hR k e.symm; omega)⟩
theorem wpList_append_run {P : Program} {w : World} {ops : Array Oper} {rest : List Oper} {o : Oper} {a : Act} {Q : Exit → Act → World → Prop} (hgd : o.guard = none) (s x : Operand) (t : TypeId)
    (ho : o.op = .call { callee := .builtin .append, args := #[s, x], argTypes := #[t, t] }) (v u v' : Value) (w' : World) (hs : a.eval s = v) (hx : a.eval x = u) (hrun : (Builtin.append_ #[t, t] o.type #[v, u]).run P w = .ok v' w')
    (h : wpList P ops Q rest (a.put o.dst v') w') : wpList P ops Q (o :: rest) a w := by
  refine wpList_plain hgd fun K hK => ?_
  unfold Oper.wp execOp
  simp only [ho, resolve, invoke, builtin, Sem.run_bind, Sem.run_pure, Result.andThen_ok, List.map_toArray, List.map_cons, List.map_nil, hs, hx, hrun]
  exact hK _ _ h
/-- the first ones of a list, and another list behind them, laid anew -/
theorem had_next {Ψ : Nat → Prop} {V0 w W : World} {ob ol : Option Addr} {Hd L : List (List UInt8)} (h : RowsK Ψ V0 w ob Hd) (hb : Below w.heap.size w W) (hf : ∀ k, Ψ k → k < W.heap.size ∧ W.heap[k]? = V0.heap[k]?) (hL : RowsK (fun _ => False) w w ol L) (m : Nat) (hm : m ≤ Hd.length) (cb cl : Nat) (hob : ob = none → cb = 0) (hol : ol = none → cl = 0) (h1 : Hd.length ≤ 1000) (h2 : L.length ≤ 1000) :
    ∃ v1 W2 v2 W3 ob2 cb2, (Builtin.append_ #[162, 162] 162 #[.slice (some ⟨W.heap.size, 0, none⟩) 0 0, .slice ob m cb]).run Tryz.prog (W.alloc (.cells #[] 43)) = .ok v1 W2 ∧
      (Builtin.append_ #[162, 162] 162 #[v1, .slice ol L.length cl]).run Tryz.prog W2 = .ok v2 W3 ∧ v2 = .slice ob2 (Hd.take m ++ L).length cb2 ∧ (ob2 = none → cb2 = 0) ∧ (Hd.take m ++ L).length ≤ cb2 ∧ Below W.heap.size W W3 ∧
      RowsK (fun k => ∃ a, ob2 = some a ∧ a.block = k) W3 w ob2 (Hd.take m ++ L) ∧ ∀ k, (∃ a, ob2 = some a ∧ a.block = k) → W.heap.size ≤ k ∧ k < W3.heap.size ∧ W3.heap[k]? = W3.heap[k]? := by
  obtain ⟨vs, hvl, hv⟩ := h.vals hb hf
  obtain ⟨us, hul, hu⟩ := hL.vals hb (fun k hk => hk.elim)
  have hbA : Below W.heap.size W (W.alloc (.cells #[] 43)) := (Below.refl _ W).alloc (Nat.le_refl _) _
  have hown0 : (W.alloc (.cells #[] 43)).ownsRow W.heap.size 43 1 (.slice (some ⟨W.heap.size, 0, none⟩) 0 0) 0 [] := ⟨rfl, .inr ⟨W.heap.size, 0, _, rfl, Nat.le_refl _, heap_alloc_at W _, Nat.le_refl _, by unfold maxLen; omega, rfl, rfl⟩⟩
  have hlen1 : (vs.take m).length = m := by rw [List.length_take]; omega
  obtain ⟨v1, W2, r1, o1, g1⟩ := rows_append (v := .slice (some ⟨W.heap.size, 0, none⟩) 0 0) (vs := []) (ws := vs.take m) hown0 (by simp) ob cb (fun hn => ⟨by
      have hm0 : vs.length = 0 := by
        cases hvs : vs with
        | nil => rfl
        | cons x xs => obtain ⟨⟨a, ha, _⟩, _⟩ := hv 0 (by rw [hvs]; simp); rw [hn] at ha; cases ha
      rw [List.length_eq_zero_iff.1 hm0, List.take_nil], hob hn⟩) (fun j hj => by
      obtain ⟨⟨a, ha, hc⟩, _⟩ := hv j (by omega)
      exact ⟨a, ha, by rw [List.getElem_take, hbA.cell (World.block_lt_of_cell? W _ hc)]; exact hc⟩) (fun u hu' => by
      obtain ⟨j, hj, rfl⟩ := List.mem_iff_getElem.1 (List.mem_of_mem_take hu')
      obtain ⟨_, _, hb'⟩ := hv j hj
      exact bytes_one hb') (by simp; omega)
  rw [hlen1] at r1
  rw [List.nil_append] at o1
  have hbl0 : ∀ g, (Value.slice (some ⟨W.heap.size, 0, none⟩) 0 0).ownBlock = some g → W.heap.size ≤ g := fun g hg => by
    have e : (Value.slice (some ⟨W.heap.size, 0, none⟩) 0 0).ownBlock = some W.heap.size := rfl
    rw [e] at hg
    cases hg
    exact Nat.le_refl _
  have hb2 : Below W.heap.size W W2 := hbA.trans (below_grownL g1 hbl0 (by simp))
  have hlt1 : ∀ g, v1.ownBlock = some g → W.heap.size ≤ g := fun g hg => (o1.lt g hg).1
  obtain ⟨v2, W3, r2, o2, g2⟩ := rows_append (v := v1) (vs := vs.take m) (ws := us) o1 hb2.size ol cl (fun hn => ⟨by
      have hm0 : us.length = 0 := by
        cases hvs : us with
        | nil => rfl
        | cons x xs => obtain ⟨⟨a, ha, _⟩, _⟩ := hu 0 (by rw [hvs]; simp); rw [hn] at ha; cases ha
      exact List.length_eq_zero_iff.1 hm0, hol hn⟩) (fun j hj => by
      obtain ⟨⟨a, ha, hc⟩, _⟩ := hu j hj
      exact ⟨a, ha, by rw [hb2.cell (World.block_lt_of_cell? W _ hc)]; exact hc⟩) (fun u hu' => by
      obtain ⟨j, hj, rfl⟩ := List.mem_iff_getElem.1 hu'
      obtain ⟨_, _, hb'⟩ := hu j hj
      exact bytes_one hb') (by omega)
  rw [hul] at r2
  have hb3 : Below W.heap.size W W3 := hb2.trans (below_grownL g2 hlt1 hb2.size)
  have hlen2 : (vs.take m ++ us).length = (Hd.take m ++ L).length := by simp only [List.length_append, List.length_take]; omega
  rw [hlen2] at o2
  have hform : ∃ ob2 cb2, v2 = .slice ob2 (Hd.take m ++ L).length cb2 ∧ ((ob2 = none → cb2 = 0 ∧ (Hd.take m ++ L).length = 0) ∧ (Hd.take m ++ L).length ≤ cb2) ∧ ∀ a, ob2 = some a → ∃ g, a = ⟨g, 0, none⟩ ∧ v2.ownBlock = some g := by
    rcases o2.2 with ⟨e0, h0⟩ | ⟨g, cap, cur, e0, _, _, hcp, _⟩
    · exact ⟨none, 0, by rw [e0, h0], ⟨fun _ => ⟨rfl, h0⟩, by omega⟩, fun a ha => by cases ha⟩
    · exact ⟨_, _, e0, ⟨(fun hn => by cases hn), hcp⟩, fun a ha => by cases ha; exact ⟨g, rfl, by rw [e0]; rfl⟩⟩
  obtain ⟨ob2, cb2, e2, ⟨hn2, hcap2⟩, ha2⟩ := hform
  refine ⟨v1, W2, v2, W3, ob2, cb2, r1, r2, e2, fun hn => (hn2 hn).1, hcap2, hb3, fun j hj => ?_, fun k hk => ?_⟩
  · cases hob2 : ob2 with
    | none => have := (hn2 hob2).2; omega
    | some a =>
      obtain ⟨g, hag, hgo⟩ := ha2 a hob2
      have hj2 : j < (vs.take m ++ us).length := by omega
      have hcell := o2.cells hgo j (vs.take m ++ us)[j] (List.getElem?_eq_getElem hj2)
      refine ⟨a, (vs.take m ++ us)[j], rfl, .inr ⟨⟨a, rfl, rfl⟩, by rw [hag]; exact hcell⟩, ?_⟩
      by_cases hjm : j < m
      · have e1 : (vs.take m ++ us)[j] = vs[j] := by rw [List.getElem_append_left (by omega), List.getElem_take]
        have e2 : (Hd.take m ++ L)[j] = Hd[j] := by rw [List.getElem_append_left (by rw [List.length_take]; omega), List.getElem_take]
        rw [e1, e2]
        exact (hv j (by omega)).2.2
      · have hlh : (Hd.take m).length = m := by rw [List.length_take]; omega
        have hjl : j - m < L.length := by rw [List.length_append, List.length_take] at hj; omega
        have e1 : (vs.take m ++ us)[j] = us[j - m] := by rw [List.getElem_append_right (by omega)]; simp only [hlen1]
        have e2 : (Hd.take m ++ L)[j] = L[j - m] := by
          apply Option.some.inj
          rw [← List.getElem?_eq_getElem, ← List.getElem?_eq_getElem, List.getElem?_append_right (by rw [hlh]; exact Nat.not_lt.1 hjm), hlh]
        rw [e1, e2]
        exact (hu (j - m) (by omega)).2.2
  · obtain ⟨a, ha, hk'⟩ := hk
    obtain ⟨g, hag, hg⟩ := ha2 a ha
    subst hag
    have := o2.lt g hg
    simp at hk'
    subst hk'
    exact ⟨this.1, this.2, rfl⟩
end Go.Proofs.YtbhgcioeibhjeaaGreatDoor
namespace Go.Proofs.YtbhgcioeibhjeaaGreatDoor
open Go.Joins Go.ChangeShapes Go.WideShapes Go.ChangeAt Go.RowKit Go.Deep

section
variable {H : Type} {enc : TypeId × Value → H}

theorem cBts : Tryz.prog.cellsOf 43 = 1 := by kernel_rfl
theorem bts_cellsL {W : World} {sp : Nat → Bool} {base : Nat} {held : Bool} {fuel : Nat} {cs : List Value} {x : DataW H × List MemPlace} (hf : DataW.trod enc Tryz.prog W base sp held fuel 43 cs = some x) :
    ∃ (v : Value) (l : List UInt8), cs = [v] ∧ BytesOf W v l := by
  rcases open_slice1 Tryz.underlying43 cU8L hf with ⟨rfl, _⟩ | ⟨a, len, cap, m, n, V, D, Pl, rfl, _, hl, hm, hmm, _, hi⟩
  · exact ⟨_, [], rfl, .inl ⟨rfl, rfl⟩⟩
  · have hlm : len ≤ m := by rw [hmm]; split <;> omega
    obtain ⟨l, hll, hp⟩ := pick_list' (p := fun i (c : UInt8) => W.cell? (a.add i) = some (.int .u8 (c.toNat : Int))) len (fun i hi' => by
      obtain ⟨hc, ht⟩ := hi i (by omega)
      obtain ⟨k, e0, _, w0⟩ := DataW.trod_int Tryz.underlying5 ht
      simp only [List.cons.injEq, and_true] at e0
      have hk : 0 ≤ k ∧ k ≤ 255 := ⟨of_decide_eq_true (and_bothL w0).1, of_decide_eq_true (and_bothL w0).2⟩
      refine ⟨UInt8.ofNat k.toNat, ?_⟩
      rw [hc, e0, UInt8.toNat_ofNat']
      congr 2
      omega)
    subst hll
    exact ⟨_, l, rfl, .inr ⟨a, cap, rfl, hl, hp⟩⟩
set_option maxRecDepth 100000 in
theorem open_rowsL {W : World} {b : Nat} {v : Value} {d : DataW H} {p : List MemPlace} {sp : Nat → Bool} {base : Nat} {held : Bool}
    (hv : Value.okWide Tryz.prog W .any b 162 v) (h : DataW.Trod enc Tryz.prog W base sp held 162 v d p) :
    ∃ ol cl, ∃ L : List (List UInt8), v = .slice ol L.length cl ∧ RowsK (fun _ => False) W W ol L ∧ (ol = none → cl = 0) ∧ L.length ≤ cl ∧ L.length ≤ 9223372036854775807 := by
  obtain ⟨a0, len0, cap0, rfl⟩ := okWide_slice Tryz.underlying162 hv
  obtain ⟨fuel, hf⟩ := h
  rcases open_slice Tryz.underlying162 hf with ⟨hcs, _⟩ | ⟨a, len, cap, m, n, D, Pl, hcs, _, hl, hm, hmm, _, hi⟩
  · simp [Value.cells] at hcs
    obtain ⟨rfl, rfl, rfl⟩ := hcs
    exact ⟨none, 0, [], rfl, fun j hj => absurd hj (Nat.not_lt_zero j), fun _ => rfl, by simp, by simp⟩
  · simp [Value.cells] at hcs
    obtain ⟨rfl, rfl, rfl⟩ := hcs
    have hlm : len0 ≤ m := by rw [hmm]; split <;> omega
    obtain ⟨L, hll, hp⟩ := pick_list' (p := fun i (l : List UInt8) => ∃ v, W.cell? (a.add i) = some v ∧ BytesOf W v l) len0 (fun i hi' => by
      obtain ⟨cs, hc, ht⟩ := hi i (by omega)
      rw [cBts] at hc
      obtain ⟨v, l, rfl, hb⟩ := bts_cellsL ht
      obtain ⟨_, _, hat⟩ := World.cells?_some hc
      have h0 := hat 0 (by omega)
      simp only [Nat.mul_one] at h0
      exact ⟨l, v, h0, hb⟩)
    subst hll
    exact ⟨some a, cap0, L, rfl, fun j hj => by
      obtain ⟨v, hc, hb⟩ := hp j hj
      exact ⟨a, v, rfl, .inl ⟨by have := World.block_lt_of_cell? W _ hc; rw [Addr.add_block] at this; exact this, hc⟩, hb⟩, (fun hn => by cases hn), hl, by unfold maxLen at hm; omega⟩
end
end Go.Proofs.YtbhgcioeibhjeaaGreatDoor
