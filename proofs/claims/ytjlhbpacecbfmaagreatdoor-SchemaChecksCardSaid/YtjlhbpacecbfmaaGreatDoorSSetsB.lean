/-
  schema.Sets: the sets are its own.
-/
import Derived.Test.YtjlhbpacecbfmaaGreatDoorSSetsA
import Derived.Test.YtjlhbpacecbfmaaGreatDoorSTop
namespace Go.Proofs.YtjlhbpacecbfmaaGreatDoor
open Go.RowKit Go.Shelf
attribute [local go_sem] Oper.semAt_some

def ownL (S : Sch) : List (List Int) := if schOk S = true then S.key :: S.uqs else []
abbrev Ent := (Option Addr × Nat) × List Int
def ecells (es : List Ent) : List Value := es.map fun e => .slice e.1.1 e.2.length e.1.2
theorem infoIs : (Tryz.prog.info? 23).map (fun i => (i.zero, i.size, i.bytes)) = some (some (.slice none 0 0), 1, 24) := by kernel_rfl
theorem cell_loop {W : World} {a : Addr} {v : Value} (h : W.cell? a = some v) {l : Nat} {r : Loop} (hl : W.heap[l]? = some (.loop r)) (o : Obj) : (W.putObj l o).cell? a = some v := by
  have hne : a.block ≠ l := fun e => by
    simp [World.cell?, e, hl] at h
  rw [World.cell?_of_block (World.putObj_heap_other hne)]
  exact h
theorem ints_loop {W : World} {oa : Option Addr} {is : List Int} (h : IntsIn W oa is) {l : Nat} {r : Loop} (hl : W.heap[l]? = some (.loop r)) (o : Obj) : IntsIn (W.putObj l o) oa is := fun j hj => by
  obtain ⟨a, e, hc⟩ := h j hj
  exact ⟨a, e, cell_loop hc hl o⟩
theorem ints_put {W : World} {oa : Option Addr} {is : List Int} (h : IntsIn W oa is) {l : Nat} {ds : Option (List Deferred)} (hl : W.heap[l]? = some (.deferred ds)) (o : Obj) : IntsIn (W.putObj l o) oa is := fun j hj => by
  obtain ⟨a, e, hc⟩ := h j hj
  exact ⟨a, e, cell_put hc hl o⟩
theorem sets_put {W : World} {oa : Option Addr} {L : List (List Int)} {hs : List (Option Addr × Nat)} (h : SetsAt W oa L hs) {l : Nat} {ds : Option (List Deferred)} (hl : W.heap[l]? = some (.deferred ds)) (o : Obj) : SetsAt (W.putObj l o) oa L hs := fun j hj => by
  obtain ⟨a, e, hc, h1, h2⟩ := h j hj
  exact ⟨a, e, cell_put hc hl o, h1, ints_put h2 hl o⟩
/-- what the loop has laid so far -/
structure Ow (w W3 : World) (C B : Nat) (S : Sch) (pre : List Nat) (W : World) : Prop where
  ex : ∃ (v : Value) (es : List Ent), W.cell? ⟨C, 0, none⟩ = some v ∧ W.ownsRow B 23 1 v es.length (ecells es) ∧ es.map (·.2) = pre.map (setAt S) ∧ ∀ e ∈ es, IntsIn W e.1.1 e.2 ∧ e.2.length ≤ e.1.2 ∧ ∀ a, e.1.1 = some a → B ≤ a.block ∧ ∃ cs, W.heap[a.block]? = some (.cells cs 3)
  fr : W.frozen? ⟨C, 0, none⟩ = false
  lo : ∀ k, k < W3.heap.size → k ≠ C → W.heap[k]? = W3.heap[k]?
  sz : W3.heap.size ≤ W.heap.size
  below : Below w.heap.size w W
theorem Ow.still {w W3 : World} {C B : Nat} {S : Sch} (hC : C < W3.heap.size) (hw : w.heap.size ≤ W3.heap.size) : Still W3.heap.size (Ow w W3 C B S) := by
  constructor
  · rintro s A A' ⟨⟨v, es, h1, h2, h3, h4⟩, h5, h6, h7, h8⟩ hb
    have hCl : C < A.heap.size := Nat.lt_of_lt_of_le hC h7
    refine ⟨⟨v, es, by rw [hb.cell hCl]; exact h1, h2.kept (row := none) ⟨hb.os, hb.tape, hb.output, hb.size, fun k hk _ => hb.block k hk⟩ (by cases v.ownBlock <;> simp), h3, fun e he => ⟨(h4 e he).1.keep hb (Nat.le_refl _), (h4 e he).2.1, fun a ea => by obtain ⟨hBa, cs, hcs⟩ := (h4 e he).2.2 a ea; exact ⟨hBa, cs, (hb.block _ (Array.getElem?_eq_some_iff.1 hcs).1).trans hcs⟩⟩⟩, by rw [hb.frozen hCl]; exact h5, fun k hk hk' => (hb.block k (Nat.lt_of_lt_of_le hk h7)).trans (h6 k hk hk'), Nat.le_trans h7 hb.size, h8.trans (hb.mono h8.size)⟩
  · rintro s A l r o hl ⟨⟨v, es, h1, h2, h3, h4⟩, h5, h6, h7, h8⟩ hr
    have hne : C ≠ l := by omega
    refine ⟨⟨v, es, cell_loop h1 hr o, ownsRow_putObj h2 o hr rfl, h3, fun e he => ⟨ints_loop (h4 e he).1 hr o, (h4 e he).2.1, fun a ea => by obtain ⟨hBa, cs, hcs⟩ := (h4 e he).2.2 a ea; exact ⟨hBa, cs, (World.putObj_heap_other (fun e0 => by rw [e0, hr] at hcs; cases hcs)).trans hcs⟩⟩⟩, (World.frozen?_of_block (a := ⟨C, 0, none⟩) (World.putObj_heap_other hne)).trans h5, fun k hk hk' => (World.putObj_heap_other (by omega)).trans (h6 k hk hk'), by simp; exact h7, below_put h8 (by omega) o⟩
theorem Ow.lo2 {w W3 W : World} {C B : Nat} {S : Sch} {pre : List Nat} (h : Ow w W3 C B S pre W) {p : Addr} {v : Value} (hc : W3.cell? p = some v) (hp : p.block ≠ C) : W.cell? p = some v :=
  (World.cell?_of_block (h.lo _ (World.block_lt_of_cell? W3 p hc) hp)).trans hc
theorem ow_sets {W : World} {B : Nat} {v : Value} {es : List Ent} {L : List (List Int)} (h : W.ownsRow B 23 1 v es.length (ecells es)) (h3 : es.map (·.2) = L) (h4 : ∀ e ∈ es, IntsIn W e.1.1 e.2 ∧ e.2.length ≤ e.1.2) : ∃ oo co, v = .slice oo L.length co ∧ SetsAt W oo L (es.map (·.1)) := by
  have hlen : L.length = es.length := by rw [← h3]; simp
  have h0 := h
  rcases h.2 with ⟨e, hn0⟩ | ⟨g, cap, cur, e, _⟩
  · refine ⟨none, 0, by rw [e, hlen, hn0], fun j hj => ?_⟩
    omega
  · subst e
    refine ⟨_, cap, by rw [hlen], fun j hj => ?_⟩
    have hje : j < es.length := by omega
    have q := h0.cellAt j (by omega)
    obtain ⟨en, hen⟩ : ∃ en, es[j] = en := ⟨_, rfl⟩
    have hm := h4 en (hen ▸ List.getElem_mem hje)
    have e1 : hAt (es.map (·.1)) j = en.1 := by unfold hAt; rw [List.getD_eq_getElem?_getD, List.getElem?_map, List.getElem?_eq_getElem hje, hen]; rfl
    have e2 : L[j] = en.2 := by subst h3; simp [hen]
    refine ⟨_, rfl, ?_, ?_, ?_⟩
    · rw [add_fromS, q, e1, e2]
      simp [ecells, hje, hen]
    · rw [e1, e2]; exact hm.2
    · rw [e1, e2]; exact hm.1
theorem keep_cellS {W W' : World} {a : Addr} {v : Value} (hb : Below W.heap.size W W') (h : W.cell? a = some v) : W'.cell? a = some v := by
  rw [hb.cell (World.block_lt_of_cell? W a h)]
  exact h
theorem ownL_sets (S : Sch) : (List.range (1 + S.uqs.length)).map (setAt S) = S.key :: S.uqs := by
  rw [Nat.add_comm, List.range_succ_eq_map, List.map_cons, List.map_map]
  congr 1
  refine List.ext_getElem (by simp) (fun j h1 h2 => ?_)
  simp [setAt, List.getElem?_eq_getElem (show j < S.uqs.length from h2)]
theorem wpAnyIn_one {F : Fence} {n : Nat} {P : Program} {md : Region.Mode} {ops : Array Oper} {Q : Exit → Act → World → Prop} {fuel : Nat} {listed : Array Bool} {a : Act} {w : World} (i : Nat) (h1 : Region.ready md ops listed = [i]) (h : wpOpIn F n P ops Q i (wpAnyIn F n P md ops Q fuel (listed.setIfInBounds i true)) a w) : wpAnyIn F n P md ops Q (fuel + 1) listed a w := by
  unfold wpAnyIn
  refine ⟨fun h0 => ?_, fun j hj => ?_⟩
  · rw [h1] at h0
    cases h0
  · rw [h1] at hj
    rw [List.mem_singleton.1 hj]
    exact h
theorem wpAnyIn_two {F : Fence} {n : Nat} {P : Program} {md : Region.Mode} {ops : Array Oper} {Q : Exit → Act → World → Prop} {fuel : Nat} {listed : Array Bool} {a : Act} {w : World} (i j : Nat) (h1 : Region.ready md ops listed = [i, j]) (hi : wpOpIn F n P ops Q i (wpAnyIn F n P md ops Q fuel (listed.setIfInBounds i true)) a w) (hj : wpOpIn F n P ops Q j (wpAnyIn F n P md ops Q fuel (listed.setIfInBounds j true)) a w) : wpAnyIn F n P md ops Q (fuel + 1) listed a w := by
  unfold wpAnyIn
  refine ⟨fun h0 => ?_, fun k hk => ?_⟩
  · rw [h1] at h0
    cases h0
  · rw [h1] at hk
    rcases List.mem_cons.1 hk with rfl | hk
    · exact hi
    · rw [List.mem_singleton.1 hk]
      exact hj
theorem wpOpIn_append {F : Fence} (hF : ∀ f, F.fn f) {n : Nat} {P : Program} {ops : Array Oper} {Q : Exit → Act → World → Prop} {i : Nat} {K : Act → World → Prop} {a : Act} {w : World} {o : Oper} (ho : ops[i]? = some o) (hg : o.guard = none) {s x : Operand} {t : TypeId} (hop : o.op = Op.call { callee := Callee.builtin Builtin.append, args := #[s, x], argTypes := #[t, t] })
    {v u v' : Value} {w' : World} (hs : a.eval s = v) (hx : a.eval x = u) (hrun : (Builtin.append_ #[t, t] o.type #[v, u]).run P w = .ok v' w') (hK : K (a.put o.dst v') w') : wpOpIn F n P ops Q i K a w := by
  unfold wpOpIn
  rw [ho]
  have hw : Region.wanted o (yielded ops a.tmps) = true := by simp [Region.wanted, hg]
  simp only [hw, if_true]
  unfold Oper.wpIn
  refine ⟨fun f _ => hF f, ?_⟩
  rw [Oper.semAt_eq _ _ _ (by intro c; rw [hop]; simp)]
  simp [execOp, hop, resolve, invoke, builtin, hs, hx, hrun, Result.andThen, Oper.uponIn]
  exact hK
theorem rowS_slice {W : World} {B n : Nat} {v : Value} {xs : List Value} (h : W.ownsRow B 23 1 v n xs) : ∃ a c, v = .slice a n c := by
  rcases h.2 with ⟨e0, h0⟩ | ⟨g, cap, cur, e0, _⟩
  · exact ⟨none, 0, by rw [e0, h0]⟩
  · exact ⟨_, _, e0⟩
theorem rowS_ne {W : World} {B n : Nat} {v : Value} {xs : List Value} (h : W.ownsRow B 23 1 v n xs) {k : Nat} {cs : Array Value} (hk : W.heap[k]? = some (.cells cs 3)) : v.ownBlock ≠ some k := fun e => by
  rcases h.2 with ⟨rfl, _⟩ | ⟨g, cap, cur, rfl, _, hg, _⟩
  · cases e
  · simp only [Value.ownBlock, Option.some.injEq] at e
    subst e
    rw [hk] at hg
    simp only [Option.some.injEq, Obj.cells.injEq] at hg
    exact absurd hg.2 (by decide)
set_option maxHeartbeats 1000000 in
theorem ow_step {w w4 W w5 : World} {C : Nat} {S : Sch} {x : Nat} {oc5 : Option Addr} {cc5 : Nat} {is : List Int} {G : Nat → Prop} {v : Value} (hI : Ow w w4 C (w4.heap.size + 3) S (List.range x) W) (hc : W.cell? ⟨C, 0, none⟩ = some v) (hC : C < w4.heap.size) (hwC : w.heap.size ≤ C) (hG : ∀ k, G k → k < w.heap.size) (hx : x ≤ 10) (hszW : w4.heap.size + 3 ≤ W.heap.size) (hN : NewI W.drew w5 oc5 cc5 is) (his : setAt S x = is) :
    ∃ a7 n7 c7 w7, (Builtin.append_ #[24, 24] 24 #[v, .slice (some ⟨w5.heap.size, 0, none⟩) 1 1]).run Tryz.prog (w5.alloc (.cells #[.slice oc5 is.length cc5] 23)) = .ok (.slice a7 n7 c7) w7 ∧ w7.cell? ⟨C, 0, none⟩ = some v ∧ w7.frozen? ⟨C, 0, none⟩ = false ∧ Ow w w4 C (w4.heap.size + 3) S (List.range x ++ [x]) (w7.setCell ⟨C, 0, none⟩ (.slice a7 n7 c7)) ∧ KeepM w4.heap.size 3 G W (w7.setCell ⟨C, 0, none⟩ (.slice a7 n7 c7)) := by
  obtain ⟨i0, hi0, hz0, hz1, hz2⟩ := info_parts infoIs
  obtain ⟨⟨v', es, h1, h2, h3, h4⟩, h5, h6, h7, h8⟩ := hI
  obtain rfl : v' = v := by rw [h1] at hc; exact Option.some.inj hc
  obtain ⟨V, hV⟩ : ∃ V, w5.alloc (.cells #[.slice oc5 is.length cc5] 23) = V := ⟨_, rfl⟩
  have hb5 : Below W.heap.size W w5 := (show Below W.heap.size W W.drew from ⟨rfl, rfl, rfl, Nat.le_refl _, fun _ _ => rfl⟩).trans hN.below
  have hbV : Below W.heap.size W V := by rw [← hV]; exact hb5.alloc hb5.size _
  have hzV : V.heap.size = w5.heap.size + 1 := by rw [← hV]; simp
  have hz5 := hb5.size
  have hlen : es.length = x := by have := congrArg List.length h3; simpa using this
  have hnc : V.cell? ⟨w5.heap.size, 0, none⟩ = some (.slice oc5 is.length cc5) := by rw [← hV]; simp [go_sem]
  have hrV : V.ownsRow (w4.heap.size + 3) 23 1 v' es.length (ecells es) := h2.kept (row := none) ⟨hbV.os, hbV.tape, hbV.output, hbV.size, fun k hk _ => hbV.block k hk⟩ (by cases v'.ownBlock <;> simp)
  obtain ⟨v7, w7, hrun, hown7, hg7, _⟩ := run_append_own (P := Tryz.prog) V (w4.heap.size + 3) 24 24 23 i0 (.slice none 0 0) 1 24 Tryz.underlying24 hi0 hz0 hz1 hz2 rfl (by decide) v' es.length (ecells es) hrV ⟨w5.heap.size, 0, none⟩ 1 1 [.slice oc5 is.length cc5] rfl
    (by
      intro j u hj
      cases j with
      | zero => simp at hj; subst hj; rw [add_fromS]; exact hnc
      | succ j => simp at hj)
    (by intro u hu; simp at hu; subst hu; rfl) (by unfold maxLen; omega) (by omega) (by omega)
  obtain ⟨a7, c7, rfl⟩ := rowS_slice hown7
  have hlo : ∀ k, v'.ownBlock = some k → w4.heap.size + 3 ≤ k := fun k hk => (hrV.lt k hk).1
  have hblk : ∀ k, k < V.heap.size → v'.ownBlock ≠ some k → w7.heap[k]? = V.heap[k]? := fun k hk hne => hg7.block k hk (fun e => hne e.symm)
  have hneC : v'.ownBlock ≠ some C := fun e => by have := hlo C e; omega
  have hC7 : w7.heap[C]? = W.heap[C]? := (hblk C (by omega) hneC).trans (hbV.block C (by omega))
  have hs7 := hg7.size
  have hown7' : w7.ownsRow (w4.heap.size + 3) 23 1 (.slice a7 (es.length + 1) c7) (es ++ [((oc5, cc5), is)]).length (ecells (es ++ [((oc5, cc5), is)])) := by
    have e1 : ecells (es ++ [((oc5, cc5), is)]) = ecells es ++ [.slice oc5 is.length cc5] := by simp [ecells]
    rw [e1, List.length_append]
    exact hown7
  have hne7 : (Value.slice a7 (es.length + 1) c7).ownBlock = none ∨ (Value.slice a7 (es.length + 1) c7).ownBlock ≠ some C := by
    cases hv : (Value.slice a7 (es.length + 1) c7).ownBlock with
    | none => exact .inl rfl
    | some k => exact .inr (fun he => by have := (hown7.lt k hv).1; cases he; omega)
  have hent : ∀ e : Ent, (IntsIn V e.1.1 e.2 ∧ e.2.length ≤ e.1.2 ∧ ∀ a, e.1.1 = some a → w4.heap.size + 3 ≤ a.block ∧ ∃ cs, V.heap[a.block]? = some (.cells cs 3)) → IntsIn (w7.setCell ⟨C, 0, none⟩ (.slice a7 (es.length + 1) c7)) e.1.1 e.2 ∧ e.2.length ≤ e.1.2 ∧ ∀ a, e.1.1 = some a → w4.heap.size + 3 ≤ a.block ∧ ∃ cs, (w7.setCell ⟨C, 0, none⟩ (.slice a7 (es.length + 1) c7)).heap[a.block]? = some (.cells cs 3) := by
    rintro e ⟨q1, q2, q3⟩
    have hb : ∀ a, e.1.1 = some a → (w7.setCell ⟨C, 0, none⟩ (.slice a7 (es.length + 1) c7)).heap[a.block]? = V.heap[a.block]? := fun a ea => by
      obtain ⟨hBa, cs, hcs⟩ := q3 a ea
      have hl := (Array.getElem?_eq_some_iff.1 hcs).1
      exact (Below.heap_setCell _ _ _ _ (by show a.block ≠ C; omega)).trans (hblk a.block hl (rowS_ne hrV hcs))
    refine ⟨fun j hj => ?_, q2, fun a ea => ?_⟩
    · obtain ⟨a, ea, hca⟩ := q1 j hj
      have hbb := hb a ea
      rw [← add_block a j] at hbb
      exact ⟨a, ea, (World.cell?_of_block hbb).trans hca⟩
    · obtain ⟨hBa, cs, hcs⟩ := q3 a ea
      exact ⟨hBa, cs, (hb a ea).trans hcs⟩
  refine ⟨a7, es.length + 1, c7, w7, by rw [hV]; exact hrun, ?_, ?_, ⟨⟨_, es ++ [((oc5, cc5), is)], World.cell?_setCell_same' _ _ _ (by rw [World.cell?_of_block (a := ⟨C, 0, none⟩) hC7, h1]; rfl), hown7'.kept (grownBy_setCell' w7 C _) hne7, by rw [List.map_append, h3, List.map_append]; simp [his], ?_⟩, ?_, ?_, ?_, ?_⟩, ?_⟩
  · rw [World.cell?_of_block (a := ⟨C, 0, none⟩) hC7]; exact h1
  · rw [World.frozen?_of_block (a := ⟨C, 0, none⟩) hC7]; exact h5
  · intro e he
    rcases List.mem_append.1 he with he | he
    · exact hent e ⟨(h4 e he).1.keep hbV (Nat.le_refl _), (h4 e he).2.1, fun a ea => by obtain ⟨hBa, cs, hcs⟩ := (h4 e he).2.2 a ea; exact ⟨hBa, cs, (hbV.block _ (Array.getElem?_eq_some_iff.1 hcs).1).trans hcs⟩⟩
    · obtain rfl : e = ((oc5, cc5), is) := by simpa using he
      refine hent _ ⟨?_, hN.cap, fun a ea => ?_⟩
      · intro j hj
        obtain ⟨a, ea, hca⟩ := hN.ints j hj
        exact ⟨a, ea, by rw [← hV, World.cell?_alloc_lt _ _ _ (World.block_lt_of_cell? w5 _ hca)]; exact hca⟩
      · obtain ⟨cs, hcs⟩ := hN.ty a ea
        have hnw := (hN.new a ea).1
        exact ⟨by have : W.drew.heap.size = W.heap.size := rfl; omega, cs, by rw [← hV, Below.heap_alloc _ _ _ (Array.getElem?_eq_some_iff.1 hcs).1]; exact hcs⟩
  · rw [World.frozen?_setCell, World.frozen?_of_block (a := ⟨C, 0, none⟩) hC7]; exact h5
  · intro k hk hk'
    exact (Below.heap_setCell _ _ _ _ hk').trans ((hblk k (by omega) (fun e => by have := hlo k e; omega)).trans ((hbV.block k (by omega)).trans (h6 k hk hk')))
  · simp [World.setCell]; omega
  · exact ((h8.trans (hbV.mono h8.size)).grown hg7 (by have := h8.size; omega) (fun k hk => by have := hlo k hk; have := h8.size; omega)).setCell hwC _
  · refine ⟨by simp [World.setCell]; omega, fun k hk hkk => ?_⟩
    have hkC : k ≠ C := by rcases hkk with h | h; omega; have := hG k h; omega
    exact (Below.heap_setCell _ _ _ _ hkC).trans ((hblk k (by omega) (fun e => by have := hlo k e; rcases hkk with h | h; omega; have := hG k h; omega)).trans (hbV.block k hk))
set_option maxRecDepth 100000 in
set_option maxHeartbeats 8000000 in
theorem Sets_any (p : SchV) (S : Sch) (w : World) (hnm : ∀ c ∈ S.cols, c.n.size ≤ 9223372036854775807) (hcl : S.cols.length ≤ 1000) (hul : S.uqs.length ≤ 6) (hkl : S.key.length ≤ 1000) (hpl : ∀ l ∈ S.uqs, l.length ≤ 1000) (hS : SchIn w p S) :
    Calls Tryz.prog 13 #[.agg #[.slice p.oc S.cols.length p.cc, .slice p.ok S.key.length p.ck, .slice p.ou S.uqs.length p.cu]] w fun e w' => ∃ cb oo co hs, e = .returned (.func (.func 36) #[] #[.pointer (some ⟨cb, 0, none⟩)]) ∧ w'.cell? ⟨cb, 0, none⟩ = some (.slice oo (ownL S).length co) ∧ SetsAt w' oo (ownL S) hs ∧ Below w.heap.size w w' := by
  have HS := Lib.hid hS
  have HN := Lib.hid hnm
  have HPL := Lib.hid hpl
  clear hS hnm hpl
  refine (callsIn_wide (n := 5)).1 ?_
  refine callsIn_of_wp_marks Tryz.func13 rfl trivial ?_ rfl
  simp only [Tryz.ntmps13, List.size_toArray, List.length_cons, List.length_nil, Nat.reduceAdd, Nat.reduceSub, Array.replicate_succ, Array.replicate_zero, List.push_toArray, List.append_toArray, List.nil_append, List.cons_append]
  refine wpIn_wide.2 ?_
  go_wp2_with fail
  obtain ⟨W1, hW1⟩ : ∃ W1, (w.alloc (.cells #[.slice p.oc S.cols.length p.cc, .slice p.ok S.key.length p.ck, .slice p.ou S.uqs.length p.cu] 26)).alloc (.cells #[.slice none 0 0] 24) = W1 := ⟨_, rfl⟩
  have hb1 : Below w.heap.size w W1 := by rw [← hW1]; exact ((Below.refl _ _).alloc (Nat.le_refl _) _).alloc (by simp) _
  have c1 : W1.cell? ⟨w.heap.size + 1, 0, none⟩ = some (.slice none 0 0) := by rw [← hW1]; simp [go_sem]
  have f1 : W1.frozen? ⟨w.heap.size + 1, 0, none⟩ = false := by rw [← hW1]; simp [go_sem]
  try rw [hW1]
  have hS1 := HS.out.keep hb1 (Nat.le_refl _)
  have HB1 := Lib.hid hb1
  have hz1 : W1.heap.size = w.heap.size + 2 := by rw [← hW1]; simp
  clear hW1 hb1
  refine (lookAt_any _ _ _ _ _ _ _ _ _ W1).mono ?_
  rintro e w2 ⟨r, rfl, hm, hb2⟩
  go_wp2_with fail
  obtain ⟨W2, hW2⟩ : ∃ W2, w2.alloc (.cells #[.slice p.oc S.cols.length p.cc, .slice p.ok S.key.length p.ck, .slice p.ou S.uqs.length p.cu, .map (some r)] 68) = W2 := ⟨_, rfl⟩
  have hbz : Below w2.heap.size w2 W2 := by rw [← hW2]; exact (Below.refl _ _).alloc (Nat.le_refl _) _
  have hb12 := held_trans hb2 hbz
  have hm2 : W2.heap[r]? = some (.map mapTypes 4) := by rw [hbz.block _ (Array.getElem?_eq_some_iff.1 hm).1]; exact hm
  have l0 : W2.cell? ⟨w2.heap.size, 0, none⟩ = some (.slice p.oc S.cols.length p.cc) := by rw [← hW2]; simp [go_sem]
  have l1 : W2.cell? ⟨w2.heap.size, 1, none⟩ = some (.slice p.ok S.key.length p.ck) := by rw [← hW2]; simp [go_sem]
  have l2 : W2.cell? ⟨w2.heap.size, 2, none⟩ = some (.slice p.ou S.uqs.length p.cu) := by rw [← hW2]; simp [go_sem]
  have l3 : W2.cell? ⟨w2.heap.size, 3, none⟩ = some (.map (some r)) := by rw [← hW2]; simp [go_sem]
  try rw [hW2]
  have c2 : W2.cell? ⟨w.heap.size + 1, 0, none⟩ = some (.slice none 0 0) := by rw [hb12.cell (by simp; omega)]; exact c1
  have f2 : W2.frozen? ⟨w.heap.size + 1, 0, none⟩ = false := by rw [hb12.frozen (by simp; omega)]; exact f1
  have hS2 := hS1.keep hb12 (Nat.le_refl _)
  have HB2 := Lib.hid (HB1.out.trans (hb12.mono HB1.out.size))
  have HC := Lib.hid (lcheck_any p S r W2 hm2 HN.out hcl hul hS2)
  have HS2 := Lib.hid hS2
  have hz2 := hb12.size
  clear hm hb2 hbz hb12 hm2 hS1 hS2 c1 f1 hW2
  go_wp2_with fail
  refine HC.out.mono ?_
  rintro e w4 (⟨hok, rfl, hb4⟩ | ⟨hok, b, rfl, _, _, hb4⟩)
  · have HL := Lib.hid (show ownL S = S.key :: S.uqs by unfold ownL; rw [hok]; rfl)
    have c4 : w4.cell? ⟨w.heap.size + 1, 0, none⟩ = some (.slice none 0 0) := by rw [hb4.cell (by simp; omega)]; exact c2
    have f4 : w4.frozen? ⟨w.heap.size + 1, 0, none⟩ = false := by rw [hb4.frozen (by simp; omega)]; exact f2
    replace l0 := keep_cellS hb4 l0
    replace l1 := keep_cellS hb4 l1
    replace l2 := keep_cellS hb4 l2
    replace l3 := keep_cellS hb4 l3
    have hS4 := HS2.out.keep hb4 (Nat.le_refl _)
    have HB4 := Lib.hid (HB2.out.trans (hb4.mono HB2.out.size))
    have hz4 := hb4.size
    obtain ⟨hs, hU⟩ := hS4.uqs.at
    have HU := Lib.hid hU
    have HK := Lib.hid hS4.key
    obtain ⟨hs, hU⟩ := HS.out.uqs.at
    have HU := Lib.hid hU
    have HK := Lib.hid HS.out.key
    have hou : ∀ k, GS p.ou S.uqs k → k < w.heap.size := fun k hk => by
      obtain ⟨⟨a, e, rfl⟩, hne⟩ := hk
      cases hu : S.uqs with
      | nil => exact absurd hu hne
      | cons x l =>
        obtain ⟨a', e', hc, _⟩ := hU 0 (by rw [hu]; simp)
        rw [e] at e'
        cases e'
        have := World.block_lt_of_cell? w _ hc
        rwa [add_block] at this
    have HOU := Lib.hid hou
    have hU4 := hU.keep HB4.out (Nat.le_refl _)
    have HU4 := Lib.hid hU4
    have h0 : Ow w w4 (w.heap.size + 1) (w4.heap.size + 3) S [] w4 := ⟨⟨_, [], c4, World.ownsRow_nil _ _ _ _, rfl, fun e he => by cases he⟩, f4, fun _ _ _ => rfl, Nat.le_refl _, HB4.out⟩
    have H0 := Lib.hid h0
    have hwz := HB4.out.size
    clear hb4 hU c2 f2 HC hok c4 f4 hou hU4 h0
    go_wp2_with fail
    have hmx : Tryz.prog.follows .mixedOrders = true := by kernel_rfl
    obtain ⟨i0, hi0, hq0, hq1, hq2⟩ := info_parts infoIs
    refine (wpIn_wide (n := 5)).1 ?_
    refine wpIn_turnsX (F := Fence.wide) (G := GS p.ou S.uqs) (m := 1) rfl (by decide) (gf := 34) (fb := #[.agg #[.slice p.oc S.cols.length p.cc, .slice p.ok S.key.length p.ck, .slice p.ou S.uqs.length p.cu, .map (some r)]]) (lb := #[]) rfl trivial (enters_of Tryz.func34 (by kernel_rfl) rfl)
      (lsets_turnsX 4 (by decide) p S (some r) hs w4 (by omega) HU4.out) (fun k hk => by have := HOU.out k hk; omega) (fun x => rfl)
      (Ow w w4 (w.heap.size + 1) (w4.heap.size + 3) S) (fun _ _ _ => False) (Ow.still (by omega) hwz) (fun c => ⟨fun _ _ _ h _ => h, fun _ _ _ _ _ _ h _ => h⟩) (fun _ _ _ _ _ _ _ _ => trivial) H0.out
      (fun x => { tmps := #[.agg #[.slice p.oc S.cols.length p.cc, .slice p.ok S.key.length p.ck, .slice p.ou S.uqs.length p.cu], .pointer (some ⟨w.heap.size, 0, none⟩), .nilFunc, .pointer (some ⟨w.heap.size + 1, 0, none⟩), .pointer (some ⟨w2.heap.size, 0, none⟩), undef, svS p S hs x,
        .agg #[.slice p.oc S.cols.length p.cc, .slice p.ok S.key.length p.ck, .slice p.ou S.uqs.length p.cu], .agg #[.slice p.oc S.cols.length p.cc, .slice p.ok S.key.length p.ck, .slice p.ou S.uqs.length p.cu, .map (some r)], .agg #[.slice p.oc S.cols.length p.cc, .slice p.ok S.key.length p.ck, .slice p.ou S.uqs.length p.cu, .map (some r)], .nilIface, .bool true,
        .agg #[.slice p.oc S.cols.length p.cc, .slice p.ok S.key.length p.ck, .slice p.ou S.uqs.length p.cu, .map (some r)], .func (.func 34) #[.agg #[.slice p.oc S.cols.length p.cc, .slice p.ok S.key.length p.ck, .slice p.ou S.uqs.length p.cu, .map (some r)]] #[], .int .i64 x, svS p S hs x, undef, undef, undef, undef, undef, undef], defers := [] }) ?assign ?body ?done ?stop
    case assign =>
      intro l x W K hK
      simp only [encS]
      gi_wp2
      exact hK
    case body =>
      rintro l pre x W hI hsp _ hszW
      obtain ⟨rfl, hx⟩ := sp_last hsp
      obtain ⟨ob, cb, hsv, hint⟩ := sv_at p S hs w x HK.out HU.out hx
      have hintW := hint.keep hI.below (Nat.le_refl _)
      have hsl : (setAt S x).length ≤ 1000 := by
        unfold setAt
        by_cases h0 : x = 0
        · rw [if_pos h0]; exact hkl
        · rw [if_neg h0, List.getD_eq_getElem?_getD, List.getElem?_eq_getElem (show x - 1 < S.uqs.length by omega)]
          exact HPL.out _ (List.getElem_mem _)
      have HI := Lib.hid hI
      obtain ⟨⟨v, es, e1, e2, e3, e4⟩, e5, e6, e7, e8⟩ := hI
      rw [hsv]
      obtain ⟨is, his⟩ : ∃ is, setAt S x = is := ⟨_, rfl⟩
      rw [his] at hintW hsl hint
      have HIS := Lib.hid his
      rw [his]
      clear e2 e3 e4 e6 e7 e8 hint hsv his
      gi_wp2_with fail
      refine wpIn_region_any hmx ?_
      change wpAnyIn _ _ _ _ _ _ _ _ _ (World.drew _)
      refine wpAnyIn_two 0 1 (by kernel_rfl) ?_ ?_
      · unfold wpOpIn
        go_simp
        refine wpAnyIn_one 1 (by kernel_rfl) ?_
        unfold wpOpIn
        go_simp
        refine wpAnyIn_one 2 (by kernel_rfl) ?_
        unfold wpOpIn
        go_simp
        refine ⟨trivial, (CallsIn.inRound l (callsIn_wide.2 (CloneI_any ob cb is W.drew hintW hsl))).mono ?_⟩
        rintro e w5 ⟨oc5, cc5, rfl, hN5⟩
        obtain ⟨a7, n7, c7, w7, hrun, k1, k2, k3, k4⟩ := ow_step HI.out e1 (by omega) (by omega) HOU.out (by omega) (by omega) hN5 HIS.out
        have kz : w.heap.size + 1 < w5.heap.size := by have : W.drew.heap.size = W.heap.size := rfl; have := hN5.below.size; omega
        have kc : w5.cell? ⟨w.heap.size + 1, 0, none⟩ = some v := by rw [hN5.below.cell (by show w.heap.size + 1 < W.heap.size; omega)]; exact e1
        have HK3 := Lib.hid k3
        have HK4 := Lib.hid k4
        have HRUN := Lib.hid hrun
        clear k3 k4 hrun
        dsimp only
        refine wpAnyIn_one 3 (by kernel_rfl) ?_
        unfold wpOpIn
        go_simp
        refine wpAnyIn_one 4 (by kernel_rfl) ?_
        refine wpOpIn_append (fun _ => trivial) rfl rfl (s := .tmp 16) (x := .tmp 19) (t := 24) rfl rfl rfl HRUN.out ?_
        refine wpAnyIn_one 5 (by kernel_rfl) ?_
        unfold wpOpIn
        go_simp
        refine ⟨by kernel_rfl, ?_⟩
        exact ⟨HK4.out, HK3.out⟩
      · unfold wpOpIn
        go_simp
        refine wpAnyIn_two 0 2 (by kernel_rfl) ?_ ?_
        · unfold wpOpIn
          go_simp
          refine wpAnyIn_one 2 (by kernel_rfl) ?_
          unfold wpOpIn
          go_simp
          refine ⟨trivial, (CallsIn.inRound l (callsIn_wide.2 (CloneI_any ob cb is W.drew hintW hsl))).mono ?_⟩
          rintro e w5 ⟨oc5, cc5, rfl, hN5⟩
          obtain ⟨a7, n7, c7, w7, hrun, k1, k2, k3, k4⟩ := ow_step HI.out e1 (by omega) (by omega) HOU.out (by omega) (by omega) hN5 HIS.out
          have kz : w.heap.size + 1 < w5.heap.size := by have : W.drew.heap.size = W.heap.size := rfl; have := hN5.below.size; omega
          have kc : w5.cell? ⟨w.heap.size + 1, 0, none⟩ = some v := by rw [hN5.below.cell (by show w.heap.size + 1 < W.heap.size; omega)]; exact e1
          have HK3 := Lib.hid k3
          have HK4 := Lib.hid k4
          have HRUN := Lib.hid hrun
          clear k3 k4 hrun
          dsimp only
          refine wpAnyIn_one 3 (by kernel_rfl) ?_
          unfold wpOpIn
          go_simp
          refine wpAnyIn_one 4 (by kernel_rfl) ?_
          refine wpOpIn_append (fun _ => trivial) rfl rfl (s := .tmp 16) (x := .tmp 19) (t := 24) rfl rfl rfl HRUN.out ?_
          refine wpAnyIn_one 5 (by kernel_rfl) ?_
          unfold wpOpIn
          go_simp
          refine ⟨by kernel_rfl, ?_⟩
          exact ⟨HK4.out, HK3.out⟩
        · unfold wpOpIn
          go_simp
          refine ⟨trivial, (CallsIn.inRound l (callsIn_wide.2 (CloneI_any ob cb is W.drew hintW hsl))).mono ?_⟩
          rintro e w5 ⟨oc5, cc5, rfl, hN5⟩
          obtain ⟨a7, n7, c7, w7, hrun, k1, k2, k3, k4⟩ := ow_step HI.out e1 (by omega) (by omega) HOU.out (by omega) (by omega) hN5 HIS.out
          have kz : w.heap.size + 1 < w5.heap.size := by have : W.drew.heap.size = W.heap.size := rfl; have := hN5.below.size; omega
          have kc : w5.cell? ⟨w.heap.size + 1, 0, none⟩ = some v := by rw [hN5.below.cell (by show w.heap.size + 1 < W.heap.size; omega)]; exact e1
          have HK3 := Lib.hid k3
          have HK4 := Lib.hid k4
          have HRUN := Lib.hid hrun
          clear k3 k4 hrun
          dsimp only
          refine wpAnyIn_two 0 3 (by kernel_rfl) ?_ ?_
          · unfold wpOpIn
            go_simp
            refine wpAnyIn_one 3 (by kernel_rfl) ?_
            unfold wpOpIn
            go_simp
            refine wpAnyIn_one 4 (by kernel_rfl) ?_
            refine wpOpIn_append (fun _ => trivial) rfl rfl (s := .tmp 16) (x := .tmp 19) (t := 24) rfl rfl rfl HRUN.out ?_
            refine wpAnyIn_one 5 (by kernel_rfl) ?_
            unfold wpOpIn
            go_simp
            refine ⟨by kernel_rfl, ?_⟩
            exact ⟨HK4.out, HK3.out⟩
          · unfold wpOpIn
            go_simp
            refine wpAnyIn_one 0 (by kernel_rfl) ?_
            unfold wpOpIn
            go_simp
            refine wpAnyIn_one 4 (by kernel_rfl) ?_
            refine wpOpIn_append (fun _ => trivial) rfl rfl (s := .tmp 16) (x := .tmp 19) (t := 24) rfl rfl rfl HRUN.out ?_
            refine wpAnyIn_one 5 (by kernel_rfl) ?_
            unfold wpOpIn
            go_simp
            refine ⟨by kernel_rfl, ?_⟩
            exact ⟨HK4.out, HK3.out⟩
    case done =>
      rintro xs W1 rfl ⟨⟨v, es, h1, h2, h3, h4⟩, h5, h6, h7, h8⟩ hD
      obtain ⟨oo, co, rfl, hsets⟩ := ow_sets h2 (h3.trans (ownL_sets S)) (fun e he => ⟨(h4 e he).1, (h4 e he).2.1⟩)
      have HST := Lib.hid hsets
      have H1 := Lib.hid h1
      have H8 := Lib.hid h8
      have HD := Lib.hid hD
      clear hsets h1 h2 h3 h4 h5 h6 h7 h8 hD
      go_wp2_with fail
      refine ⟨by simp, .inl ⟨_, _, rfl, run_takeDeferred HD.out, ?_⟩⟩
      refine ⟨_, by simp [results, Tryz.results13], w.heap.size + 1, oo, co, es.map (·.1), rfl, ?_, ?_, below_put H8.out (by omega) _⟩
      · rw [HL.out]
        exact cell_put H1.out HD.out _
      · rw [HL.out]
        exact sets_put HST.out HD.out _
    case stop => intro c pre W _ h; exact h.elim
  · have HL := Lib.hid (show ownL S = [] by unfold ownL; rw [hok]; rfl)
    have c4 : w4.cell? ⟨w.heap.size + 1, 0, none⟩ = some (.slice none 0 0) := by rw [hb4.cell (by simp; omega)]; exact c2
    have HB4 := Lib.hid (HB2.out.trans (hb4.mono HB2.out.size))
    clear hb4 HC hok
    go_wp2_with fail
    refine ⟨_, by simp [results, Tryz.results13], w.heap.size + 1, none, 0, [], rfl, ?_, ?_, HB4.out⟩
    · rw [HL.out]; exact c4
    · rw [HL.out]; exact fun j hj => absurd hj (Nat.not_lt_zero j)
end Go.Proofs.YtjlhbpacecbfmaaGreatDoor
