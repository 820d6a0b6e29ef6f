/-
  codec.EncodeSchema.
-/
import Derived.Test.YtocmjlnhcloccaaGreatDoorCSchA
import Derived.Test.YtocmjlnhcloccaaGreatDoorCSchB
namespace Go.Proofs.YtocmjlnhcloccaaGreatDoor
open Go.RowKit

/-- the schema's box, the box of the row, the row -/
structure LaS (w : World) (sc : Array Value) (N : Nat) (W : World) (v : Value) (M : List UInt8) : Prop where
  own : W.ownsRow (w.heap.size + 1) 5 1 v M.length (u8s M)
  below : Below w.heap.size w W
  sb : W.heap[w.heap.size]? = some (.cells sc 26 (0, 0))
  bx : W.heap[N]? = some (.cells #[v] 31 (0, 0))
  ne : w.heap.size < N
theorem LaS.size {w W : World} {sc : Array Value} {N : Nat} {v : Value} {M : List UInt8} (h : LaS w sc N W v M) : N + 1 ≤ W.heap.size := (Array.getElem?_eq_some_iff.1 h.bx).1
theorem LaS.keep {w W W' : World} {sc : Array Value} {N : Nat} {v : Value} {M : List UInt8} (h : LaS w sc N W v M) (hb : Below W.heap.size W W') : LaS w sc N W' v M :=
  ⟨own_keep h.own hb, h.below.trans (hb.mono h.below.size), (hb.block _ (Array.getElem?_eq_some_iff.1 h.sb).1).trans h.sb, (hb.block _ (Array.getElem?_eq_some_iff.1 h.bx).1).trans h.bx, h.ne⟩
theorem LaS.drew {w W : World} {sc : Array Value} {N : Nat} {v : Value} {M : List UInt8} (h : LaS w sc N W v M) : LaS w sc N W.drew v M := h.keep (Below.refl _ _).drew
theorem LaS.at {w W : World} {sc : Array Value} {N : Nat} {v : Value} {M : List UInt8} (h : LaS w sc N W v M) : W.cell? ⟨N, 0, none⟩ = some v := by
  have := h.bx
  simp [World.cell?, this]
theorem LaS.open {w W : World} {sc : Array Value} {N : Nat} {v : Value} {M : List UInt8} (h : LaS w sc N W v M) : W.frozen? ⟨N, 0, none⟩ = false := by
  have := h.bx
  simp [World.frozen?, this]
/-- a longer row, stored in its box -/
theorem LaS.put {w W W' : World} {sc : Array Value} {N : Nat} {v v1 : Value} {M M1 : List UInt8} (h : LaS w sc N W v M) (hg : GB W v W' v1) (hown : W'.ownsRow (w.heap.size + 1) 5 1 v1 M1.length (u8s M1)) (hb : Below w.heap.size W W') : LaS w sc N (W'.setCell ⟨N, 0, none⟩ v1) v1 M1 := by
  have hsb := (hg.same _ (Array.getElem?_eq_some_iff.1 h.sb).1 (typed_ne (cs := []) h.own h.sb (by decide))).trans h.sb
  have hbx := (hg.same _ (Array.getElem?_eq_some_iff.1 h.bx).1 (typed_ne (cs := []) h.own h.bx (by decide))).trans h.bx
  have hne : some N ≠ v1.ownBlock := typed_ne (cs := []) hown hbx (by decide)
  have hlt := (Array.getElem?_eq_some_iff.1 hbx).1
  have hn := h.ne
  refine ⟨?_, (h.below.trans hb).setCell (by show w.heap.size ≤ N; omega) _, (Below.heap_setCell _ _ _ _ (by show w.heap.size ≠ N; omega)).trans hsb, ?_, h.ne⟩
  · exact hown.kept (row := some N) ⟨rfl, rfl, rfl, by simp [World.setCell], fun k _ hk => Below.heap_setCell _ _ _ _ (fun e => hk (by rw [e]))⟩ (.inr hne.symm)
  · show (W'.heap.modify N _)[N]? = _
    rw [Array.getElem?_modify, if_pos rfl, hbx]
    rfl
theorem own_slice {W : World} {B e n : Nat} {v : Value} {xs : List Value} (h : W.ownsRow B e 1 v n xs) : ∃ o c, v = .slice o n c := by
  rcases h.2 with ⟨rfl, hn⟩ | ⟨g, cap, cur, rfl, _⟩
  · exact ⟨none, 0, by rw [hn]⟩
  · exact ⟨_, cap, rfl⟩
theorem ints_one {W : World} (B : Nat) (n : Nat) (h : W.heap[B]? = some (.cells #[.int .i64 (n : Int)] 3 (0, 0))) : IntsT W (some ⟨B, 0, none⟩) [(n : Int)] := by
  refine ⟨fun j hj => ⟨⟨B, 0, none⟩, rfl, ?_⟩, fun a ha => ⟨#[.int .i64 (n : Int)], by cases ha; exact h⟩⟩
  obtain rfl : j = 0 := by simp at hj; exact hj
  simp [World.cell?, Addr.add, h]
theorem ints_three {W : World} (B a b c : Nat) (h : W.heap[B]? = some (.cells #[.int .i64 (a : Int), .int .i64 (b : Int), .int .i64 (c : Int)] 3 (0, 0))) : IntsT W (some ⟨B, 0, none⟩) [(a : Int), (b : Int), (c : Int)] := by
  refine ⟨fun j hj => ⟨⟨B, 0, none⟩, rfl, ?_⟩, fun x hx => ⟨_, by cases hx; exact h⟩⟩
  match j, hj with
  | 0, _ => simp [World.cell?, Addr.add, h]
  | 1, _ => simp [World.cell?, Addr.add, h]
  | 2, _ => simp [World.cell?, Addr.add, h]
theorem at_of {W : World} {N : Nat} {v : Value} {T : TypeId} (h : W.heap[N]? = some (.cells #[v] T (0, 0))) : W.cell? ⟨N, 0, none⟩ = some v := by simp [World.cell?, h]
theorem open_of {W : World} {N : Nat} {v : Value} {T : TypeId} (h : W.heap[N]? = some (.cells #[v] T (0, 0))) : W.frozen? ⟨N, 0, none⟩ = false := by simp [World.frozen?, h]
theorem step_append_bytes_at {ops : Array Oper} {o : Oper} {a : Act} {w : World} {K : Act → World → Prop} {Q : Exit → Act → World → Prop} {E : Prop}
    (hg : o.guard = none) (s x : Operand) (hop : o.op = Op.call { callee := Callee.builtin Builtin.append, args := #[s, x], argTypes := #[31, 31] })
    (base : Nat) (v vb : Value) (n : Nat) (l m : List UInt8) (hs : a.eval s = v) (hx : a.eval x = vb) (hown : w.ownsRow base 5 1 v n (u8s l)) (hn : n = l.length) (hsrc : BytesOf w vb m) (hm : m ≠ [])
    (hlen : n + m.length ≤ 1000000) (hbase : base ≤ w.heap.size)
    (hK : ∀ v' w', w'.ownsRow base 5 1 v' (l ++ m).length (u8s (l ++ m)) → w.grownBy w' v.ownBlock → (v'.ownBlock = v.ownBlock ∨ ∀ g, v'.ownBlock = some g → w.heap.size ≤ g) → K (a.put o.dst v') w') :
    if Region.wanted o (yielded ops a.tmps) = true then Oper.wp Tryz.prog o a w K Q else E := by
  subst hn
  obtain ⟨i0, hi0, hz0, hz1, hz2⟩ := info_parts infoU8
  have hw : Region.wanted o (yielded ops a.tmps) = true := by simp [Region.wanted, hg]
  rw [if_pos hw]
  rcases hsrc with ⟨_, e⟩ | ⟨ad, c, rfl, hc, hcell⟩
  · exact absurd e hm
  obtain ⟨v', w', hrun, r1, r2, _, r4⟩ := run_append_own_at (P := Tryz.prog) w base 31 o.type 5 i0 (.int .u8 0) 1 1 Tryz.underlying31 hi0 hz0 hz1 hz2 rfl (by decide) v l.length (u8s l) hown ad m.length c (u8s m) (by rw [u8s_length]; omega) (fun j u hj => by
      unfold u8s at hj
      rw [List.getElem?_map] at hj
      cases hq : m[j]? with
      | none => rw [hq] at hj; cases hj
      | some q =>
        rw [hq] at hj
        obtain ⟨hjl, e⟩ := List.getElem?_eq_some_iff.1 hq
        have := hcell j hjl
        rw [e] at this
        rw [this]
        exact hj) (fun u hu => by unfold u8s at hu; rw [List.mem_map] at hu; obtain ⟨q, _, rfl⟩ := hu; rfl) (by unfold maxLen; omega) (by omega) hbase
  unfold Oper.wp
  simp [execOp, hop, resolve, invoke, builtin, hs, hx, hrun, Result.andThen]
  refine hK v' w' ?_ r2 (r4.imp_right fun e g hgg => by rw [e] at hgg; cases hgg; exact Nat.le_refl _)
  rw [List.length_append]
  rw [show u8s (l ++ m) = u8s l ++ u8s m by unfold u8s; rw [List.map_append]]
  exact r1
theorem LaS.putLoop {w A : World} {sc : Array Value} {N l : Nat} {r : Loop} {v : Value} {M : List UInt8} (h : LaS w sc N A v M) (hl : w.heap.size ≤ l) (hr : A.heap[l]? = some (.loop r)) (o : Obj) : LaS w sc N (A.putObj l o) v M := by
  have hs := h.sb
  have hx := h.bx
  exact ⟨ownsRow_putObj h.own o hr rfl, below_put h.below hl o, (World.putObj_heap_other (fun e => by rw [e, hr] at hs; cases hs)).trans hs, (World.putObj_heap_other (fun e => by rw [e, hr] at hx; cases hx)).trans hx, h.ne⟩
/-- a round of the range over the sets -/
structure LaK (w : World) (sc : Array Value) (N P B : Nat) (W0 W : World) (v : Value) (M : List UInt8) : Prop where
  la : LaS w sc N W v M
  np : N < P
  pb : P ≤ B
  pl : ∀ g, v.ownBlock = some g → g < P ∨ B + 2 ≤ g
  sz : B + 2 ≤ W.heap.size
  kp : KeepM B 2 (fun k => P ≤ k ∧ k < B) W0 W
theorem LaK.step {w W0 W W1 W2 : World} {sc : Array Value} {N P B : Nat} {v v1 : Value} {M M1 : List UInt8} (h : LaK w sc N P B W0 W v M) (hb : Below W.heap.size W W1) (hg : GB W1 v W2 v1) (hown : W2.ownsRow (w.heap.size + 1) 5 1 v1 M1.length (u8s M1)) (hbb : Below (w.heap.size + 1) W1 W2) : LaK w sc N P B W0 (W2.setCell ⟨N, 0, none⟩ v1) v1 M1 := by
  have hla := (h.la.keep hb).put hg hown (hbb.mono (by omega))
  have hs1 := hb.size
  have hs2 := hg.size
  have hsz := h.sz
  have hnp := h.np
  have hpb := h.pb
  have hset : (W2.setCell ⟨N, 0, none⟩ v1).heap.size = W2.heap.size := by simp [World.setCell]
  refine ⟨hla, hnp, hpb, fun g e => ?_, by omega, h.kp.trans ⟨by omega, fun k hk hkk => ?_⟩⟩
  · rcases hg.place with p | p
    · exact h.pl g (p ▸ e)
    · have := p g e
      omega
  · have hk2 : P ≤ k ∧ k < B + 2 := by rcases hkk with h | h <;> omega
    refine (Below.heap_setCell _ _ _ _ (by show k ≠ N; omega)).trans ((hg.same k (by omega) (fun e => ?_)).trans (hb.block k hk))
    have := h.pl k e.symm
    omega
theorem LaS.box {w W W1 W2 : World} {sc : Array Value} {N : Nat} {v v1 : Value} {M : List UInt8} (h : LaS w sc N W v M) (hb : Below W.heap.size W W1) (hg : GB W1 v W2 v1) : W2.heap[N]? = some (.cells #[v] 31 (0, 0)) := by
  have h1 := h.keep hb
  exact (hg.same _ (Array.getElem?_eq_some_iff.1 h1.bx).1 (typed_ne (cs := []) h1.own h1.bx (by decide))).trans h1.bx
theorem LaS.ints {w W W1 W2 : World} {sc : Array Value} {N : Nat} {v v1 : Value} {M : List UInt8} (h : LaS w sc N W v M) (hb : Below W.heap.size W W1) (hg : GB W1 v W2 v1) {oa : Option Addr} {l : List Int} (hi : IntsT W oa l) (u : Value) : IntsT (W2.setCell ⟨N, 0, none⟩ u) oa l := by
  have h1 := h.keep hb
  have hi1 := hi.below hb
  have hk : ∀ a, oa = some a → (W2.setCell ⟨N, 0, none⟩ u).heap[a.block]? = W1.heap[a.block]? := fun a ha => by
    obtain ⟨cs, hc⟩ := hi1.2 a ha
    have hne : a.block ≠ N := fun e => by
      have hx := h1.bx
      rw [← e, hc] at hx
      simp only [Option.some.injEq, Obj.cells.injEq] at hx
      exact absurd hx.2.1 (by decide)
    exact (Below.heap_setCell _ _ _ _ hne).trans (hg.same _ (Array.getElem?_eq_some_iff.1 hc).1 (typed_ne (cs := []) h1.own hc (by decide)))
  refine ⟨fun j hj => ?_, fun a ha => ?_⟩
  · obtain ⟨a, ha, hc⟩ := hi1.1 j hj
    exact ⟨a, ha, (World.cell?_of_block (by rw [Addr.add_block]; exact hk a ha)).trans hc⟩
  · obtain ⟨cs, hc⟩ := hi1.2 a ha
    exact ⟨cs, (hk a ha).trans hc⟩
end Go.Proofs.YtocmjlnhcloccaaGreatDoor
namespace Go.Proofs.YtocmjlnhcloccaaGreatDoor
open Go.RowKit Go.Shelf
attribute [local go_sem] Oper.semAt_some

theorem spo_at2 {L : List (List Int)} {pre : List NSl} {x : NSl} (h : SpO L (pre ++ [x])) : ∃ _ : pre.length < L.length, x.1 = pre.length := by
  obtain ⟨k, hk, hl⟩ := h
  rw [List.map_append] at hk
  have hlen := congrArg List.length hk
  simp at hlen
  have hk' : k = pre.length + 1 := by omega
  subst hk'
  refine ⟨by omega, ?_⟩
  rw [List.range_succ] at hk
  have := (List.append_inj' hk (by simp)).2
  simpa using this
theorem intsT_loop {W : World} {oa : Option Addr} {is : List Int} (h : IntsT W oa is) {l : Nat} {r : Loop} (hl : W.heap[l]? = some (.loop r)) (o : Obj) : IntsT (W.putObj l o) oa is :=
  ⟨ints_loop h.1 hl o, fun a ha => by
    obtain ⟨cs, hc⟩ := h.2 a ha
    exact ⟨cs, (World.putObj_heap_other (fun e => by rw [e, hl] at hc; cases hc)).trans hc⟩⟩
/-- the bytes of the first k sets -/
def setB (S : Sch) (k : Nat) : List UInt8 := if k = 0 then [] else encI S.key ++ (numB S.uqs.length ++ (S.uqs.take (k - 1)).flatMap encI)
theorem setB_one (S : Sch) : setB S 1 = encI S.key ++ numB S.uqs.length := by simp [setB]
theorem setB_next (S : Sch) (k : Nat) (h : k < S.uqs.length) : setB S (k + 2) = setB S (k + 1) ++ encI S.uqs[k] := by
  unfold setB
  rw [if_neg (by omega), if_neg (by omega)]
  simp only [Nat.add_sub_cancel]
  rw [show k + 2 - 1 = k + 1 by omega, List.take_succ_eq_append_getElem h, List.flatMap_append]
  simp
theorem setB_all (S : Sch) : numB S.cols.length ++ S.cols.flatMap encCol ++ setB S (S.uqs.length + 1) = schL S := by
  unfold setB schL
  rw [if_neg (by omega), Nat.add_sub_cancel, List.take_length]
/-- between two rounds of the range over the sets -/
structure LaI (w : World) (sc : Array Value) (N P B : Nat) (M0 : List UInt8) (S : Sch) (k : Nat) (W : World) : Prop where
  ex : ∃ (v : Value) (M : List UInt8), M = M0 ++ setB S k ∧ M.length ≤ 1100 + 100 * k ∧ LaS w sc N W v M ∧ ∀ g, v.ownBlock = some g → g < P ∨ B + 2 ≤ g
  sz : B ≤ W.heap.size
theorem LaI.still {w : World} {sc : Array Value} {N P B : Nat} {M0 : List UInt8} {S : Sch} (hw : w.heap.size ≤ B) : Still B (fun (pre : List NSl) W => LaI w sc N P B M0 S pre.length W) := by
  constructor
  · rintro s A A' ⟨⟨v, M, h1, h2, h3, h4⟩, h5⟩ hb
    exact ⟨⟨v, M, h1, h2, h3.keep hb, h4⟩, Nat.le_trans h5 hb.size⟩
  · rintro s A l r o hl ⟨⟨v, M, h1, h2, h3, h4⟩, h5⟩ hr
    exact ⟨⟨v, M, h1, h2, h3.putLoop (by omega) hr o, h4⟩, by simp; exact h5⟩
set_option maxRecDepth 100000 in
set_option maxHeartbeats 8000000 in
theorem laySchema_any (p : SchV) (S : Sch) (w : World) (hS : SchIn w p S) (hok : schOk S = true) (m3 : ∀ c ∈ S.cols, c.n.size ≤ 9223372036854775807) :
    Calls Tryz.prog 48 #[.agg #[.slice p.oc S.cols.length p.cc, .slice p.ok S.key.length p.ck, .slice p.ou S.uqs.length p.cu]] w fun e w' => ∃ v, e = .returned v ∧ BytesOf w' v (schL S) ∧ Below w.heap.size w w' := by
  have hbd := schOk_bd hok
  have HS := Lib.hid hS
  have HBD := Lib.hid hbd
  have h8 := hbd.cols
  have h3 := hbd.uqs
  have HLN := Lib.hid (fun W v L oa cap l ho hB hi hl hL hb => layNumbersG_any (w.heap.size + 1) v L oa cap l W ho hB hi hl hL hb)
  have HT := Lib.hid (fun W s (h : s.size ≤ 1000000) => Text_any s W h)
  have HTR := Lib.hid (fun u W => truth_any u W)
  have HSETS := Lib.hid (fun W (hb : Below w.heap.size w W) => Sets_anyT p S W m3 (by have := hbd.cols; omega) (by have := hbd.uqs; omega) (by have := hbd.key.1; omega) (fun l hl => by have := (hbd.uq l hl).1; omega) (hS.keep hb (Nat.le_refl _)))
  have HOK := Lib.hid hok
  obtain ⟨oa, hoa⟩ : ∃ oa, p.oc = some oa := by obtain ⟨a, h, _⟩ := hS.cols 0 (schOk_len2 hok); exact ⟨a, h⟩
  clear hS hok m3 hbd
  obtain ⟨oc, cc, ok, ck, ou, cu⟩ := p
  simp only at *
  subst hoa
  refine (callsIn_wide (n := 5)).1 ?_
  refine callsIn_of_wp_marks Tryz.func48 rfl trivial ?_ rfl
  simp only [Tryz.ntmps48, List.size_toArray, List.length_cons, List.length_nil, Nat.reduceAdd, Nat.reduceSub, Array.replicate_succ, Array.replicate_zero, List.push_toArray, List.append_toArray, List.nil_append, List.cons_append]
  refine wpIn_wide.2 ?_
  go_wp2_with fail
  obtain ⟨W1, hW1⟩ : ∃ W1, (w.alloc (.cells #[.slice (some oa) S.cols.length cc, .slice ok S.key.length ck, .slice ou S.uqs.length cu] 26)).alloc (.cells #[.int .i64 (S.cols.length : Int)] 3) = W1 := ⟨_, rfl⟩
  have hB1 : Below w.heap.size w W1 := by rw [← hW1]; exact ((Below.refl _ w).alloc (Nat.le_refl _) _).alloc (by simp) _
  have s1 : W1.heap[w.heap.size]? = some (.cells #[.slice (some oa) S.cols.length cc, .slice ok S.key.length ck, .slice ou S.uqs.length cu] 26 (0, 0)) := by
    rw [← hW1, Below.heap_alloc _ _ _ (by simp)]
    exact heap_alloc_at w _
  have i1 : W1.heap[w.heap.size + 1]? = some (.cells #[.int .i64 (S.cols.length : Int)] 3 (0, 0)) := by
    rw [← hW1]
    have := World.alloc_heap_new (w.alloc (.cells #[.slice (some oa) S.cols.length cc, .slice ok S.key.length ck, .slice ou S.uqs.length cu] 26)) (.cells #[.int .i64 (S.cols.length : Int)] 3)
    rwa [World.size_alloc] at this
  have hz1 : w.heap.size + 2 = W1.heap.size := by rw [← hW1]; simp
  rw [hW1]
  clear hW1
  refine (HLN.out W1 (.slice none 0 0) [] (some ⟨w.heap.size + 1, 0, none⟩) 1 [(S.cols.length : Int)] (World.ownsRow_nil _ _ _ _) (by omega) (ints_one _ _ i1) (by simp) (by simp) (by intro x hx; simp at hx; subst hx; omega)).mono ?_
  rintro e w2 ⟨v0, rfl, ho2, hb2, _⟩
  have e0 : [] ++ nsB [(S.cols.length : Int)] = numB S.cols.length := by simp [nsB]
  rw [e0] at ho2
  have hz2 := hb2.size
  obtain ⟨N, hN⟩ : ∃ N, w2.heap.size = N := ⟨_, rfl⟩
  have s2 := (hb2.block w.heap.size (by omega)).trans s1
  have hB2 := hB1.trans (hb2.mono (by omega))
  have HL0 : Hid (LaS w #[.slice (some oa) S.cols.length cc, .slice ok S.key.length ck, .slice ou S.uqs.length cu] N (w2.alloc (.cells #[v0] 31)) v0 (numB S.cols.length)) := Lib.hid (by
    have hb := (Below.refl w2.heap.size w2).alloc (Nat.le_refl _) (.cells #[v0] 31)
    rw [← hN]
    exact ⟨own_keep ho2 hb, hB2.trans (hb.mono hB2.size), (hb.block _ (by omega)).trans s2, heap_alloc_at w2 _, by omega⟩)
  obtain ⟨o0, c0, rfl⟩ := own_slice ho2
  have y0 := (cells3 HL0.out.sb).1
  have y1 := (cells3 HL0.out.sb).2.1
  have y2 := (cells3 HL0.out.sb).2.2
  clear ho2 hb2 s1 i1 s2 hB1 hB2 e0
  go_wp2_with fail
  go_loopw [5, 16] (fun _ i wr => ∃ (k : Nat) (v : Value) (M : List UInt8), k ≤ S.cols.length ∧ i = .int .i64 k ∧ Hid (M = numB S.cols.length ++ (S.cols.take k).flatMap encCol) ∧ Hid (LaS w #[.slice (some oa) S.cols.length cc, .slice ok S.key.length ck, .slice ou S.uqs.length cu] N wr v M)) (fun _ i _ => S.cols.length - (intOf i).toNat)
  case atStart => exact ⟨0, _, _, Nat.zero_le _, rfl, Lib.hid (by simp), HL0⟩
  case round =>
    obtain ⟨k, v, M, hk, rfl, HM, HFr⟩ := hrel
    have x0 := (cells3 HFr.out.sb).1
    have x1 := (cells3 HFr.out.sb).2.1
    have x2 := (cells3 HFr.out.sb).2.2
    have xb := HFr.out.at
    have xf := HFr.out.open
    clear y0 y1 y2 HL0
    by_cases hlt : k < S.cols.length
    · obtain ⟨c, hc⟩ : ∃ c, S.cols[k] = c := ⟨_, rfl⟩
      obtain ⟨a, ea, hat⟩ := HS.out.cols.keep HFr.out.below (Nat.le_refl _) k hlt
      have ea2 := Option.some.inj ea
      rw [← ea2, hc] at hat
      clear ea ea2
      have hcb := HBD.out.col c (hc ▸ List.getElem_mem hlt)
      have HM2 := Lib.hid (show M ++ encCol c = numB S.cols.length ++ (S.cols.take (k + 1)).flatMap encCol by rw [HM.out, List.take_succ_eq_append_getElem hlt, hc, List.flatMap_append]; simp)
      obtain ⟨cn, ctI, czI, cu'⟩ := c
      obtain ⟨hn24, ht0, ht4, hz0, hz200⟩ := hcb
      simp only at hn24 ht0 ht4 hz0 hz200
      obtain ⟨ct, rfl⟩ := Int.eq_ofNat_of_zero_le ht0
      obtain ⟨cz, rfl⟩ := Int.eq_ofNat_of_zero_le hz0
      obtain ⟨q0, q1, q2, q3⟩ := hat
      have hk2 : (k : Int) < (S.cols.length : Int) := by omega
      have HML := Lib.hid (enc_len S.cols k (fun c hc => HBD.out.col c hc))
      have hMl : M.length ≤ 1000 := by have h := HML.out; have h2 := numB_le9 S.cols.length (by omega); rw [HM.out, List.length_append]; omega
      clear hc
      go_upto_region 5 with fail
      obtain ⟨wq, hwq⟩ : ∃ wq, wr.alloc (.cells #[.string cn, .int .i64 (ct : Int), .int .i64 (cz : Int), .bool cu'] 64) = wq := ⟨_, rfl⟩
      obtain ⟨CB, hCB⟩ : ∃ CB, wr.heap.size = CB := ⟨_, rfl⟩
      have hCN : N < CB := by have := HFr.out.size; omega
      have HF := Lib.hid (HFr.out.keep ((Below.refl wr.heap.size wr).alloc (Nat.le_refl _) (.cells #[.string cn, .int .i64 (ct : Int), .int .i64 (cz : Int), .bool cu'] 64)))
      have HC := Lib.hid (heap_alloc_at wr (.cells #[.string cn, .int .i64 (ct : Int), .int .i64 (cz : Int), .bool cu'] 64))
      rw [hwq] at HF HC
      rw [hCB] at HC
      rw [hwq]
      try rw [hCB]
      have c0 := (cells4 HC.out).1
      clear hwq hCB q0 q1 q2 q3 x0 x1 x2 xb xf HFr
      have hlT := txt24 cn hn24
      have hneT : txtL cn.data.toList ≠ [] := by unfold txtL numB; simp
      refine wp_region_noPanic ?_
      obtain ⟨W, hW⟩ : ∃ W, wq.drew = W := ⟨_, rfl⟩
      have hf := HF.out.drew
      have hc := ((Below.refl wq.heap.size wq).drew.block CB (Array.getElem?_eq_some_iff.1 HC.out).1).trans HC.out
      have hS : (fun W => W.cell? ⟨N, 0, none⟩ = some v ∧ W.cell? ⟨CB, 0, none⟩ = some (.string cn) ∧ True ∧ True) wq.drew := ⟨HF.out.drew.at, (show wq.drew.cell? ⟨CB, 0, none⟩ = some (.string cn) from c0), trivial, trivial⟩
      rw [hW] at hf hc hS
      refine wp_region_X (S := fun W => W.cell? ⟨N, 0, none⟩ = some v ∧ W.cell? ⟨CB, 0, none⟩ = some (.string cn) ∧ True ∧ True) (X := [4, 5]) (by kernel_rfl) ?_
      rw [hW]
      clear hW HF HC
      have HCL := Region.closed_none (md := .any) (ops := #[{ dst := some 20, op := Go.Op.load 31 (Go.Operand.tmp 3), type := 31, pos := "schema.go:15", after := #[], guard := none }, { dst := some 21, op := Go.Op.fieldAddr 64 (Go.Operand.tmp 5) 0, type := 0, pos := "schema.go:15", after := #[], guard := none }, { dst := some 22, op := Go.Op.load 9 (Go.Operand.tmp 21), type := 9, pos := "schema.go:15", after := #[{ on := 1, ground := Go.Ground.data }], guard := none }, { dst := some 23, op := Go.Op.call { callee := Go.Callee.value (Go.Operand.func 74), args := #[Go.Operand.tmp 22], argTypes := #[9] }, type := 31, pos := "schema.go:15", after := #[{ on := 2, ground := Go.Ground.data }], guard := none }, { dst := some 24, op := Go.Op.call { callee := Go.Callee.builtin Go.Builtin.append, args := #[Go.Operand.tmp 20, Go.Operand.tmp 23], argTypes := #[31, 31] }, type := 31, pos := "schema.go:15", after := #[{ on := 0, ground := Go.Ground.data }, { on := 3, ground := Go.Ground.data }, { on := 3, ground := Go.Ground.chain }], guard := none }, { dst := none, op := Go.Op.store 31 (Go.Operand.tmp 3) (Go.Operand.tmp 24), type := 0, pos := "schema.go:15", after := #[{ on := 4, ground := Go.Ground.data }, { on := 4, ground := Go.Ground.chain }, { on := 0, ground := Go.Ground.phase }, { on := 1, ground := Go.Ground.phase }, { on := 2, ground := Go.Ground.phase }, { on := 3, ground := Go.Ground.phase }, { on := 4, ground := Go.Ground.phase }], guard := none }]) 6
      refine wpAnyX_take (i := 0) (oi := { dst := some 20, op := Go.Op.load 31 (Go.Operand.tmp 3), type := 31, pos := "schema.go:15", after := #[], guard := none }) (v := v) rfl (by kernel_rfl) (by kernel_rfl) (by kernel_rfl) (fun _ _ _ h => h) (Region.waits_all (by kernel_rfl)) HCL (Or.inl ⟨by rfl, ?hy0a⟩) hS (fun HCL2 => ?rest0a)
      case hy0a => (rintro W ⟨e5, e6, e7, e8⟩; go_simp; try with_reducible rfl)
      clear HCL
      have HCL := HCL2
      clear HCL2
      try simp only [Act.put, List.setIfInBounds_toArray, List.set_cons_zero, List.set_cons_succ]
      refine wpAnyX_take (i := 1) (oi := { dst := some 21, op := Go.Op.fieldAddr 64 (Go.Operand.tmp 5) 0, type := 0, pos := "schema.go:15", after := #[], guard := none }) (v := .pointer (some ⟨CB, 0, none⟩)) rfl (by kernel_rfl) (by kernel_rfl) (by kernel_rfl) (fun _ _ _ h => h) (Region.waits_all (by kernel_rfl)) HCL (Or.inl ⟨by rfl, ?hy1a⟩) hS (fun HCL2 => ?rest1a)
      case hy1a => (rintro W ⟨e5, e6, e7, e8⟩; go_simp; try with_reducible rfl)
      clear HCL
      have HCL := HCL2
      clear HCL2
      try simp only [Act.put, List.setIfInBounds_toArray, List.set_cons_zero, List.set_cons_succ]
      refine wpAnyX_take (i := 2) (oi := { dst := some 22, op := Go.Op.load 9 (Go.Operand.tmp 21), type := 9, pos := "schema.go:15", after := #[{ on := 1, ground := Go.Ground.data }], guard := none }) (v := .string cn) rfl (by kernel_rfl) (by kernel_rfl) (by kernel_rfl) (fun _ _ _ h => h) (Region.waits_all (by kernel_rfl)) HCL (Or.inl ⟨by rfl, ?hy2a⟩) hS (fun HCL2 => ?rest2a)
      case hy2a => (rintro W ⟨e5, e6, e7, e8⟩; go_simp; try with_reducible rfl)
      clear HCL
      have HCL := HCL2
      clear HCL2
      try simp only [Act.put, List.setIfInBounds_toArray, List.set_cons_zero, List.set_cons_succ]
      clear HCL
      refine wpAnyX_single (i := 3) (o := { dst := some 23, op := Go.Op.call { callee := Go.Callee.value (Go.Operand.func 74), args := #[Go.Operand.tmp 22], argTypes := #[9] }, type := 31, pos := "schema.go:15", after := #[{ on := 2, ground := Go.Ground.data }], guard := none }) (by kernel_rfl) rfl (fun K hK => ?_)
      go_simp
      go_at_call 74
      refine (HT.out _ cn (by omega)).mono ?_
      rintro e W2 ⟨u, rfl, g, room, hg2, rfl, hown2, hb2⟩
      have hS2 := And.intro (cell_old hS.1 hb2) (And.intro (cell_old hS.2.1 hb2) (And.intro trivial trivial))
      refine hK.out _ _ (fun _ => hS2) ?_
      clear hK K hg2
      try simp only [Act.put, List.setIfInBounds_toArray, List.set_cons_zero, List.set_cons_succ]
      have hf2 := hf.keep hb2
      have hc2 := (hb2.block _ (Array.getElem?_eq_some_iff.1 hc).1).trans hc
      clear hf hc hS hS2 hb2
      refine wpAnyX_single (i := 4) (o := { dst := some 24, op := Go.Op.call { callee := Go.Callee.builtin Go.Builtin.append, args := #[Go.Operand.tmp 20, Go.Operand.tmp 23], argTypes := #[31, 31] }, type := 31, pos := "schema.go:15", after := #[{ on := 0, ground := Go.Ground.data }, { on := 3, ground := Go.Ground.data }, { on := 3, ground := Go.Ground.chain }], guard := none }) (by kernel_rfl) rfl (fun K hK => ?_)
      refine step_append_bytes_at rfl (.tmp 20) (.tmp 23) rfl (w.heap.size + 1) v _ M.length M (txtL cn.data.toList) ?hs5 ?hx5 hf2.own rfl (BytesOf.own hown2) hneT (by omega) (by have := hf2.size; have := hf2.ne; omega) ?_
      case hx5 => (simp [Act.eval]; done)
      case hs5 => (simp [Act.eval]; done)
      intro v1 W3 hown hg hat
      have hG := (GB.refl W2 v).grown hg hat
      have hbb := (Below.refl w.heap.size W2).grown hg (by have := hf2.size; have := hf2.ne; omega) (fun k hk => by have := (hf2.own.lt k hk).1; omega)
      have hbx := (hG.same _ (Array.getElem?_eq_some_iff.1 hf2.bx).1 (typed_ne (cs := []) hf2.own hf2.bx (by decide))).trans hf2.bx
      have hcx := (hG.same _ (Array.getElem?_eq_some_iff.1 hc2).1 (typed_ne (cs := []) hf2.own hc2 (by decide))).trans hc2
      refine hK.out _ _ (fun h => absurd (by decide) h) ?_
      clear hK K hown2 hg hat
      try simp only [Act.put, List.setIfInBounds_toArray, List.set_cons_zero, List.set_cons_succ]
      obtain ⟨o1, c1, hv1⟩ := own_slice hown
      obtain ⟨ln, hln⟩ : ∃ ln, (M ++ txtL cn.data.toList).length = ln := ⟨_, rfl⟩
      rw [hln] at hv1
      clear hln
      subst hv1
      have xb : W3.cell? ⟨N, 0, none⟩ = some v := at_of hbx
      have xf : W3.frozen? ⟨N, 0, none⟩ = false := open_of hbx
      refine wpAnyX_single (i := 5) (o := { dst := none, op := Go.Op.store 31 (Go.Operand.tmp 3) (Go.Operand.tmp 24), type := 0, pos := "schema.go:15", after := #[{ on := 4, ground := Go.Ground.data }, { on := 4, ground := Go.Ground.chain }, { on := 0, ground := Go.Ground.phase }, { on := 1, ground := Go.Ground.phase }, { on := 2, ground := Go.Ground.phase }, { on := 3, ground := Go.Ground.phase }, { on := 4, ground := Go.Ground.phase }], guard := none }) (by kernel_rfl) rfl (fun K hK => ?_)
      go_simp
      refine hK.out _ _ (fun h => absurd (by decide) h) ?_
      clear hK K xb xf
      try simp only [Act.put, List.setIfInBounds_toArray, List.set_cons_zero, List.set_cons_succ]
      refine wpAnyX_done (by kernel_rfl) ?_ _
      refine NoPanic.normal ?_
      have HF6 := Lib.hid (hf2.put hG hown hbb)
      have HC6 := Lib.hid ((Below.heap_setCell W3 ⟨N, 0, none⟩ (.slice o1 ln c1) CB (by show CB ≠ N; omega)).trans hcx)
      obtain ⟨wq, hwp⟩ : ∃ wp, W3.setCell ⟨N, 0, none⟩ (.slice o1 ln c1) = wp := ⟨_, rfl⟩
      rw [hwp] at HF6 HC6
      rw [hwp]
      clear hwp hf2 hc2 hG hown hbb hbx hcx
      go_upto_region 6 with fail
      clear hneT hlT
      obtain ⟨v, hv6⟩ : ∃ v6, Value.slice o1 ln c1 = v6 := ⟨_, rfl⟩
      rw [hv6] at HF6
      try rw [hv6]
      clear hv6
      have HF := HF6
      have HC := HC6
      clear HF6 HC6
      obtain ⟨tn, htn, ht1, HM3⟩ : ∃ tn : Nat, (if cu' = true then (1 : Int) else 0) = (tn : Int) ∧ tn ≤ 1 ∧ Hid (M ++ encCol ⟨cn, ct, cz, cu'⟩ = (M ++ txtL cn.data.toList) ++ nsB [(ct : Int), (cz : Int), (tn : Int)]) := by
        cases cu'
        · exact ⟨0, rfl, by omega, Lib.hid (by unfold encCol; simp [nsB])⟩
        · exact ⟨1, rfl, by omega, Lib.hid (by unfold encCol; simp [nsB])⟩
      have c1 := (cells4 (HC.out : wq.heap[CB]? = _)).2.1
      have c2 := (cells4 (HC.out : wq.heap[CB]? = _)).2.2.1
      have c3 := (cells4 (HC.out : wq.heap[CB]? = _)).2.2.2
      refine wp_region_noPanic ?_
      obtain ⟨W, hW⟩ : ∃ W, wq.drew = W := ⟨_, rfl⟩
      have hf := HF.out.drew
      have hc := ((Below.refl wq.heap.size wq).drew.block CB (Array.getElem?_eq_some_iff.1 HC.out).1).trans HC.out
      have hS : (fun W => W.cell? ⟨N, 0, none⟩ = some v ∧ W.cell? ⟨CB, 1, none⟩ = some (.int .i64 (ct : Int)) ∧ W.cell? ⟨CB, 2, none⟩ = some (.int .i64 (cz : Int)) ∧ W.cell? ⟨CB, 3, none⟩ = some (.bool cu')) wq.drew := ⟨HF.out.drew.at, c1, c2, c3⟩
      rw [hW] at hf hc hS
      refine wp_region_X (S := fun W => W.cell? ⟨N, 0, none⟩ = some v ∧ W.cell? ⟨CB, 1, none⟩ = some (.int .i64 (ct : Int)) ∧ W.cell? ⟨CB, 2, none⟩ = some (.int .i64 (cz : Int)) ∧ W.cell? ⟨CB, 3, none⟩ = some (.bool cu')) (X := [9, 10]) (by kernel_rfl) ?_
      rw [hW]
      clear hW HF HC
      have HCL := Region.closed_none (md := .any) (ops := #[{ dst := some 25, op := Go.Op.load 31 (Go.Operand.tmp 3), type := 31, pos := "schema.go:16", after := #[], guard := none }, { dst := some 26, op := Go.Op.fieldAddr 64 (Go.Operand.tmp 5) 1, type := 0, pos := "schema.go:16", after := #[], guard := none }, { dst := some 27, op := Go.Op.load 62 (Go.Operand.tmp 26), type := 62, pos := "schema.go:16", after := #[{ on := 1, ground := Go.Ground.data }], guard := none }, { dst := some 28, op := Go.Op.fieldAddr 64 (Go.Operand.tmp 5) 2, type := 0, pos := "schema.go:16", after := #[], guard := none }, { dst := some 29, op := Go.Op.load 3 (Go.Operand.tmp 28), type := 3, pos := "schema.go:16", after := #[{ on := 3, ground := Go.Ground.data }], guard := none }, { dst := some 30, op := Go.Op.fieldAddr 64 (Go.Operand.tmp 5) 3, type := 0, pos := "schema.go:16", after := #[], guard := none }, { dst := some 31, op := Go.Op.load 4 (Go.Operand.tmp 30), type := 4, pos := "schema.go:16", after := #[{ on := 5, ground := Go.Ground.data }], guard := none }, { dst := some 32, op := Go.Op.call { callee := Go.Callee.value (Go.Operand.func 75), args := #[Go.Operand.tmp 31], argTypes := #[4] }, type := 3, pos := "schema.go:16", after := #[{ on := 6, ground := Go.Ground.data }], guard := none }, { dst := some 33, op := Go.Op.buildSlice 23 3 #[(0, Go.Operand.tmp 27), (1, Go.Operand.tmp 29), (2, Go.Operand.tmp 32)], type := 23, pos := "schema.go:16", after := #[{ on := 2, ground := Go.Ground.data }, { on := 4, ground := Go.Ground.data }, { on := 7, ground := Go.Ground.data }], guard := none }, { dst := some 34, op := Go.Op.call { callee := Go.Callee.value (Go.Operand.func 73), args := #[Go.Operand.tmp 25, Go.Operand.tmp 33], argTypes := #[31, 23] }, type := 31, pos := "schema.go:16", after := #[{ on := 0, ground := Go.Ground.data }, { on := 8, ground := Go.Ground.data }, { on := 7, ground := Go.Ground.chain }], guard := none }, { dst := none, op := Go.Op.store 31 (Go.Operand.tmp 3) (Go.Operand.tmp 34), type := 0, pos := "schema.go:16", after := #[{ on := 9, ground := Go.Ground.data }, { on := 9, ground := Go.Ground.chain }, { on := 0, ground := Go.Ground.phase }, { on := 1, ground := Go.Ground.phase }, { on := 2, ground := Go.Ground.phase }, { on := 3, ground := Go.Ground.phase }, { on := 4, ground := Go.Ground.phase }, { on := 5, ground := Go.Ground.phase }, { on := 6, ground := Go.Ground.phase }, { on := 7, ground := Go.Ground.phase }, { on := 8, ground := Go.Ground.phase }, { on := 9, ground := Go.Ground.phase }], guard := none }]) 11
      refine wpAnyX_take (i := 0) (oi := { dst := some 25, op := Go.Op.load 31 (Go.Operand.tmp 3), type := 31, pos := "schema.go:16", after := #[], guard := none }) (v := v) rfl (by kernel_rfl) (by kernel_rfl) (by kernel_rfl) (fun _ _ _ h => h) (Region.waits_all (by kernel_rfl)) HCL (Or.inl ⟨by rfl, ?hy0b⟩) hS (fun HCL2 => ?rest0b)
      case hy0b => (rintro W ⟨e5, e6, e7, e8⟩; go_simp; try with_reducible rfl)
      clear HCL
      have HCL := HCL2
      clear HCL2
      try simp only [Act.put, List.setIfInBounds_toArray, List.set_cons_zero, List.set_cons_succ]
      refine wpAnyX_take (i := 1) (oi := { dst := some 26, op := Go.Op.fieldAddr 64 (Go.Operand.tmp 5) 1, type := 0, pos := "schema.go:16", after := #[], guard := none }) (v := .pointer (some ⟨CB, 1, none⟩)) rfl (by kernel_rfl) (by kernel_rfl) (by kernel_rfl) (fun _ _ _ h => h) (Region.waits_all (by kernel_rfl)) HCL (Or.inl ⟨by rfl, ?hy1b⟩) hS (fun HCL2 => ?rest1b)
      case hy1b => (rintro W ⟨e5, e6, e7, e8⟩; go_simp; try with_reducible rfl)
      clear HCL
      have HCL := HCL2
      clear HCL2
      try simp only [Act.put, List.setIfInBounds_toArray, List.set_cons_zero, List.set_cons_succ]
      refine wpAnyX_take (i := 2) (oi := { dst := some 27, op := Go.Op.load 62 (Go.Operand.tmp 26), type := 62, pos := "schema.go:16", after := #[{ on := 1, ground := Go.Ground.data }], guard := none }) (v := .int .i64 (ct : Int)) rfl (by kernel_rfl) (by kernel_rfl) (by kernel_rfl) (fun _ _ _ h => h) (Region.waits_all (by kernel_rfl)) HCL (Or.inl ⟨by rfl, ?hy2b⟩) hS (fun HCL2 => ?rest2b)
      case hy2b => (rintro W ⟨e5, e6, e7, e8⟩; go_simp; try with_reducible rfl)
      clear HCL
      have HCL := HCL2
      clear HCL2
      try simp only [Act.put, List.setIfInBounds_toArray, List.set_cons_zero, List.set_cons_succ]
      refine wpAnyX_take (i := 3) (oi := { dst := some 28, op := Go.Op.fieldAddr 64 (Go.Operand.tmp 5) 2, type := 0, pos := "schema.go:16", after := #[], guard := none }) (v := .pointer (some ⟨CB, 2, none⟩)) rfl (by kernel_rfl) (by kernel_rfl) (by kernel_rfl) (fun _ _ _ h => h) (Region.waits_all (by kernel_rfl)) HCL (Or.inl ⟨by rfl, ?hy3b⟩) hS (fun HCL2 => ?rest3b)
      case hy3b => (rintro W ⟨e5, e6, e7, e8⟩; go_simp; try with_reducible rfl)
      clear HCL
      have HCL := HCL2
      clear HCL2
      try simp only [Act.put, List.setIfInBounds_toArray, List.set_cons_zero, List.set_cons_succ]
      refine wpAnyX_take (i := 4) (oi := { dst := some 29, op := Go.Op.load 3 (Go.Operand.tmp 28), type := 3, pos := "schema.go:16", after := #[{ on := 3, ground := Go.Ground.data }], guard := none }) (v := .int .i64 (cz : Int)) rfl (by kernel_rfl) (by kernel_rfl) (by kernel_rfl) (fun _ _ _ h => h) (Region.waits_all (by kernel_rfl)) HCL (Or.inl ⟨by rfl, ?hy4b⟩) hS (fun HCL2 => ?rest4b)
      case hy4b => (rintro W ⟨e5, e6, e7, e8⟩; go_simp; try with_reducible rfl)
      clear HCL
      have HCL := HCL2
      clear HCL2
      try simp only [Act.put, List.setIfInBounds_toArray, List.set_cons_zero, List.set_cons_succ]
      refine wpAnyX_take (i := 5) (oi := { dst := some 30, op := Go.Op.fieldAddr 64 (Go.Operand.tmp 5) 3, type := 0, pos := "schema.go:16", after := #[], guard := none }) (v := .pointer (some ⟨CB, 3, none⟩)) rfl (by kernel_rfl) (by kernel_rfl) (by kernel_rfl) (fun _ _ _ h => h) (Region.waits_all (by kernel_rfl)) HCL (Or.inl ⟨by rfl, ?hy5b⟩) hS (fun HCL2 => ?rest5b)
      case hy5b => (rintro W ⟨e5, e6, e7, e8⟩; go_simp; try with_reducible rfl)
      clear HCL
      have HCL := HCL2
      clear HCL2
      try simp only [Act.put, List.setIfInBounds_toArray, List.set_cons_zero, List.set_cons_succ]
      refine wpAnyX_take (i := 6) (oi := { dst := some 31, op := Go.Op.load 4 (Go.Operand.tmp 30), type := 4, pos := "schema.go:16", after := #[{ on := 5, ground := Go.Ground.data }], guard := none }) (v := .bool cu') rfl (by kernel_rfl) (by kernel_rfl) (by kernel_rfl) (fun _ _ _ h => h) (Region.waits_all (by kernel_rfl)) HCL (Or.inl ⟨by rfl, ?hy6b⟩) hS (fun HCL2 => ?rest6b)
      case hy6b => (rintro W ⟨e5, e6, e7, e8⟩; go_simp; try with_reducible rfl)
      clear HCL
      have HCL := HCL2
      clear HCL2
      try simp only [Act.put, List.setIfInBounds_toArray, List.set_cons_zero, List.set_cons_succ]
      clear HCL
      refine wpAnyX_single (i := 7) (o := { dst := some 32, op := Go.Op.call { callee := Go.Callee.value (Go.Operand.func 75), args := #[Go.Operand.tmp 31], argTypes := #[4] }, type := 3, pos := "schema.go:16", after := #[{ on := 6, ground := Go.Ground.data }], guard := none }) (by kernel_rfl) rfl (fun K hK => ?_)
      go_simp
      go_at_call 75
      refine (HTR.out cu' _).mono ?_
      rintro e W2 ⟨rfl, rfl⟩
      refine hK.out _ _ (fun _ => hS) ?_
      clear hK K
      try simp only [Act.put, List.setIfInBounds_toArray, List.set_cons_zero, List.set_cons_succ]
      try rw [htn]
      refine wpAnyX_single (i := 8) (o := { dst := some 33, op := Go.Op.buildSlice 23 3 #[(0, Go.Operand.tmp 27), (1, Go.Operand.tmp 29), (2, Go.Operand.tmp 32)], type := 23, pos := "schema.go:16", after := #[{ on := 2, ground := Go.Ground.data }, { on := 4, ground := Go.Ground.data }, { on := 7, ground := Go.Ground.data }], guard := none }) (by kernel_rfl) rfl (fun K hK => ?_)
      go_simp
      have hb2 := (Below.refl W.heap.size W).alloc (Nat.le_refl _) (.cells #[.int .i64 (ct : Int), .int .i64 (cz : Int), .int .i64 (tn : Int)] 3)
      have hS2 := And.intro (cell_old hS.1 hb2) (And.intro (cell_old hS.2.1 hb2) (And.intro (cell_old hS.2.2.1 hb2) (cell_old hS.2.2.2 hb2)))
      refine hK.out _ _ (fun _ => hS2) ?_
      clear hK K
      try simp only [Act.put, List.setIfInBounds_toArray, List.set_cons_zero, List.set_cons_succ]
      have hf2 := hf.keep hb2
      have i3 := heap_alloc_at W (.cells #[.int .i64 (ct : Int), .int .i64 (cz : Int), .int .i64 (tn : Int)] 3)
      obtain ⟨W2, hW2⟩ : ∃ W2, W.alloc (.cells #[.int .i64 (ct : Int), .int .i64 (cz : Int), .int .i64 (tn : Int)] 3) = W2 := ⟨_, rfl⟩
      rw [hW2] at hf2 i3
      try rw [hW2]
      obtain ⟨B3, hB3⟩ : ∃ B3, W.heap.size = B3 := ⟨_, rfl⟩
      rw [hB3] at i3
      try rw [hB3]
      clear hB3 hW2 hf hc hS hS2 hb2
      refine wpAnyX_single (i := 9) (o := { dst := some 34, op := Go.Op.call { callee := Go.Callee.value (Go.Operand.func 73), args := #[Go.Operand.tmp 25, Go.Operand.tmp 33], argTypes := #[31, 23] }, type := 31, pos := "schema.go:16", after := #[{ on := 0, ground := Go.Ground.data }, { on := 8, ground := Go.Ground.data }, { on := 7, ground := Go.Ground.chain }], guard := none }) (by kernel_rfl) rfl (fun K hK => ?_)
      go_simp
      go_at_call 73
      refine (HLN.out W2 v (M ++ txtL cn.data.toList) (some ⟨B3, 0, none⟩) 3 [(ct : Int), (cz : Int), (tn : Int)] hf2.own (by have := hf2.size; have := hf2.ne; omega) (ints_three _ _ _ _ i3) (by simp) (by rw [List.length_append]; have := txt24 cn hn24; omega) (by intro x hx; simp at hx; rcases hx with rfl | rfl | rfl <;> omega)).mono ?_
      rintro e W3 ⟨v1, rfl, hown, hb4, hG⟩
      have hbx := (hG.same _ (Array.getElem?_eq_some_iff.1 hf2.bx).1 (typed_ne (cs := []) hf2.own hf2.bx (by decide))).trans hf2.bx
      refine hK.out _ _ (fun h => absurd (by decide) h) ?_
      clear hK K i3
      try simp only [Act.put, List.setIfInBounds_toArray, List.set_cons_zero, List.set_cons_succ]
      obtain ⟨o1, c1, hv1⟩ := own_slice hown
      obtain ⟨ln, hln⟩ : ∃ ln, (M ++ txtL cn.data.toList ++ nsB [(ct : Int), (cz : Int), (tn : Int)]).length = ln := ⟨_, rfl⟩
      rw [hln] at hv1
      clear hln
      subst hv1
      have xb : W3.cell? ⟨N, 0, none⟩ = some v := at_of hbx
      have xf : W3.frozen? ⟨N, 0, none⟩ = false := open_of hbx
      refine wpAnyX_single (i := 10) (o := { dst := none, op := Go.Op.store 31 (Go.Operand.tmp 3) (Go.Operand.tmp 34), type := 0, pos := "schema.go:16", after := #[{ on := 9, ground := Go.Ground.data }, { on := 9, ground := Go.Ground.chain }, { on := 0, ground := Go.Ground.phase }, { on := 1, ground := Go.Ground.phase }, { on := 2, ground := Go.Ground.phase }, { on := 3, ground := Go.Ground.phase }, { on := 4, ground := Go.Ground.phase }, { on := 5, ground := Go.Ground.phase }, { on := 6, ground := Go.Ground.phase }, { on := 7, ground := Go.Ground.phase }, { on := 8, ground := Go.Ground.phase }, { on := 9, ground := Go.Ground.phase }], guard := none }) (by kernel_rfl) rfl (fun K hK => ?_)
      go_simp
      refine hK.out _ _ (fun h => absurd (by decide) h) ?_
      clear hK K xb xf
      try simp only [Act.put, List.setIfInBounds_toArray, List.set_cons_zero, List.set_cons_succ]
      refine wpAnyX_done (by kernel_rfl) ?_ _
      refine NoPanic.normal ?_
      have HF7 := Lib.hid (hf2.put hG hown (hb4.mono (by omega)))
      rw [← HM3.out] at HF7
      clear hf2 hG hown hb4 hbx HM3
      go_wp2_with fail
      go_roundw
      case rel => exact ⟨k + 1, _, _, by omega, by go_num, HM2, HF7⟩
      case measure => simp [intOf]; omega
    · obtain rfl : k = S.cols.length := by omega
      have HP0 : Hid (∀ g, v.ownBlock = some g → g < wr.heap.size) := Lib.hid (fun g hg => (HFr.out.own.lt g hg).2)
      have HML := Lib.hid (enc_len S.cols S.cols.length (fun c hc => HBD.out.col c hc))
      have hMl : M.length ≤ 1000 := by have h := HML.out; have h2 := numB_le9 S.cols.length (by omega); rw [HM.out, List.length_append]; omega
      have HM0 := Lib.hid (show M = numB S.cols.length ++ S.cols.flatMap encCol by rw [HM.out, List.take_length])
      have hNr := HFr.out.size
      clear HML HM
      go_wp2_with fail
      refine (HSETS.out wr HFr.out.below).mono ?_
      rintro e wc ⟨cb, oo, co, hs, rfl, hcb, hse, hbc, hn1, hn2, hn3⟩
      have hOL : ownL S = S.key :: S.uqs := by unfold ownL; rw [HOK.out]; rfl
      rw [hOL] at hcb hse hn3
      have hsl : (S.key :: S.uqs).length ≤ 100 := by simp; omega
      have hll : ∀ l ∈ S.key :: S.uqs, l.length ≤ 1000 := fun l hl => by
        rcases List.mem_cons.1 hl with rfl | hl
        · have := HBD.out.key.1; omega
        · have := (HBD.out.uq l hl).1; omega
      have HSEQ := Lib.hid (sets1_turnsG 4 (by decide) cb oo co (S.key :: S.uqs) hs wc hcb hse hsl hll wr.heap.size hn1 hn2 hn3)
      have HLA := Lib.hid (HFr.out.keep hbc)
      have hzc := hbc.size
      have hwc : w.heap.size ≤ wc.heap.size := HLA.out.below.size
      have HLI : Hid (LaI w #[.slice (some oa) S.cols.length cc, .slice ok S.key.length ck, .slice ou S.uqs.length cu] N wr.heap.size wc.heap.size M S 0 wc) := Lib.hid ⟨⟨v, M, by simp [setB], by omega, HLA.out, fun g hg => .inl (HP0.out g hg)⟩, Nat.le_refl _⟩
      clear hcb hse hbc hn1 hn2 hn3 hsl hll hOL x0 x1 x2 xb xf HFr HLA HSETS HP0
      go_wp2_with fail
      refine (wpIn_wide (n := 5)).1 ?_
      refine wpIn_turnsX (F := Fence.wide) (G := fun k => wr.heap.size ≤ k ∧ k < wc.heap.size) (m := 0) rfl (by decide) (gf := 114) (fb := #[]) (lb := #[.pointer (some ⟨cb, 0, none⟩)]) rfl trivial (enters_of Tryz.func114 (by kernel_rfl) rfl)
        HSEQ.out (fun k hk => hk.2) (fun x => rfl)
        (fun pre W => LaI w #[.slice (some oa) S.cols.length cc, .slice ok S.key.length ck, .slice ou S.uqs.length cu] N wr.heap.size wc.heap.size M S pre.length W)
        (fun _ _ _ => False)
        (LaI.still hwc)
        (fun _ => ⟨fun _ _ _ h _ => h, fun _ _ _ _ _ _ h _ => h⟩)
        (fun x W l r o _ hx hl => intsT_loop hx hl o)
        HLI.out
        (fun x => { tmps := #[.agg #[.slice (some oa) S.cols.length cc, .slice ok S.key.length ck, .slice ou S.uqs.length cu], .pointer (some ⟨w.heap.size, 0, none⟩), .slice none 0 0, .pointer (some ⟨N, 0, none⟩), undef, u5, .int .i64 (x.1 : Int), .slice x.2.1 ((S.key :: S.uqs).getD x.1 []).length x.2.2, .pointer (some ⟨w.heap.size, 0, none⟩), .slice (some oa) S.cols.length cc, .int .i64 (S.cols.length : Int), .slice (some ⟨w.heap.size + 1, 0, none⟩) 1 1, .slice o0 (numB S.cols.length).length c0, .pointer (some ⟨w.heap.size, 0, none⟩), .slice (some oa) S.cols.length cc, .int .i64 (S.cols.length : Int), .int .i64 (S.cols.length : Int), .bool false, u18, u19, u20, u21, u22, u23, u24, u25, u26, u27, u28, u29, u30, u31, u32, u33, u34, u35, .agg #[.slice (some oa) S.cols.length cc, .slice ok S.key.length ck, .slice ou S.uqs.length cu], .func (.func 114) #[] #[.pointer (some ⟨cb, 0, none⟩)], .int .i64 (x.1 : Int), .slice x.2.1 ((S.key :: S.uqs).getD x.1 []).length x.2.2, undef, undef, undef, undef, undef, undef, undef, undef, undef, undef, undef, undef, undef, undef, undef, undef, undef], defers := [] }) ?assign ?body ?done ?stop
      case assign =>
        intro l x W K hK
        simp only [encO]
        gi_wp2
        exact hK
      case stop =>
        intro c pre W _ hix
        exact hix.elim
      case done =>
        rintro xs Wb hxs ⟨⟨v9, M9, h1, h2, h3, h4⟩, h5⟩ hD
        have hxl : xs.length = S.uqs.length + 1 := by have h := congrArg List.length hxs; simpa using h
        rw [hxl] at h1
        have HR := Lib.hid (show M9 = schL S by rw [h1, HM0.out, setB_all])
        have xb := h3.at
        have HB9 := Lib.hid h3
        have HD := Lib.hid hD
        clear hxs hxl h1 h2 h3 h4 hD HSEQ HLI
        go_wp2_with fail
        refine ⟨by simp, .inl ⟨_, _, rfl, run_takeDeferred HD.out, ?_⟩⟩
        have hown := HB9.out.own
        rw [HR.out] at hown
        exact ⟨_, by simp [results, Tryz.results48], _, rfl, BytesOf.own (ownsRow_putObj hown _ HD.out rfl), below_put HB9.out.below hwc _⟩
      case body =>
        rintro l pre ⟨xn, xa, xc⟩ W ⟨⟨v2, M2, hM2, hl2, hla, hpl⟩, hsz0⟩ hsp hfx hszW
        obtain ⟨hlt, hx⟩ := spo_at2 hsp
        dsimp only at hx
        subst hx
        unfold FxT at hfx
        dsimp only at hfx
        obtain ⟨L, hL⟩ : ∃ L, (S.key :: S.uqs).getD pre.length [] = L := ⟨_, rfl⟩
        dsimp only
        rw [hL] at hfx ⊢
        have HK0 : Hid (LaK w #[.slice (some oa) S.cols.length cc, .slice ok S.key.length ck, .slice ou S.uqs.length cu] N wr.heap.size wc.heap.size W W v2 M2) := Lib.hid ⟨hla, by omega, by omega, hpl, by omega, KeepM.refl _ _ _ _⟩
        have HFX := Lib.hid hfx
        have hLB : L.length ≤ 8 ∧ ∀ x ∈ L, 0 ≤ x ∧ x ≤ 8 := by
          have hm : L ∈ S.key :: S.uqs := by rw [← hL, List.getD_eq_getElem?_getD, List.getElem?_eq_getElem hlt]; exact List.getElem_mem hlt
          rcases List.mem_cons.1 hm with e | hm
          · rw [e]; exact HBD.out.key
          · exact HBD.out.uq L hm
        have hLB1 := hLB.1
        have HLB := Lib.hid hLB.2
        have hpre : pre.length ≤ 3 := by simp at hlt; omega
        have HM2 := Lib.hid hM2
        have HST := Lib.hid (show pre.length < (S.key :: S.uqs).length ∧ (S.key :: S.uqs).getD pre.length [] = L from ⟨hlt, hL⟩)
        have xb := hla.at
        have xf := hla.open
        have y2 := (cells3 hla.sb).2.2
        clear hfx hL hLB hM2 hla hpl hsp hlt HLI HSEQ
        gi_wp2_with fail
        have hB1 := (Below.refl W.heap.size W).alloc (Nat.le_refl _) (.cells #[.int .i64 (L.length : Int)] 3)
        have i1 := heap_alloc_at W (.cells #[.int .i64 (L.length : Int)] 3)
        obtain ⟨W1, hW1⟩ : ∃ W1, W.alloc (.cells #[.int .i64 (L.length : Int)] 3) = W1 := ⟨_, rfl⟩
        rw [hW1] at hB1 i1
        rw [hW1]
        clear hW1
        refine ⟨trivial, ?_⟩
        refine (CallsIn.inRound l (callsIn_wide.2 (HLN.out W1 v2 M2 (some ⟨W.heap.size, 0, none⟩) 1 [(L.length : Int)] (own_keep HK0.out.la.own hB1) (by have := HK0.out.la.size; have := HK0.out.la.ne; have := hB1.size; omega) (ints_one _ _ i1) (by simp) (by omega) (by intro x hx; simp at hx; subst hx; omega)))).mono ?_
        rintro e W2 ⟨v3, rfl, ho3, hb3, hg3⟩
        have HK1 := Lib.hid (HK0.out.step hB1 hg3 ho3 hb3)
        have HF1 := Lib.hid (HK0.out.la.ints hB1 hg3 HFX.out v3)
        have bx := HK0.out.la.box hB1 hg3
        have xb1 := at_of bx
        have xf1 := open_of bx
        obtain ⟨o3, c3, hv3⟩ := own_slice ho3
        obtain ⟨n3, hn3⟩ : ∃ n, (M2 ++ nsB [(L.length : Int)]).length = n := ⟨_, rfl⟩
        have hn3l : n3 ≤ 10000 := by
          have := nsB_len [(L.length : Int)] (by intro x hx; simp at hx; subst hx; omega)
          rw [← hn3, List.length_append]
          simp at this
          omega
        rw [hn3] at hv3
        have HN3 := Lib.hid hn3
        subst hv3
        clear ho3 hb3 hg3 bx hB1 i1 hn3 xb xf y2 HK0 HFX
        gi_wp2_with fail
        obtain ⟨W4, hW4⟩ : ∃ x, W2.setCell ⟨N, 0, none⟩ (.slice o3 n3 c3) = x := ⟨_, rfl⟩
        rw [hW4] at HK1 HF1
        rw [hW4]
        clear hW4 xb1 xf1
        refine ⟨trivial, ?_⟩
        refine (CallsIn.inRound l (callsIn_wide.2 (HLN.out W4 (.slice o3 n3 c3) (M2 ++ nsB [(L.length : Int)]) xa xc L HK1.out.la.own (by have := HK1.out.la.size; have := HK1.out.la.ne; omega) HF1.out (by omega) (by rw [HN3.out]; omega) (by intro x hx; have := HLB.out x hx; omega)))).mono ?_
        rintro e W5 ⟨v6, rfl, ho6, hb6, hg6⟩
        have HE := Lib.hid (show M2 ++ nsB [(L.length : Int)] ++ nsB L = M2 ++ encI L by simp [nsB, encI])
        rw [HE.out] at ho6
        have HK2 := Lib.hid (HK1.out.step (Below.refl _ _) hg6 ho6 hb6)
        have bx := HK1.out.la.box (Below.refl _ _) hg6
        have xb1 := at_of bx
        have xf1 := open_of bx
        obtain ⟨o6, c6, hv6⟩ := own_slice ho6
        have hlE := encI_len L ⟨hLB1, HLB.out⟩
        obtain ⟨n6, hn6⟩ : ∃ n, (M2 ++ encI L).length = n := ⟨_, rfl⟩
        have hn6l : n6 ≤ 1191 + 100 * pre.length := by
          rw [← hn6, List.length_append]
          omega
        rw [hn6] at hv6
        have HN6 := Lib.hid hn6
        subst hv6
        have y2 := (cells3 HK2.out.la.sb).2.2
        clear ho6 hb6 hg6 bx hn6 HK1 HF1 HE
        by_cases hp : pre.length = 0
        · have hpi : (pre.length : Int) = 0 := by omega
          gi_wp2_with fail
          have hz6 : (W5.setCell ⟨N, 0, none⟩ (.slice o6 n6 c6)).heap.size = W5.heap.size := by simp [World.setCell]
          obtain ⟨W6, hW6⟩ : ∃ x, W5.setCell ⟨N, 0, none⟩ (.slice o6 n6 c6) = x := ⟨_, rfl⟩
          rw [hW6] at HK2 hz6
          rw [hW6, ← hz6]
          clear hW6 xb1 xf1 hz6 y2
          have hB1 := (Below.refl W6.heap.size W6).alloc (Nat.le_refl _) (.cells #[.int .i64 (S.uqs.length : Int)] 3)
          have i1 := heap_alloc_at W6 (.cells #[.int .i64 (S.uqs.length : Int)] 3)
          obtain ⟨W1, hW1⟩ : ∃ W1, W6.alloc (.cells #[.int .i64 (S.uqs.length : Int)] 3) = W1 := ⟨_, rfl⟩
          rw [hW1] at hB1 i1
          rw [hW1]
          clear hW1
          refine ⟨trivial, ?_⟩
          refine (CallsIn.inRound l (callsIn_wide.2 (HLN.out W1 (.slice o6 n6 c6) (M2 ++ encI L) (some ⟨W6.heap.size, 0, none⟩) 1 [(S.uqs.length : Int)] (own_keep HK2.out.la.own hB1) (by have := HK2.out.la.size; have := HK2.out.la.ne; have := hB1.size; omega) (ints_one _ _ i1) (by simp) (by rw [HN6.out]; omega) (by intro x hx; simp at hx; subst hx; omega)))).mono ?_
          rintro e W2 ⟨v7, rfl, ho7, hb7, hg7⟩
          have HK3 := Lib.hid (HK2.out.step hB1 hg7 ho7 hb7)
          have bx := HK2.out.la.box hB1 hg7
          have xb1 := at_of bx
          have xf1 := open_of bx
          obtain ⟨o7, c7, hv7⟩ := own_slice ho7
          obtain ⟨n7, hn7⟩ : ∃ n, (M2 ++ encI L ++ nsB [(S.uqs.length : Int)]).length = n := ⟨_, rfl⟩
          have hn7l : n7 ≤ 1200 := by
            have := nsB_len [(S.uqs.length : Int)] (by intro x hx; simp at hx; subst hx; omega)
            rw [← hn7, List.length_append, HN6.out]
            simp at this
            omega
          rw [hn7] at hv7
          have HN7 := Lib.hid hn7
          subst hv7
          clear ho7 hb7 hg7 bx hB1 i1 hn7 HK2
          gi_wp2_with fail
          refine ⟨HK3.out.kp, ⟨⟨_, _, ?_, ?_, HK3.out.la, HK3.out.pl⟩, by have := HK3.out.sz; omega⟩⟩
          · obtain ⟨h1, h2⟩ := HST.out
            have h3 := HM2.out
            simp only [hp, List.length_cons, List.getD_cons_zero] at h1 h2 h3
            rw [h3, ← h2, List.length_append, hp]
            show _ = M ++ setB S 1
            rw [setB_one]
            simp [setB, nsB]
          · rw [HN7.out, List.length_append]
            simp
            omega
        · have hpi : ¬ (pre.length : Int) = 0 := by omega
          gi_wp2_with fail
          refine ⟨HK2.out.kp, ⟨⟨_, _, ?_, ?_, HK2.out.la, HK2.out.pl⟩, by have := HK2.out.sz; omega⟩⟩
          · obtain ⟨p, hpp⟩ : ∃ p, pre.length = p + 1 := ⟨pre.length - 1, by omega⟩
            obtain ⟨h1, h2⟩ := HST.out
            have h3 := HM2.out
            simp only [hpp, List.length_cons] at h1 h2 h3
            have hp3 : p < S.uqs.length := by omega
            rw [List.getD_cons_succ, List.getD_eq_getElem?_getD, List.getElem?_eq_getElem hp3] at h2
            rw [h3, ← h2, List.length_append, hpp]
            show _ = M ++ setB S (p + 2)
            rw [setB_next S p hp3, List.append_assoc]
            rfl
          · rw [HN6.out, List.length_append]
            simp
            omega
end Go.Proofs.YtocmjlnhcloccaaGreatDoor
namespace Go.Proofs.YtocmjlnhcloccaaGreatDoor
open Go.RowKit

/-- what EncodeSchema tells -/
def EncSPost (S : Sch) (w : World) (e : Ending) (w' : World) : Prop :=
  (schOk S = true ∧ ∃ v, e = .returned (.tuple #[v, .int .i64 0]) ∧ BytesOf w' v (schL S) ∧ Below w.heap.size w w') ∨ (schOk S = false ∧ e = .returned (.tuple #[.slice none 0 0, .int .i64 2]) ∧ Below w.heap.size w w')
set_option maxRecDepth 100000 in
set_option maxHeartbeats 4000000 in
theorem EncodeS_any (p : SchV) (S : Sch) (w : World) (hg : HasET w) (hS : SchIn w p S) (m3 : ∀ c ∈ S.cols, c.n.size ≤ 9223372036854775807) (hcl : S.cols.length ≤ 1000) (hul : S.uqs.length ≤ 6) :
    Calls Tryz.prog 22 #[.agg #[.slice p.oc S.cols.length p.cc, .slice p.ok S.key.length p.ck, .slice p.ou S.uqs.length p.cu]] w (EncSPost S w) := by
  have HC := Lib.hid (fun W (hb : Below w.heap.size w W) => SCheck_any p S W (hg.below hb hg.lt) m3 hcl hul (hS.keep hb (Nat.le_refl _)))
  have HL := Lib.hid (fun W (hb : Below w.heap.size w W) hok => laySchema_any p S W (hS.keep hb (Nat.le_refl _)) hok m3)
  clear hg hS m3
  go_enter Tryz.func22, Tryz.ntmps22
  go_wp2_with fail
  have hB0 := (Below.refl w.heap.size w).alloc (Nat.le_refl _) (.cells #[.slice p.oc S.cols.length p.cc, .slice p.ok S.key.length p.ck, .slice p.ou S.uqs.length p.cu] 26)
  refine (HC.out _ hB0).mono ?_
  rintro e w1 ⟨rfl, hb1⟩
  have s1 : w1.heap[w.heap.size]? = some (.cells #[.slice p.oc S.cols.length p.cc, .slice p.ok S.key.length p.ck, .slice p.ou S.uqs.length p.cu] 26 (0, 0)) := (hb1.block _ (by simp)).trans (heap_alloc_at w _)
  have HB1 := Lib.hid (hB0.trans (hb1.mono (by simp)))
  have x0 := (cells3 s1).1
  have x1 := (cells3 s1).2.1
  have x2 := (cells3 s1).2.2
  clear hb1 hB0 s1
  cases hok : schOk S with
  | true =>
    have hn : schN S = 0 := by unfold schN; rw [hok]; rfl
    rw [hn]
    go_wp2_with fail
    refine (HL.out _ HB1.out hok).mono ?_
    rintro e w2 ⟨v, rfl, hv, hb2⟩
    have HV := Lib.hid hv
    have HB2 := Lib.hid hb2
    clear hv hb2
    go_wp2_with fail
    go_ret2
    exact .inl ⟨hok, _, rfl, HV.out, HB1.out.trans (HB2.out.mono HB1.out.size)⟩
  | false =>
    have hn : schN S = 2 := by unfold schN; rw [hok]; rfl
    rw [hn]
    go_wp2_with fail
    go_ret2
    exact .inr ⟨hok, rfl, HB1.out⟩
end Go.Proofs.YtocmjlnhcloccaaGreatDoor
