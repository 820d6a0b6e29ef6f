/-
  codec: rows are laid.
-/
import Derived.Test.YtocmjlnhcloccaaGreatDoorCRdr
import Derived.Test.YtocmjlnhcloccaaGreatDoorOctA
import Derived.Deep.RegionLaw
import Derived.Deep.AppendLies
import Derived.Test.YtocmjlnhcloccaaGreatDoorSSch
namespace Go.Proofs.YtocmjlnhcloccaaGreatDoor
open Go.RowKit

theorem layNumber_any (z : Int) (hz : numSz z = true) (n : Nat) (w : World) (hn : n < 18446744073709551616) :
    Calls Tryz.prog 133 #[.int .i64 z, .int .u64 n] w (LaysB w (tellL n z.toNat)) := by
  rcases numSz_cases hz with rfl | rfl | rfl | rfl
  · exact layNumber1 n w hn
  · exact layNumber2 n w hn
  · exact layNumber4 n w hn
  · exact layNumber8 n w hn
theorem u64_of (i : Int) : IntKind.u64.wrap i = (((i % 18446744073709551616).toNat : Nat) : Int) := by
  simp only [IntKind.wrap_u64]
  omega
theorem u8_of (i : Int) : IntKind.u8.wrap i = ((UInt8.ofNat (i % 256).toNat).toNat : Int) := by
  simp only [IntKind.wrap_u8]
  rw [UInt8.toNat_ofNat']
  omega
theorem lays_box {w W : World} {l : List UInt8} {e : Ending} {w' : World} {o : Obj} (hW : W = w.alloc o) (h : LaysB W l e w') : LaysB w l e w' := by
  subst hW
  obtain ⟨v, he, hv, hb⟩ := h
  exact ⟨v, he, hv, ((Below.refl _ _).alloc (Nat.le_refl _) _).trans (hb.mono (by simp))⟩

/-- the bytes of a value that is not null -/
def layV (t z : Int) (v : Vl) : List UInt8 :=
  if t = 1 then tellL (v.i % 18446744073709551616).toNat z.toNat
  else if t = 2 then tellL v.u.toNat z.toNat
  else if t = 3 then [UInt8.ofNat (v.i % 256).toNat]
  else txtL v.s.data.toList
theorem valB_layV {c : Col} {v : Vl} (h : v.k ≠ 0) : valB c v = 1 :: layV c.t c.z v := by
  unfold valB layV
  rw [if_neg h]
  split
  · rfl
  · split
    · rfl
    · split <;> rfl
theorem layV_ne {t z : Int} {v : Vl} (hz : szOk t z = true) : layV t z v ≠ [] := by
  rcases type_cases t with ht | rfl | rfl | rfl | rfl
  · rw [szOk_none ht] at hz; cases hz
  · rcases sz_num hz (.inl rfl) with rfl | rfl | rfl | rfl <;> exact tellL_ne _ _ (by decide)
  · rcases sz_num hz (.inr rfl) with rfl | rfl | rfl | rfl <;> exact tellL_ne _ _ (by decide)
  · intro e; cases e
  · intro e; cases e
theorem txt_len (l : List UInt8) (h : l.length ≤ 1000000) : (txtL l).length ≤ 9 + l.length := by
  unfold txtL
  rw [List.length_append, numB_length]
  have := sizeOf8_le l.length (by omega)
  omega

set_option maxRecDepth 100000 in
set_option maxHeartbeats 1000000 in
theorem lay1 (z : Int) (v : Vl) (w : World) (hz : numSz z = true) :
    Calls Tryz.prog 90 #[.int .i64 z, .agg #[.int .i64 v.k, .int .i64 v.i, .int .u64 v.u, .string v.s]] w (LaysB w (layV 1 z v)) := by
  have HC := Lib.hid (fun W => layNumber_any z hz (v.i % 18446744073709551616).toNat W (by omega))
  clear hz
  go_enter Tryz.func90, Tryz.ntmps90
  go_wp2_with fail
  rw [u64_of]
  refine (HC.out _).mono ?_
  rintro e w' h
  obtain ⟨x, rfl, hv, hb⟩ := lays_box rfl h
  have HV := Lib.hid hv
  clear h hv
  go_wp2_with fail
  go_ret
  exact ⟨_, rfl, HV.out, hb⟩
set_option maxRecDepth 100000 in
set_option maxHeartbeats 1000000 in
theorem lay2 (z : Int) (v : Vl) (w : World) (hz : numSz z = true) (hu : 0 ≤ v.u) (hu2 : v.u < 18446744073709551616) :
    Calls Tryz.prog 93 #[.int .i64 z, .agg #[.int .i64 v.k, .int .i64 v.i, .int .u64 v.u, .string v.s]] w (LaysB w (layV 2 z v)) := by
  have C := fun W => layNumber_any z hz v.u.toNat W (by omega)
  rw [show ((v.u.toNat : Nat) : Int) = v.u by omega] at C
  have HC := Lib.hid C
  clear hz C
  go_enter Tryz.func93, Tryz.ntmps93
  go_wp2_with fail
  refine (HC.out _).mono ?_
  rintro e w' h
  obtain ⟨x, rfl, hv, hb⟩ := lays_box rfl h
  have HV := Lib.hid hv
  clear h hv
  go_wp2_with fail
  go_ret
  exact ⟨_, rfl, HV.out, hb⟩
set_option maxRecDepth 100000 in
set_option maxHeartbeats 1000000 in
theorem lay3 (z : Int) (v : Vl) (w : World) :
    Calls Tryz.prog 95 #[.int .i64 z, .agg #[.int .i64 v.k, .int .i64 v.i, .int .u64 v.u, .string v.s]] w (LaysB w (layV 3 z v)) := by
  go_enter Tryz.func95, Tryz.ntmps95
  go_wp2_with fail
  go_ret
  refine ⟨_, rfl, ?_, by go_grown⟩
  have h := one_lit (w.alloc (.cells #[.int .i64 v.k, .int .i64 v.i, .int .u64 v.u, .string v.s] 68)) (UInt8.ofNat (v.i % 256).toNat)
  rw [← u8_of, World.size_alloc] at h
  exact h
set_option maxRecDepth 100000 in
set_option maxHeartbeats 1000000 in
theorem lay4 (z : Int) (v : Vl) (w : World) (hs : v.s.size ≤ 1000000) :
    Calls Tryz.prog 98 #[.int .i64 z, .agg #[.int .i64 v.k, .int .i64 v.i, .int .u64 v.u, .string v.s]] w (LaysB w (layV 4 z v)) := by
  have HC := Lib.hid (fun W => Text_any v.s W hs)
  clear hs
  go_enter Tryz.func98, Tryz.ntmps98
  go_wp2_with fail
  refine (HC.out _).mono ?_
  rintro e w' ⟨x, rfl, h⟩
  have HV := Lib.hid (h.at.1.of (by intro e; cases e))
  have hb := h.at.2
  clear h
  go_wp2_with fail
  go_ret
  exact ⟨_, rfl, HV.out, ((Below.refl _ _).alloc (Nat.le_refl _) _).trans (hb.mono (by simp))⟩

theorem step_append_bytes {ops : Array Oper} {o : Oper} {a : Act} {w : World} {K : Act → World → Prop} {Q : Exit → Act → World → Prop} {E : Prop}
    (hg : o.guard = none) (s x : Operand) (hop : o.op = Op.call { callee := Callee.builtin Builtin.append, args := #[s, x], argTypes := #[31, 31] })
    (base : Nat) (v vb : Value) (n : Nat) (l m : List UInt8) (hs : a.eval s = v) (hx : a.eval x = vb) (hown : w.ownsRow base 5 1 v n (u8s l)) (hn : n = l.length) (hsrc : BytesOf w vb m) (hm : m ≠ [])
    (hlen : n + m.length ≤ 1000000) (hbase : base ≤ w.heap.size)
    (hK : ∀ v' w', w'.ownsRow base 5 1 v' (l ++ m).length (u8s (l ++ m)) → w.grownBy w' v.ownBlock → K (a.put o.dst v') w') :
    if Region.wanted o (yielded ops a.tmps) = true then Oper.wp Tryz.prog o a w K Q else E := by
  subst hn
  obtain ⟨i0, hi0, hz0, hz1, hz2⟩ := info_parts infoU8
  have hw : Region.wanted o (yielded ops a.tmps) = true := by simp [Region.wanted, hg]
  rw [if_pos hw]
  rcases hsrc with ⟨_, e⟩ | ⟨ad, c, rfl, hc, hcell⟩
  · exact absurd e hm
  obtain ⟨v', w', hrun, r1, r2, _⟩ := run_append_own (P := Tryz.prog) w base 31 o.type 5 i0 (.int .u8 0) 1 1 Tryz.underlying31 hi0 hz0 hz1 hz2 rfl (by decide) v l.length (u8s l) hown ad m.length c (u8s m) (by rw [u8s_length]; omega) (fun j u hj => by
      unfold u8s at hj
      rw [List.getElem?_map] at hj
      cases hq : m[j]? with
      | none => rw [hq] at hj; cases hj
      | some q =>
        rw [hq] at hj
        obtain ⟨hjl, e⟩ := List.getElem?_eq_some_iff.1 hq
        have := hcell j hjl
        rw [e] at this
        rw [this]
        exact hj) (fun u hu => by unfold u8s at hu; rw [List.mem_map] at hu; obtain ⟨q, _, rfl⟩ := hu; rfl) (by unfold maxLen; omega) (by omega) hbase
  unfold Oper.wp
  simp [execOp, hop, resolve, invoke, builtin, hs, hx, hrun, Result.andThen]
  refine hK v' w' ?_ r2
  rw [List.length_append]
  rw [show u8s (l ++ m) = u8s l ++ u8s m by unfold u8s; rw [List.map_append]]
  exact r1
end Go.Proofs.YtocmjlnhcloccaaGreatDoor
namespace Go.Proofs.YtocmjlnhcloccaaGreatDoor
open Go.RowKit

theorem rowB_take {cs : List Col} {vs : List Vl} {k : Nat} {c : Col} {v : Vl} (hc : k < cs.length) (hv : k < vs.length) (ec : cs[k] = c) (ev : vs[k] = v) : rowB (cs.take (k + 1)) (vs.take (k + 1)) = rowB (cs.take k) (vs.take k) ++ valB c v := by
  induction cs generalizing vs k with
  | nil => simp at hc
  | cons d cs ih =>
    cases vs with
    | nil => simp at hv
    | cons x vs =>
      cases k with
      | zero =>
        simp at ec ev
        subst ec ev
        simp [rowB]
      | succ k =>
        have := ih (vs := vs) (k := k) (by simpa using hc) (by simpa using hv) (by simpa using ec) (by simpa using ev)
        show valB d x ++ rowB (cs.take (k + 1)) (vs.take (k + 1)) = (valB d x ++ rowB (cs.take k) (vs.take k)) ++ valB c v
        rw [this, List.append_assoc]
theorem valB_len {c : Col} {v : Vl} (hz : szOk c.t c.z = true) (hs : v.s.size ≤ 300) : (valB c v).length ≤ 400 := by
  have hb := sz_bd hz
  have hl : v.s.data.toList.length = v.s.size := by rw [Array.length_toList]; rfl
  have ht := txt_len v.s.data.toList (by omega)
  unfold valB
  split
  · simp
  · split
    · rw [List.length_cons, tellL_length]; omega
    · split
      · rw [List.length_cons, tellL_length]; omega
      · split
        · simp
        · rw [List.length_cons]; omega
theorem rowB_len : ∀ (cs : List Col) (vs : List Vl), (∀ c ∈ cs, szOk c.t c.z = true) → (∀ v ∈ vs, v.s.size ≤ 300) → (rowB cs vs).length ≤ 400 * cs.length
  | [], _, _, _ => by simp [rowB]
  | _ :: _, [], _, _ => by simp [rowB]
  | c :: cs, v :: vs, h, h' => by
    have ih := rowB_len cs vs (fun c hc => h c (List.mem_cons_of_mem _ hc)) (fun v hv => h' v (List.mem_cons_of_mem _ hv))
    have h0 := valB_len (h c (List.mem_cons_self ..)) (h' v (List.mem_cons_self ..))
    show (valB c v ++ rowB cs vs).length ≤ _
    rw [List.length_append, List.length_cons]
    omega

theorem one_at (W : World) (c : UInt8) (B : Nat) (hB : W.heap.size = B) : BytesOf (W.alloc (.cells #[.int .u8 c.toNat] 5)) (.slice (some ⟨B, 0, none⟩) 1 1) [c] := by
  subst hB
  exact one_lit W c
theorem own_keep {w w' : World} {B : Nat} {v : Value} {n : Nat} {xs : List Value} (h : w.ownsRow B 5 1 v n xs) (hb : Below w.heap.size w w') : w'.ownsRow B 5 1 v n xs :=
  h.kept (row := none) ⟨hb.os, hb.tape, hb.output, hb.size, fun k hk _ => hb.block k hk⟩ (by cases v.ownBlock <;> simp)
theorem Below.drew_left {w w' : World} {B : Nat} (h : Below B w.drew w') : Below B w w' := ((Below.refl B w).drew).trans h
theorem own_head {w : World} {B b n : Nat} {v : Value} {l : List UInt8} {x : UInt8} (h : w.ownsRow B 5 1 v n (u8s (l ++ [x]))) (e : some b = v.ownBlock) : ∃ u : UInt8, w.cell? ⟨b, 0, none⟩ = some (.int .u8 u.toNat) := by
  rcases h.2 with ⟨rfl, _⟩ | ⟨g, cap, cur, rfl, _⟩
  · cases e
  · obtain rfl : b = g := by simpa [Value.ownBlock] using e
    cases l with
    | nil => exact ⟨x, h.cells rfl 0 _ rfl⟩
    | cons y l => exact ⟨y, h.cells rfl 0 _ rfl⟩
theorem base5 {w w4 w5 : World} {B : Nat} (h : w.heap.size < w4.heap.size) (hb : Below B w4.drew w5) : w.heap.size + 1 ≤ w5.heap.size := Nat.le_trans h hb.size
/-- what the region that lays a value reads -/
def LS (W : World) (B0 r C : Nat) (a : Addr) (c : Col) (v : Vl) : Prop :=
  W.cell? ⟨B0, 1, none⟩ = some (.map (some r)) ∧ W.heap[r]? = some (.map mapCKinds 4) ∧ W.cell? ⟨C, 1, none⟩ = some (.int .i64 c.t) ∧ W.cell? ⟨C, 2, none⟩ = some (.int .i64 c.z) ∧ W.cell? a = some (.int .i64 v.k) ∧ W.cell? ⟨a.block, a.off + 1, none⟩ = some (.int .i64 v.i) ∧ W.cell? ⟨a.block, a.off + 2, none⟩ = some (.int .u64 v.u) ∧ W.cell? ⟨a.block, a.off + 3, none⟩ = some (.string v.s)
theorem heap_keepB {w w' : World} {r : Nat} {o : Obj} (h : w.heap[r]? = some o) (hb : Below w.heap.size w w') : w'.heap[r]? = some o := by
  rw [hb.block r (Array.getElem?_eq_some_iff.1 h).1]; exact h
theorem LS.keep {W W' : World} {B0 r C : Nat} {a : Addr} {c : Col} {v : Vl} (h : LS W B0 r C a c v) (hb : Below W.heap.size W W') : LS W' B0 r C a c v := by
  obtain ⟨h0, h1, h2, h3, h4, h5, h6, h7⟩ := h
  exact ⟨cell_old h0 hb, heap_keepB h1 hb, cell_old h2 hb, cell_old h3 hb, cell_old h4 hb, cell_old h5 hb, cell_old h6 hb, cell_old h7 hb⟩
theorem LS.grown {W W' : World} {B0 r C : Nat} {a : Addr} {c : Col} {v : Vl} {row : Option Nat} (h : LS W B0 r C a c v) (hg : W.grownBy W' row) (n0 : some B0 ≠ row) (n1 : some r ≠ row) (n2 : some C ≠ row) (n3 : some a.block ≠ row) : LS W' B0 r C a c v := by
  obtain ⟨h0, h1, h2, h3, h4, h5, h6, h7⟩ := h
  have q : ∀ {p : Addr} {x : Value}, W.cell? p = some x → some p.block ≠ row → W'.cell? p = some x := fun {p x} hp hn => by rw [hg.cell_far p (World.block_lt_of_cell? W _ hp) hn]; exact hp
  exact ⟨q h0 n0, by rw [hg.block r (Array.getElem?_eq_some_iff.1 h1).1 n1]; exact h1, q h2 n2, q h3 n2, q h4 n3, q h5 n3, q h6 n3, q h7 n3⟩

set_option maxRecDepth 100000 in
set_option maxHeartbeats 8000000 in
theorem clay_any (oc : Option Addr) (cc r : Nat) (cs : List Col) (ov : Option Addr) (cv : Nat) (vs : List Vl) (w : World) (hcl : cs.length ≤ 1000) (hC : ColsIn w oc cs) (hM : w.heap[r]? = some (.map mapCKinds 4)) (hV : ValsIn w ov vs) (hz : ∀ c ∈ cs, szOk c.t c.z = true) (hlen : vs.length = cs.length) (hs : ∀ v ∈ vs, v.s.size ≤ 300) (hu : ∀ v ∈ vs, 0 ≤ v.u ∧ v.u < 18446744073709551616) :
    Calls Tryz.prog 29 #[.agg #[.slice oc cs.length cc, .map (some r)], .slice ov vs.length cv] w (LaysB w (rowB cs vs)) := by
  obtain ⟨i0, hi0, hz0, hz1, hz2⟩ := info_parts infoU8
  have HC := Lib.hid hC
  have HM := Lib.hid hM
  have HV := Lib.hid hV
  have HZ := Lib.hid hz
  have HS := Lib.hid hs
  have HU := Lib.hid hu
  have hml : r < w.heap.size := (Array.getElem?_eq_some_iff.1 hM).1
  have l1 : vs.length ≤ cs.length := by omega
  have l2 : cs.length ≤ vs.length := by omega
  clear hC hM hV hz hs hu hlen
  go_enter Tryz.func29, Tryz.ntmps29
  go_wp2_with fail
  go_loopw [5, 11] (fun b v wr => ∃ (k : Nat), k ≤ cs.length ∧ v = .int .i64 k ∧ Hid (wr.ownsRow (w.heap.size + 1) 5 1 b (rowB (cs.take k) (vs.take k)).length (u8s (rowB (cs.take k) (vs.take k)))) ∧ Hid (wr.cell? ⟨w.heap.size, 0, none⟩ = some (.slice oc cs.length cc) ∧ wr.cell? ⟨w.heap.size, 1, none⟩ = some (.map (some r))) ∧ Hid (Below w.heap.size w wr)) (fun _ v _ => cs.length - (intOf v).toNat)
  case atStart => exact ⟨0, by omega, rfl, Lib.hid (World.ownsRow_nil _ _ _ _), Lib.hid ⟨by simp [go_sem], by simp [go_sem]⟩, Lib.hid (by go_grown)⟩
  case round =>
    obtain ⟨k, hk, rfl, HO, HX, HB⟩ := hrel
    obtain ⟨x0, x1⟩ := HX.out
    have hlx : w.heap.size < wr.heap.size := World.block_lt_of_cell? wr _ x0
    by_cases hkl : k < cs.length
    · have hkv : k < vs.length := by omega
      obtain ⟨c, hcc⟩ : ∃ c, cs[k] = c := ⟨_, rfl⟩
      obtain ⟨v, hvv⟩ : ∃ v, vs[k] = v := ⟨_, rfl⟩
      obtain ⟨ac, rfl, hat⟩ := HC.out.keep HB.out (Nat.le_refl _) k hkl
      obtain ⟨av, rfl, hvt⟩ := HV.out.keep HB.out (Nat.le_refl _) k hkv
      obtain ⟨_, eav, hvt0⟩ := HV.out k hkv
      rw [hcc] at hat
      rw [hvv] at hvt
      have hszc := HZ.out c (hcc ▸ List.getElem_mem hkl)
      have hsv := HS.out v (hvv ▸ List.getElem_mem hkv)
      have huv := HU.out v (hvv ▸ List.getElem_mem hkv)
      have HN := Lib.hid (rowB_take hkl hkv hcc hvv)
      have hrl : (rowB (cs.take k) (vs.take k)).length ≤ 400 * 1000 := by
        have := rowB_len (cs.take k) (vs.take k) (fun c hc => HZ.out c (List.mem_of_mem_take hc)) (fun v hv => HS.out v (List.mem_of_mem_take hv))
        rw [List.length_take] at this
        omega
      have hvl := valB_len (v := v) hszc hsv
      have hal := hat.lt
      have hvw : (av.add (k * 4)).block < wr.heap.size := World.block_lt_of_cell? wr _ hvt.1
      obtain ⟨c0, c1, c2, c3⟩ := hat
      obtain ⟨v0, v1, v2, v3⟩ := hvt
      have b0 : (0 : Int) ≤ (k : Int) := by omega
      have b1 : (k : Int) < (cs.length : Int) := by omega
      have b2 : (k : Int) < (vs.length : Int) := by omega
      cases eav
      rw [hvv] at hvt0
      clear hcc hvv
      by_cases hv0 : v.k = 0
      · rw [hv0] at v0
        have HVB := Lib.hid (show valB c v = [0] by unfold valB; rw [if_pos hv0])
        clear hv0
        go_wp2_with (at_builtin; refine wpList_append_bytes rfl _ _ rfl (w.heap.size + 1) _ _ _ (rowB (cs.take k) (vs.take k)) [0] rfl rfl ((HO.out.alloc _).alloc _) rfl ?e0 ?e1 ?e2 ?_)
        case e0 => exact one_at _ 0 _ (by simp)
        case e1 => simp; omega
        case e2 => simp; omega
        intro v4 w4 hown4 hg4
        have HO4 := Lib.hid (show w4.ownsRow (w.heap.size + 1) 5 1 v4 (rowB (cs.take (k + 1)) (vs.take (k + 1))).length (u8s (rowB (cs.take (k + 1)) (vs.take (k + 1)))) by rw [HN.out, HVB.out, List.length_append]; exact hown4)
        have hb4 : Below w.heap.size w w4 := ((HB.out.alloc HB.out.size _).alloc (by have := HB.out.size; simp; omega) _).grown hg4 (by have := HB.out.size; simp; omega) (fun x h => by have := (HO.out.lt x h).1; omega)
        have hx4 : w4.cell? ⟨w.heap.size, 0, none⟩ = some (.slice (some ac) cs.length cc) ∧ w4.cell? ⟨w.heap.size, 1, none⟩ = some (.map (some r)) := by
          have hne : some w.heap.size ≠ v4.ownBlock ∨ True := .inr trivial
          have q : ∀ o x, wr.cell? ⟨w.heap.size, o, none⟩ = some x → w4.cell? ⟨w.heap.size, o, none⟩ = some x := fun o x h => by
            rw [hg4.cell_far _ (by simp; omega) (fun e => by have := (HO.out.lt _ e.symm).1; simp at this; omega)]
            simp [go_sem, hlx, h]
          exact ⟨q _ _ x0, q _ _ x1⟩
        have HX4 := Lib.hid hx4
        have HB4 := Lib.hid hb4
        clear hown4 hg4 hx4 hb4
        go_wp2_with fail
        go_roundw
        case rel => exact ⟨k + 1, by omega, by go_num, HO4, HX4, HB4⟩
        case measure => simp [intOf]; omega
      · have hk0 : (v.k == 0) = false := by simpa using hv0
        have HVB := Lib.hid (valB_layV (c := c) hv0)
        have hne := layV_ne (v := v) hszc
        rw [valB_layV hv0, List.length_cons] at hvl
        clear hv0
        go_wp2_with (at_builtin; refine wpList_append_bytes rfl _ _ rfl (w.heap.size + 1) _ _ _ (rowB (cs.take k) (vs.take k)) [1] rfl rfl ((HO.out.alloc _).alloc _) rfl ?e0 ?e1 ?e2 ?_)
        case e0 => exact one_at _ 1 _ (by simp)
        case e1 => simp; omega
        case e2 => simp; omega
        intro v4 w4 hown4 hg4
        have hb4 : Below w.heap.size w w4 := ((HB.out.alloc HB.out.size _).alloc (by have := HB.out.size; simp; omega) _).grown hg4 (by have := HB.out.size; simp; omega) (fun x h => by have := (HO.out.lt x h).1; omega)
        have q : ∀ o x, wr.cell? ⟨w.heap.size, o, none⟩ = some x → w4.cell? ⟨w.heap.size, o, none⟩ = some x := fun o x h => by
          rw [hg4.cell_far _ (by simp; omega) (fun e => by have := (HO.out.lt _ e.symm).1; simp at this; omega)]
          simp [go_sem, hlx, h]
        have hx4 := And.intro (q _ _ x0) (q _ _ x1)
        have qc : ∀ o x, (wr.alloc (.cells #[.string c.n, .int .i64 c.t, .int .i64 c.z, .bool c.u] 64)).cell? ⟨wr.heap.size, o, none⟩ = some x → w4.cell? ⟨wr.heap.size, o, none⟩ = some x := fun o x h => by
          rw [hg4.cell_far _ (by simp; omega) (fun e => by have := (HO.out.lt _ e.symm).2; simp at this)]
          rw [World.cell?_alloc_lt _ _ _ (by simp)]
          exact h
        have hval := (hvt0.keep hb4 (Nat.le_refl _))
        have hls : LS w4 w.heap.size r wr.heap.size (av.add (k * 4)) c v := ⟨q _ _ x1, heap_keepB HM.out hb4, qc 1 _ (by simp [go_sem]), qc 2 _ (by simp [go_sem]), hval.1, hval.2.1, hval.2.2.1, hval.2.2.2⟩
        have HLS := Lib.hid (show LS w4.drew w.heap.size r wr.heap.size (av.add (k * 4)) c v from hls)
        have hbs := HB.out.size
        have hvlt : (av.add (k * 4)).block < w.heap.size := World.block_lt_of_cell? w _ hvt0.1
        have hsz4 : w.heap.size < w4.heap.size := World.block_lt_of_cell? w4 _ hx4.1
        have hfar : ∀ b, b < w.heap.size + 1 ∨ b = wr.heap.size → some b ≠ v4.ownBlock := fun b hb e => by
          have h1 := hown4.lt _ e.symm
          rcases hb with hb | rfl
          · omega
          · have hc0 := qc 0 _ (show (wr.alloc (.cells #[.string c.n, .int .i64 c.t, .int .i64 c.z, .bool c.u] 64)).cell? ⟨wr.heap.size, 0, none⟩ = some (.string c.n) by simp [go_sem])
            obtain ⟨u, hu8⟩ : ∃ u : UInt8, w4.cell? ⟨wr.heap.size, 0, none⟩ = some (.int .u8 u.toNat) := own_head hown4 e
            rw [hu8] at hc0
            cases hc0
        have HR0 := Lib.hid (hfar w.heap.size (.inl (by omega)))
        have HR1 := Lib.hid (hfar r (.inl (by omega)))
        have HR2 := Lib.hid (hfar wr.heap.size (.inr rfl))
        have HR3 := Lib.hid (hfar (av.add (k * 4)).block (.inl (by omega)))
        have HO4 := Lib.hid (show w4.drew.ownsRow (w.heap.size + 1) 5 1 v4 (rowB (cs.take k) (vs.take k) ++ [1]).length (u8s (rowB (cs.take k) (vs.take k) ++ [1])) by rw [List.length_append]; exact hown4)
        have hxk : ∀ w5 w6, Below w4.heap.size w4 w5 → w5.grownBy w6 v4.ownBlock → w6.cell? ⟨w.heap.size, 0, none⟩ = some (.slice (some ac) cs.length cc) ∧ w6.cell? ⟨w.heap.size, 1, none⟩ = some (.map (some r)) := fun w5 w6 hb hg => by
          have hlt : w.heap.size < w5.heap.size := by have := hb.size; omega
          exact ⟨by rw [hg.cell_far _ hlt HR0.out]; exact cell_old hx4.1 hb, by rw [hg.cell_far _ hlt HR0.out]; exact cell_old hx4.2 hb⟩
        have hbk : ∀ w5 w6, Below w4.heap.size w4 w5 → w5.grownBy w6 v4.ownBlock → Below w.heap.size w w6 := fun w5 w6 hb hg => (hb4.trans (hb.mono hb4.size)).grown hg (by have := hb.size; have := hb4.size; omega) (fun x h => by have := (hown4.lt x h).1; omega)
        have HL4 := Lib.hid (hb4.size)
        have hbz := sz_bd hszc
        obtain ⟨cn, ct, cz, cu⟩ := c
        simp only at *
        clear hown4 hg4 hls hfar hb4 v0 v1 v2 v3 c0 c1 c2 c3
        rcases type_cases ct with ht | rfl | rfl | rfl | rfl
        · rw [szOk_none ht] at hszc; cases hszc
        · have hL : ∀ W : World, W.heap[r]? = some (.map mapCKinds 4) → (Instr.lookup 70 (.map (some r)) (.int .i64 1) false).run Tryz.prog W = .ok (kv3 90 91 92) W := fun W h => ckinds_got h rfl
          have hF : ∀ W, (Instr.field 124 (kv3 90 91 92) 0).run Tryz.prog W = .ok (.func (.func 90) #[] #[]) W := fun _ => rfl
          simp only [kv3] at hL hF
          have HC := Lib.hid (fun W => lay1 cz v W (show numSz cz = true from hszc))
          have hL6 := Lib.hid (show (rowB (cs.take k) (vs.take k) ++ [1]).length + (layV 1 cz v).length ≤ 1000000 by rw [List.length_append, List.length_singleton]; omega)
          clear hszc hval qc q hx4 huv hsv hbz
          go_wp2_with fail
          go_region_held3 (fun W => W.cell? ⟨w.heap.size, 1, none⟩ = some (.map (some r)) ∧ W.heap[r]? = some (.map mapCKinds 4) ∧ W.cell? ⟨wr.heap.size, 1, none⟩ = some (.int .i64 1) ∧ W.cell? ⟨wr.heap.size, 2, none⟩ = some (.int .i64 cz) ∧ W.cell? (av.add (k * 4)) = some (.int .i64 v.k) ∧ W.cell? ⟨(av.add (k * 4)).block, (av.add (k * 4)).off + 1, none⟩ = some (.int .i64 v.i) ∧ W.cell? ⟨(av.add (k * 4)).block, (av.add (k * 4)).off + 2, none⟩ = some (.int .u64 v.u) ∧ W.cell? ⟨(av.add (k * 4)).block, (av.add (k * 4)).off + 3, none⟩ = some (.string v.s)) (first | (exact LS.grown (HLS.out.keep hb5) hg6 HR0.out HR1.out HR2.out HR3.out) | (exact HLS.out.keep hb5) | (exact HLS.out))
            (first | ((refine step_append_bytes (by rfl) _ _ (by rfl) (w.heap.size + 1) _ _ _ (rowB (cs.take k) (vs.take k) ++ [1]) (layV 1 cz v) (by rfl) (by rfl) (own_keep HO4.out hb5) (by simp) HV5.out hne hL6.out hB5 ?_; intro v6 w6 hown6 hg6)) | (go_at_call 90; refine (HC.out _).mono ?_; rintro e w5 ⟨x, rfl, hx, hb5⟩; have HV5 := Lib.hid hx; have hB5 := base5 hsz4 hb5))
          have HO6 := Lib.hid (show w6.ownsRow (w.heap.size + 1) 5 1 v6 (rowB (cs.take (k + 1)) (vs.take (k + 1))).length (u8s (rowB (cs.take (k + 1)) (vs.take (k + 1)))) by rw [HN.out, HVB.out, List.append_cons]; exact hown6)
          have HX6 := Lib.hid (hxk w5 w6 (Below.drew_left hb5) hg6)
          have HB6 := Lib.hid (hbk w5 w6 (Below.drew_left hb5) hg6)
          clear hown6 hg6 hx hb5 hB5
          go_wp2_with fail
          go_roundw
          case rel => exact ⟨k + 1, by omega, by go_num, HO6, HX6, HB6⟩
          case measure => simp [intOf]; omega
        · have hL : ∀ W : World, W.heap[r]? = some (.map mapCKinds 4) → (Instr.lookup 70 (.map (some r)) (.int .i64 2) false).run Tryz.prog W = .ok (kv3 93 94 92) W := fun W h => ckinds_got h rfl
          have hF : ∀ W, (Instr.field 124 (kv3 93 94 92) 0).run Tryz.prog W = .ok (.func (.func 93) #[] #[]) W := fun _ => rfl
          simp only [kv3] at hL hF
          have HC := Lib.hid (fun W => lay2 cz v W (show numSz cz = true from hszc) huv.1 huv.2)
          have hL6 := Lib.hid (show (rowB (cs.take k) (vs.take k) ++ [1]).length + (layV 2 cz v).length ≤ 1000000 by rw [List.length_append, List.length_singleton]; omega)
          clear hszc hval qc q hx4 huv hsv hbz
          go_wp2_with fail
          go_region_held3 (fun W => W.cell? ⟨w.heap.size, 1, none⟩ = some (.map (some r)) ∧ W.heap[r]? = some (.map mapCKinds 4) ∧ W.cell? ⟨wr.heap.size, 1, none⟩ = some (.int .i64 2) ∧ W.cell? ⟨wr.heap.size, 2, none⟩ = some (.int .i64 cz) ∧ W.cell? (av.add (k * 4)) = some (.int .i64 v.k) ∧ W.cell? ⟨(av.add (k * 4)).block, (av.add (k * 4)).off + 1, none⟩ = some (.int .i64 v.i) ∧ W.cell? ⟨(av.add (k * 4)).block, (av.add (k * 4)).off + 2, none⟩ = some (.int .u64 v.u) ∧ W.cell? ⟨(av.add (k * 4)).block, (av.add (k * 4)).off + 3, none⟩ = some (.string v.s)) (first | (exact LS.grown (HLS.out.keep hb5) hg6 HR0.out HR1.out HR2.out HR3.out) | (exact HLS.out.keep hb5) | (exact HLS.out))
            (first | ((refine step_append_bytes (by rfl) _ _ (by rfl) (w.heap.size + 1) _ _ _ (rowB (cs.take k) (vs.take k) ++ [1]) (layV 2 cz v) (by rfl) (by rfl) (own_keep HO4.out hb5) (by simp) HV5.out hne hL6.out hB5 ?_; intro v6 w6 hown6 hg6)) | (go_at_call 93; refine (HC.out _).mono ?_; rintro e w5 ⟨x, rfl, hx, hb5⟩; have HV5 := Lib.hid hx; have hB5 := base5 hsz4 hb5))
          have HO6 := Lib.hid (show w6.ownsRow (w.heap.size + 1) 5 1 v6 (rowB (cs.take (k + 1)) (vs.take (k + 1))).length (u8s (rowB (cs.take (k + 1)) (vs.take (k + 1)))) by rw [HN.out, HVB.out, List.append_cons]; exact hown6)
          have HX6 := Lib.hid (hxk w5 w6 (Below.drew_left hb5) hg6)
          have HB6 := Lib.hid (hbk w5 w6 (Below.drew_left hb5) hg6)
          clear hown6 hg6 hx hb5 hB5
          go_wp2_with fail
          go_roundw
          case rel => exact ⟨k + 1, by omega, by go_num, HO6, HX6, HB6⟩
          case measure => simp [intOf]; omega
        · have hL : ∀ W : World, W.heap[r]? = some (.map mapCKinds 4) → (Instr.lookup 70 (.map (some r)) (.int .i64 3) false).run Tryz.prog W = .ok (kv3 95 96 97) W := fun W h => ckinds_got h rfl
          have hF : ∀ W, (Instr.field 124 (kv3 95 96 97) 0).run Tryz.prog W = .ok (.func (.func 95) #[] #[]) W := fun _ => rfl
          simp only [kv3] at hL hF
          have HC := Lib.hid (fun W => lay3 cz v W )
          have hL6 := Lib.hid (show (rowB (cs.take k) (vs.take k) ++ [1]).length + (layV 3 cz v).length ≤ 1000000 by rw [List.length_append, List.length_singleton]; omega)
          clear hszc hval qc q hx4 huv hsv hbz
          go_wp2_with fail
          go_region_held3 (fun W => W.cell? ⟨w.heap.size, 1, none⟩ = some (.map (some r)) ∧ W.heap[r]? = some (.map mapCKinds 4) ∧ W.cell? ⟨wr.heap.size, 1, none⟩ = some (.int .i64 3) ∧ W.cell? ⟨wr.heap.size, 2, none⟩ = some (.int .i64 cz) ∧ W.cell? (av.add (k * 4)) = some (.int .i64 v.k) ∧ W.cell? ⟨(av.add (k * 4)).block, (av.add (k * 4)).off + 1, none⟩ = some (.int .i64 v.i) ∧ W.cell? ⟨(av.add (k * 4)).block, (av.add (k * 4)).off + 2, none⟩ = some (.int .u64 v.u) ∧ W.cell? ⟨(av.add (k * 4)).block, (av.add (k * 4)).off + 3, none⟩ = some (.string v.s)) (first | (exact LS.grown (HLS.out.keep hb5) hg6 HR0.out HR1.out HR2.out HR3.out) | (exact HLS.out.keep hb5) | (exact HLS.out))
            (first | ((refine step_append_bytes (by rfl) _ _ (by rfl) (w.heap.size + 1) _ _ _ (rowB (cs.take k) (vs.take k) ++ [1]) (layV 3 cz v) (by rfl) (by rfl) (own_keep HO4.out hb5) (by simp) HV5.out hne hL6.out hB5 ?_; intro v6 w6 hown6 hg6)) | (go_at_call 95; refine (HC.out _).mono ?_; rintro e w5 ⟨x, rfl, hx, hb5⟩; have HV5 := Lib.hid hx; have hB5 := base5 hsz4 hb5))
          have HO6 := Lib.hid (show w6.ownsRow (w.heap.size + 1) 5 1 v6 (rowB (cs.take (k + 1)) (vs.take (k + 1))).length (u8s (rowB (cs.take (k + 1)) (vs.take (k + 1)))) by rw [HN.out, HVB.out, List.append_cons]; exact hown6)
          have HX6 := Lib.hid (hxk w5 w6 (Below.drew_left hb5) hg6)
          have HB6 := Lib.hid (hbk w5 w6 (Below.drew_left hb5) hg6)
          clear hown6 hg6 hx hb5 hB5
          go_wp2_with fail
          go_roundw
          case rel => exact ⟨k + 1, by omega, by go_num, HO6, HX6, HB6⟩
          case measure => simp [intOf]; omega
        · have hL : ∀ W : World, W.heap[r]? = some (.map mapCKinds 4) → (Instr.lookup 70 (.map (some r)) (.int .i64 4) false).run Tryz.prog W = .ok (kv3 98 99 100) W := fun W h => ckinds_got h rfl
          have hF : ∀ W, (Instr.field 124 (kv3 98 99 100) 0).run Tryz.prog W = .ok (.func (.func 98) #[] #[]) W := fun _ => rfl
          simp only [kv3] at hL hF
          have HC := Lib.hid (fun W => lay4 cz v W (by omega))
          have hL6 := Lib.hid (show (rowB (cs.take k) (vs.take k) ++ [1]).length + (layV 4 cz v).length ≤ 1000000 by rw [List.length_append, List.length_singleton]; omega)
          clear hszc hval qc q hx4 huv hsv hbz
          go_wp2_with fail
          go_region_held3 (fun W => W.cell? ⟨w.heap.size, 1, none⟩ = some (.map (some r)) ∧ W.heap[r]? = some (.map mapCKinds 4) ∧ W.cell? ⟨wr.heap.size, 1, none⟩ = some (.int .i64 4) ∧ W.cell? ⟨wr.heap.size, 2, none⟩ = some (.int .i64 cz) ∧ W.cell? (av.add (k * 4)) = some (.int .i64 v.k) ∧ W.cell? ⟨(av.add (k * 4)).block, (av.add (k * 4)).off + 1, none⟩ = some (.int .i64 v.i) ∧ W.cell? ⟨(av.add (k * 4)).block, (av.add (k * 4)).off + 2, none⟩ = some (.int .u64 v.u) ∧ W.cell? ⟨(av.add (k * 4)).block, (av.add (k * 4)).off + 3, none⟩ = some (.string v.s)) (first | (exact LS.grown (HLS.out.keep hb5) hg6 HR0.out HR1.out HR2.out HR3.out) | (exact HLS.out.keep hb5) | (exact HLS.out))
            (first | ((refine step_append_bytes (by rfl) _ _ (by rfl) (w.heap.size + 1) _ _ _ (rowB (cs.take k) (vs.take k) ++ [1]) (layV 4 cz v) (by rfl) (by rfl) (own_keep HO4.out hb5) (by simp) HV5.out hne hL6.out hB5 ?_; intro v6 w6 hown6 hg6)) | (go_at_call 98; refine (HC.out _).mono ?_; rintro e w5 ⟨x, rfl, hx, hb5⟩; have HV5 := Lib.hid hx; have hB5 := base5 hsz4 hb5))
          have HO6 := Lib.hid (show w6.ownsRow (w.heap.size + 1) 5 1 v6 (rowB (cs.take (k + 1)) (vs.take (k + 1))).length (u8s (rowB (cs.take (k + 1)) (vs.take (k + 1)))) by rw [HN.out, HVB.out, List.append_cons]; exact hown6)
          have HX6 := Lib.hid (hxk w5 w6 (Below.drew_left hb5) hg6)
          have HB6 := Lib.hid (hbk w5 w6 (Below.drew_left hb5) hg6)
          clear hown6 hg6 hx hb5 hB5
          go_wp2_with fail
          go_roundw
          case rel => exact ⟨k + 1, by omega, by go_num, HO6, HX6, HB6⟩
          case measure => simp [intOf]; omega
    · obtain rfl : k = cs.length := by omega
      have ho := HO.out
      rw [List.take_of_length_le (Nat.le_refl _), List.take_of_length_le (by omega)] at ho
      have HF := Lib.hid (BytesOf.own ho)
      clear ho
      go_wp2_with fail
      go_ret
      exact ⟨_, rfl, HF.out, HB.out⟩
end Go.Proofs.YtocmjlnhcloccaaGreatDoor
