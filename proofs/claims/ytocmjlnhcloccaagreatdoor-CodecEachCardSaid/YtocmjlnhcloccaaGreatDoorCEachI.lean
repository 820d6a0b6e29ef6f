/-
  codec.Each: the iterator's contract.
-/
import Derived.Test.YtocmjlnhcloccaaGreatDoorCClone
import Derived.Test.YtocmjlnhcloccaaGreatDoorCTry
import Derived.Test.YtocmjlnhcloccaaGreatDoorCSeqF
import Derived.Shelf.Abstract
import Derived.Shelf.RegionOpen
import Derived.OwnWalkIn
import Derived.TacticsInMore
import Derived.LoopNIn
import Derived.LoopIn
import Derived.Scope
namespace Go.Proofs.YtocmjlnhcloccaaGreatDoor
open Go.RowKit Go.Shelf
attribute [local go_sem] Oper.semAt_some

abbrev RowX := Nat × Nat × List Vl
def encR (x : RowX) : Array Value := #[.int .i64 x.1, .slice (some ⟨x.2.1, 0, none⟩) x.2.2.length x.2.2.length]
def tagR (x : RowX) : Nat × List Vl := (x.1, x.2.2)
def posAt (w : World) (R : Nat) : Nat := match w.cell? ⟨R, 1, none⟩ with | some v => (intOf v).toNat | none => 0
theorem posAt_rd {w : World} {R i : Nat} {v : Value} (h : Rd w R v i) : posAt w R = i := by
  unfold posAt
  rw [h.pos]
  simp [intOf]
theorem Rd.kept {W W' : World} {B R i : Nat} {G : Nat → Prop} {v : Value} (h : Rd W R v i) (hB : B ≤ R) (hk : Keep B G W W') : Rd W' R v i := by
  have hlt := World.block_lt_of_cell? W _ h.bytes
  have e := hk.same R hlt (.inl hB)
  exact ⟨(World.cell?_of_block e).trans h.bytes, (World.cell?_of_block e).trans h.pos, (World.frozen?_of_block e).trans h.free⟩
theorem scope_wideC {n : Nat} {P : Program} {c : Code} {Q : Exit → Act → World → Prop} {a : Act} {w : World} (h : c.wpIn Fence.wide n P (Exit.noGoto Q) a w) : (Code.scope c).wpIn Fence.wide n P Q a w :=
  wpIn_wide.2 (wp_scope_straight (wpIn_wide.1 h))
/-- what the iterator hangs on, in the world where the loop begins -/
structure CapR (w : World) (cl co r : Nat) (oc : Option Addr) (cc : Nat) (cs : List Col) (oa : Option Addr) (cap : Nat) (l : List UInt8) : Prop where
  lay0 : w.cell? ⟨cl, 0, none⟩ = some (.slice oc cs.length cc)
  lay1 : w.cell? ⟨cl, 1, none⟩ = some (.map (some r))
  own : w.cell? ⟨co, 0, none⟩ = some (.slice oa l.length cap)
  cols : ColsIn w oc cs
  map : w.heap[r]? = some (.map mapCKinds 4)
  bytes : BytesAt w (.slice oa l.length cap) l
theorem CapR.same {w W : World} {cl co r cc cap : Nat} {oc oa : Option Addr} {cs : List Col} {l : List UInt8} (h : CapR w cl co r oc cc cs oa cap l) (hk : ∀ k, k < w.heap.size → W.heap[k]? = w.heap[k]?) : CapR W cl co r oc cc cs oa cap l := by
  have kc : ∀ {p : Addr} {v : Value}, w.cell? p = some v → W.cell? p = some v := fun hc => (World.cell?_of_block (hk _ (World.block_lt_of_cell? w _ hc))).trans hc
  refine ⟨kc h.lay0, kc h.lay1, kc h.own, fun j hj => ?_, (hk _ (Array.getElem?_eq_some_iff.1 h.map).1).trans h.map, ?_⟩
  · obtain ⟨a, e, h0, h1, h2, h3⟩ := h.cols j hj
    exact ⟨a, e, kc h0, kc h1, kc h2, kc h3⟩
  · obtain ⟨oa', cap', e, h1, h2⟩ := h.bytes
    cases e
    refine ⟨_, _, rfl, h1, fun j hj => ?_⟩
    obtain ⟨a, ha, hc⟩ := h2 j hj
    exact ⟨a, ha, kc hc⟩
theorem CapR.below {w W : World} {B cl co r cc cap : Nat} {oc oa : Option Addr} {cs : List Col} {l : List UInt8} (h : CapR w cl co r oc cc cs oa cap l) (hb : Below B w W) (hB : w.heap.size ≤ B) : CapR W cl co r oc cc cs oa cap l := h.same fun k hk => hb.block k (by omega)
/-- what the attempt at a row tells -/
def TryPost (w : World) (R : Nat) (s : Value) (o : Option (List Vl × Nat)) (i : Nat) (e : Ending) (w' : World) : Prop :=
  match o with
  | some (vs, k) => ∃ b, e = .returned (.tuple #[.slice (some ⟨b, 0, none⟩) vs.length vs.length, .int .i64 0]) ∧ w.heap.size ≤ b ∧ ValsIn w' (some ⟨b, 0, none⟩) vs ∧ Rd w' R s (i + k) ∧ w.grownBy w' (some R)
  | none => ∃ m, m ≠ (0 : Int) ∧ e = .returned (.tuple #[.slice none 0 0, .int .i64 m]) ∧ w.grownBy w' (some R)
set_option maxRecDepth 100000 in
set_option maxHeartbeats 1000000 in
theorem each21_any (cl rb R i : Nat) (s L0 L1 : Value) (o : Option (List Vl × Nat)) (W : World) (c0 : W.cell? ⟨cl, 0, none⟩ = some L0) (c1 : W.cell? ⟨cl, 1, none⟩ = some L1) (c2 : W.cell? ⟨rb, 0, none⟩ = some (.pointer (some ⟨R, 0, none⟩)))
    (H : Calls Tryz.prog 35 #[.agg #[L0, L1], .pointer (some ⟨R, 0, none⟩)] W (ReadPost W R s o i)) :
    Calls Tryz.prog 47 #[.pointer (some ⟨cl, 0, none⟩), .pointer (some ⟨rb, 0, none⟩)] W (ReadPost W R s o i) := by
  have HH := Lib.hid H
  clear H
  cases o with
  | none =>
    go_enter Tryz.func47, Tryz.ntmps47
    go_wp2_with fail
    refine HH.out.mono ?_
    rintro e w1 ⟨⟨q, rfl, hth⟩, hg⟩
    exact ⟨rfl, ⟨_, rfl, hth⟩, hg⟩
  | some x =>
    obtain ⟨vs, k⟩ := x
    go_enter Tryz.func47, Tryz.ntmps47
    go_wp2_with fail
    refine HH.out.mono ?_
    rintro e w1 ⟨b, rfl, hx⟩
    have HX := Lib.hid hx
    clear hx
    go_wp2_with fail
    go_ret
    exact ⟨b, rfl, HX.out⟩
set_option maxRecDepth 100000 in
set_option maxHeartbeats 1000000 in
theorem attempt_rows {w wr : World} {cl co r cc cap : Nat} {oc oa : Option Addr} {cs : List Col} {l : List UInt8} (he : HasET w) (h : CapR w cl co r oc cc cs oa cap l) (R rb i : Nat) (hR : w.heap.size ≤ R) (hRl : R < wr.heap.size) (hk : ∀ k, k < w.heap.size → wr.heap[k]? = w.heap[k]?) (hr : Rd wr R (.slice oa l.length cap) i) (hrb : wr.cell? ⟨rb, 0, none⟩ = some (.pointer (some ⟨R, 0, none⟩))) (hi : i ≤ l.length) (hn : l.length ≤ 1000000) (hcl : cs.length ≤ 1000) (hz : ∀ c ∈ cs, szOk c.t c.z = true) :
    Calls Tryz.prog 46 #[.func (.func 47) #[] #[.pointer (some ⟨cl, 0, none⟩), .pointer (some ⟨rb, 0, none⟩)]] wr (TryPost wr R (.slice oa l.length cap) (readRow cs (l.drop i)) i) := by
  have hb0 : Below R wr (wr.alloc C0) := (Below.refl R wr).alloc (by omega) _
  have hb1 : Below wr.heap.size wr (wr.alloc C0) := (Below.refl _ wr).alloc (Nat.le_refl _) _
  have hcap : l.length ≤ cap := by
    obtain ⟨_, _, e, h1, _⟩ := h.bytes
    cases e
    exact h1
  have hC0 := (h.same hk)
  have hup : ∀ W', Below R (wr.alloc C0) W' → CapR W' cl co r oc cc cs oa cap l := fun W' hb => h.same fun k hkl => ((hb0.trans hb).block k (by omega)).trans (hk k hkl)
  have hbt : BelowAt (wr.alloc C0) R oa l := fun j hj => by
    obtain ⟨oa', cap', e, _, h2⟩ := h.bytes
    cases e
    obtain ⟨a, ha, hc⟩ := h2 j hj
    have hlt := World.block_lt_of_cell? w _ hc
    rw [Addr.add_block] at hlt
    refine ⟨a, ha, by omega, ?_⟩
    rw [World.cell?_of_block (hb0.block _ (by rw [Addr.add_block]; omega)), World.cell?_of_block (hk _ (by rw [Addr.add_block]; exact hlt))]
    exact hc
  have H0 := lread_any oc cc r cs R oa cap i l (wr.alloc C0) (hr.keep hb1) hbt hn hcap hi hcl (fun W' hb => (hup W' hb).cols) (fun W' hb => (hup W' hb).map) hz
  have hca := hup _ (Below.refl R _)
  have H := each21_any cl rb R i _ _ _ _ (wr.alloc C0) hca.lay0 hca.lay1 (cell_old hrb hb1) H0
  have hew : HasET wr := by
    unfold HasET at he ⊢
    rw [World.cell?_of_block (hk _ (HasET.lt he))]
    exact he
  have hgl := HasET.lt he
  cases hrr : readRow cs (l.drop i) with
  | none =>
    rw [hrr] at H
    exact attV_no _ _ _ (some R) wr (by simp; omega) (by simp; omega) hew (fun _ _ => rfl) H
  | some x =>
    obtain ⟨vs, k⟩ := x
    rw [hrr] at H
    refine (attV_yes _ _ _ (some R) (fun x w' => ∃ b, x = .slice (some ⟨b, 0, none⟩) vs.length vs.length ∧ wr.heap.size < b ∧ ValsIn w' (some ⟨b, 0, none⟩) vs ∧ Rd w' R (.slice oa l.length cap) (i + k)) wr (by simp; omega) (fun _ _ => rfl) (H.mono ?_)).mono ?_
    · rintro e w' ⟨b, rfl, hbl, hv, hrd, hg⟩
      exact ⟨_, rfl, hg, b, rfl, by simp at hbl; omega, hv, hrd⟩
    · rintro e w' ⟨x, w1, rfl, ⟨b, rfl, hbl, hv, hrd⟩, hg, rfl⟩
      exact ⟨b, rfl, by omega, vals_set hv (by omega), hrd.set (by omega), grown_set hg (Nat.le_refl _)⟩
theorem below_grownR {B R : Nat} {W W' : World} (hg : W.grownBy W' (some R)) (hR : B ≤ R) (hs : B ≤ W.heap.size) : Below B W W' :=
  ⟨hg.os, hg.tape, hg.output, hg.size, fun k hk => hg.block k (by omega) (fun e => by cases e; omega)⟩
theorem map_snoc (pre : List RowX) (x : RowX) : (pre ++ [x]).map tagR = pre.map tagR ++ [tagR x] := by simp
set_option maxRecDepth 100000 in
set_option maxHeartbeats 4000000 in
theorem eachC_turns (n : Nat) (hn : 1 ≤ n) {w : World} {cl co r cc cap : Nat} {oc oa : Option Addr} {cs : List Col} {l : List UInt8} (he : HasET w) (h : CapR w cl co r oc cc cs oa cap l) (hl : l.length ≤ 1000000) (hcl : cs.length ≤ 1000) (hc0 : cs ≠ []) (hz : ∀ c ∈ cs, szOk c.t c.z = true) :
    SeqTurnsF Fence.wide n Tryz.prog 43 #[.pointer (some ⟨co, 0, none⟩), .pointer (some ⟨cl, 0, none⟩)] encR (fun k => k < w.heap.size) (fun xs => xs.map tagR = rowsW cs l 0) (fun xs => xs.map tagR <+: rowsW cs l 0) (fun x W => ValsIn W (some ⟨x.2.1, 0, none⟩) x.2.2) w := fun ll J Jx W hW hJ hJx hY h0 => by
  have hmf : ∀ (fn : Fn) (first cap : Array Value) (w : World), (Instr.makeFunc fn first cap).run Tryz.prog w = .ok (.func fn first cap) w := fun _ _ _ _ => rfl
  have k0 := (h.below hW (Nat.le_refl _)).own
  have hW0 : ∀ k, k < w.heap.size → W.heap[k]? = w.heap[k]? := fun k hk => hW.block k hk
  have hWs := hW.size
  have HUP : Hid (∀ V : World, (∀ k, k < w.heap.size → V.heap[k]? = w.heap[k]?) → V.cell? ⟨cl, 0, none⟩ = some (.slice oc cs.length cc) ∧ V.cell? ⟨cl, 1, none⟩ = some (.map (some r))) := Lib.hid fun V hk => ⟨(h.same hk).lay0, (h.same hk).lay1⟩
  have HAT : Hid (∀ (V : World) (i : Nat), (∀ k, k < w.heap.size → V.heap[k]? = w.heap[k]?) → W.heap.size < V.heap.size → Rd V W.heap.size (.slice oa l.length cap) i → V.cell? ⟨W.heap.size + 1, 0, none⟩ = some (.pointer (some ⟨W.heap.size, 0, none⟩)) → i ≤ l.length → Calls Tryz.prog 46 #[.func (.func 47) #[] #[.pointer (some ⟨cl, 0, none⟩), .pointer (some ⟨W.heap.size + 1, 0, none⟩)]] V (TryPost V W.heap.size (.slice oa l.length cap) (readRow cs (l.drop i)) i)) := Lib.hid fun V i hk hs hr hrb hi => attempt_rows he h W.heap.size (W.heap.size + 1) i hWs hs hk hr hrb hi hl hcl hz
  have HRD : Hid (Rd ((W.alloc (.cells #[.slice oa l.length cap, .int .i64 0] 137)).alloc (.cells #[.pointer (some ⟨W.heap.size, 0, none⟩)] 90)) W.heap.size (.slice oa l.length cap) 0) := Lib.hid ⟨by simp [go_sem], by simp [go_sem], by simp [go_sem]⟩
  have HBX : Hid (((W.alloc (.cells #[.slice oa l.length cap, .int .i64 0] 137)).alloc (.cells #[.pointer (some ⟨W.heap.size, 0, none⟩)] 90)).cell? ⟨W.heap.size + 1, 0, none⟩ = some (.pointer (some ⟨W.heap.size, 0, none⟩))) := Lib.hid (by simp [go_sem])
  have HV0 : Below W.heap.size W ((W.alloc (.cells #[.slice oa l.length cap, .int .i64 0] 137)).alloc (.cells #[.pointer (some ⟨W.heap.size, 0, none⟩)] 90)) := ((Below.refl _ _).alloc (Nat.le_refl _) _).alloc (by simp) _
  have HK0 : Hid (∀ k, k < w.heap.size → ((W.alloc (.cells #[.slice oa l.length cap, .int .i64 0] 137)).alloc (.cells #[.pointer (some ⟨W.heap.size, 0, none⟩)] 90)).heap[k]? = w.heap[k]?) := Lib.hid fun k hk => (HV0.block k (by omega)).trans (hW0 k hk)
  have HJ0 := Lib.hid (hJ [] _ _ h0 HV0)
  have HOF := Lib.hid (Of8_any oa l.length cap W)
  have HY := Lib.hid hY
  have HC0 := Lib.hid hc0
  clear hY h0 hW h hz hc0 hW0 HV0 he
  refine callsIn_of_wp Tryz.func43 rfl trivial ?_ rfl
  simp only [Tryz.ntmps43, List.size_toArray, List.length_cons, List.length_nil, Nat.reduceAdd, Nat.reduceSub, Array.replicate_succ, Array.replicate_zero, List.push_toArray, List.append_toArray, List.nil_append, List.cons_append]
  refine scope_wideC ?_
  gi_wp2
  refine ⟨trivial, (callsIn_wide.2 HOF.out).mono ?_⟩
  rintro e w1 ⟨rfl, rfl⟩
  gi_wp2
  refine wpIn_label ?_
  gi_wp2
  gi_loopw [5, 6, 7] (fun x y z wr => ∃ (pre : List RowX) (i : Nat), Hid (pre.map tagR ++ rowsW cs l i = rowsW cs l 0) ∧ i ≤ l.length ∧ Hid (Rd wr W.heap.size (.slice oa l.length cap) i) ∧ Hid (∀ k, k < w.heap.size → wr.heap[k]? = w.heap[k]?) ∧ Hid (J pre wr) ∧ W.heap.size + 1 < wr.heap.size ∧ Hid (wr.cell? ⟨W.heap.size + 1, 0, none⟩ = some (.pointer (some ⟨W.heap.size, 0, none⟩)))) (fun _ _ _ wr => l.length - posAt wr W.heap.size)
  case atStart => exact ⟨[], 0, Lib.hid rfl, by omega, HRD, HK0, HJ0, by simp, HBX⟩
  case round =>
    obtain ⟨pre, i, HP, hi, HR, HK, HJ, hsz, HPB⟩ := hrel
    have cb := HPB.out
    have HAA := Lib.hid (At8_any W.heap.size i _ wr HR.out)
    obtain ⟨d0, d1⟩ := HUP.out _ HK.out
    have hc := HAT.out wr i HK.out (by omega) HR.out cb hi
    cases hrd : readRow cs (l.drop i) with
    | none =>
      rw [hrd] at hc
      have HC : Hid (Calls Tryz.prog 46 #[.func (.func 47) #[] #[.pointer (some ⟨cl, 0, none⟩), .pointer (some ⟨W.heap.size + 1, 0, none⟩)]] wr fun e w' => ∃ m, m ≠ (0 : Int) ∧ e = .returned (.tuple #[.slice none 0 0, .int .i64 m]) ∧ wr.grownBy w' (some W.heap.size)) := Lib.hid hc
      have HE := Lib.hid (HP.out.symm.trans (by rw [rowsW_none hrd, List.append_nil]))
      clear hrd hc k0
      gi_wp2
      refine ⟨trivial, (callsIn_wide.2 HAA.out).mono ?_⟩
      rintro e w1 ⟨rfl, rfl⟩
      gi_wp2
      refine ⟨trivial, (callsIn_wide.2 HC.out).mono ?_⟩
      rintro e w1 ⟨m, hm0, rfl, hg⟩
      have hmd : (m != 0) = true := by simpa using hm0
      have HG := Lib.hid hg
      clear hg
      gi_wp2
      simp only [Exit.noGoto]
      go_end0
      exact ⟨⟨_, rfl⟩, .inl ⟨pre, HE.out.symm, hJ _ _ _ HJ.out (below_grownR HG.out (Nat.le_refl _) (by omega))⟩⟩
    | some x =>
      obtain ⟨vs, k⟩ := x
      have hin1 := (row_in HC0.out hrd hi).1
      have hin2 := (row_in HC0.out hrd hi).2.1
      rw [hrd] at hc
      have HN := Lib.hid (rows_next HC0.out hrd hi HP.out)
      have HC : Hid (CallsIn Fence.wide (n - 1) Tryz.prog 46 #[.func (.func 47) #[] #[.pointer (some ⟨cl, 0, none⟩), .pointer (some ⟨W.heap.size + 1, 0, none⟩)]] wr fun e w1 => ∃ b, e = .returned (.tuple #[.slice (some ⟨b, 0, none⟩) vs.length vs.length, .int .i64 0]) ∧ Hid (Rd w1 W.heap.size (.slice oa l.length cap) (i + k) ∧ wr.grownBy w1 (some W.heap.size)) ∧ YieldAt Fence.wide (n - 1) Tryz.prog ll #[.int .i64 i, .slice (some ⟨b, 0, none⟩) vs.length vs.length] w1 fun e W' =>
        (e = .returned (.bool true) ∧ Hid (J (pre ++ [(i, b, vs)]) W') ∧ Hid (Keep W.heap.size (fun k => k < w.heap.size) w1 W')) ∨ (e = .returned (.bool false) ∧ Hid (Jx (pre ++ [(i, b, vs)]) W'))) := Lib.hid ((callsIn_wide.2 hc).mono (by
          rintro e w1 ⟨b, rfl, hbl, hv, hr1, hg⟩
          have hs := hg.size
          have hy := HY.out pre (i, b, vs) w1 (hJ _ _ _ HJ.out (below_grownR hg (Nat.le_refl _) (by omega))) ⟨rowsW cs l (i + k), by rw [map_snoc]; exact HN.out⟩ hv (by omega)
          refine ⟨b, rfl, Lib.hid ⟨hr1, hg⟩, ?_⟩
          exact hy.mono (by
            rintro e W' (⟨h1, h2, h3⟩ | ⟨h1, h2, h3⟩)
            · exact .inl ⟨h1, Lib.hid h2, Lib.hid h3⟩
            · exact .inr ⟨h1, Lib.hid h2⟩)))
      clear hrd hc k0 HY
      gi_wp2
      refine ⟨trivial, (callsIn_wide.2 HAA.out).mono ?_⟩
      rintro e w1 ⟨rfl, rfl⟩
      gi_wp2
      refine ⟨trivial, HC.out.mono ?_⟩
      rintro e w1 ⟨b, rfl, HW1, fn, tmps, assign, body, hy, hR⟩
      clear HC
      gi_wp2
      refine hR.mono ?_
      rintro e w2 (⟨rfl, HJ2, HK2⟩ | ⟨rfl, HJx2⟩)
      · have HR2 := Lib.hid (HW1.out.1.kept (Nat.le_refl _) HK2.out)
        have hs2 := HK2.out.size
        have hs1 := HW1.out.2.size
        have HKK : Hid (∀ k, k < w.heap.size → w2.heap[k]? = w.heap[k]?) := Lib.hid fun k hk => ((HK2.out.same k (by omega) (.inr hk)).trans (HW1.out.2.block k (by omega) (fun e => by cases e; omega))).trans (HK.out k hk)
        have HPB2 : Hid (w2.cell? ⟨W.heap.size + 1, 0, none⟩ = some (.pointer (some ⟨W.heap.size, 0, none⟩))) := Lib.hid (by
          rw [World.cell?_of_block (HK2.out.same (W.heap.size + 1) (by omega) (.inl (by omega))), HW1.out.2.cell_far _ (by simp; omega) (by simp)]
          exact HPB.out)
        gi_wp2
        go_roundw
        case rel => exact ⟨pre ++ [(i, b, vs)], i + k, Lib.hid (by rw [map_snoc]; exact HN.out), by omega, HR2, HKK, HJ2, by omega, HPB2⟩
        case measure => rw [posAt_rd HR2.out, posAt_rd HR.out]; omega
      · gi_wp2
        simp only [Exit.noGoto]
        go_end0
        exact ⟨⟨_, rfl⟩, .inr ⟨pre ++ [(i, b, vs)], ⟨rowsW cs l (i + k), by rw [map_snoc]; exact HN.out⟩, HJx2.out⟩⟩
end Go.Proofs.YtocmjlnhcloccaaGreatDoor
