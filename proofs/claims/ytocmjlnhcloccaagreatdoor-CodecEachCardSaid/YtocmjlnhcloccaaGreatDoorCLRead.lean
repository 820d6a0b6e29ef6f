/-
  codec: layout.read.
-/
import Derived.Test.YtocmjlnhcloccaaGreatDoorCRdr
import Derived.Test.YtocmjlnhcloccaaGreatDoorSSch
namespace Go.Proofs.YtocmjlnhcloccaaGreatDoor
open Go.RowKit

/-- what has been read so far: vs, up to at -/
def RRel (cs : List Col) (l : List UInt8) (k : Nat) (vs : List Vl) (m : Nat) : Prop :=
  readRow cs l = match readRow (cs.drop k) (l.drop m) with
    | none => none
    | some (ws, j) => some (vs ++ ws, m + j)
theorem RRel.zero (cs : List Col) (l : List UInt8) : RRel cs l 0 [] 0 := by
  unfold RRel
  rw [List.drop_zero, List.drop_zero]
  cases readRow cs l with
  | none => rfl
  | some x => obtain ⟨a, b⟩ := x; simp
theorem RRel.next {cs : List Col} {l : List UInt8} {k : Nat} {vs : List Vl} {m : Nat} {c : Col} {v : Vl} {n : Nat} (h : RRel cs l k vs m) (hk : k < cs.length) (hc : cs[k] = c) (hv : readVal c (l.drop m) = some (v, n)) : RRel cs l (k + 1) (vs ++ [v]) (m + n) := by
  unfold RRel at *
  rw [h, List.drop_eq_getElem_cons hk, hc]
  rw [show readRow (c :: cs.drop (k + 1)) (l.drop m) = match readVal c (l.drop m) with
    | none => none
    | some (v, n) =>
      match readRow (cs.drop (k + 1)) ((l.drop m).drop n) with
      | none => none
      | some (vs, m) => some (v :: vs, n + m) from rfl, hv]
  simp only [List.drop_drop]
  cases readRow (cs.drop (k + 1)) (l.drop (m + n)) with
  | none => rfl
  | some x => obtain ⟨a, b⟩ := x; simp [Nat.add_assoc]
theorem RRel.bad {cs : List Col} {l : List UInt8} {k : Nat} {vs : List Vl} {m : Nat} {c : Col} (h : RRel cs l k vs m) (hk : k < cs.length) (hc : cs[k] = c) (hv : readVal c (l.drop m) = none) : readRow cs l = none := by
  unfold RRel at h
  rw [h, List.drop_eq_getElem_cons hk, hc]
  rw [show readRow (c :: cs.drop (k + 1)) (l.drop m) = match readVal c (l.drop m) with
    | none => none
    | some (v, n) =>
      match readRow (cs.drop (k + 1)) ((l.drop m).drop n) with
      | none => none
      | some (vs, m) => some (v :: vs, n + m) from rfl, hv]
theorem RRel.done {cs : List Col} {l : List UInt8} {k : Nat} {vs : List Vl} {m : Nat} (h : RRel cs l k vs m) (hk : cs.length ≤ k) : readRow cs l = some (vs, m) := by
  unfold RRel at h
  rw [h, List.drop_eq_nil_of_le hk]
  simp [readRow]

def zV (j : Nat) : Value := (#[.int .i64 0, .int .i64 0, .int .u64 0, .string ⟨#[]⟩] : Array Value)[j]!
theorem rowOf_snoc {vs : List Vl} {v : Vl} {k : Nat} (hk : vs.length = k) (j : Nat) : rowOf valCell zV val0 vs k j = rowOf valCell zV val0 (vs ++ [v]) k j := by
  unfold rowOf
  by_cases h : j < k * 4
  · rw [if_pos h, if_pos h, List.getD_eq_getElem?_getD, List.getD_eq_getElem?_getD, List.getElem?_append_left (by omega)]
  · rw [if_neg h, if_neg h]
theorem rowOf_null {vs : List Vl} {k : Nat} (hk : vs.length = k) (j : Nat) : rowOf valCell zV val0 vs k j = rowOf valCell zV val0 (vs ++ [val0]) (k + 1) j := by
  unfold rowOf
  by_cases h : j < k * 4
  · rw [if_pos h, if_pos (by omega), List.getD_eq_getElem?_getD, List.getD_eq_getElem?_getD, List.getElem?_append_left (by omega)]
  · rw [if_neg h]
    by_cases h2 : j < (k + 1) * 4
    · rw [if_pos h2, show j / 4 = k by omega, List.getD_eq_getElem?_getD, List.getElem?_append_right (by omega), hk]
      simp
      have hj : j % 4 < 4 := Nat.mod_lt _ (by decide)
      generalize j % 4 = q at hj
      match q, hj with
      | 0, _ => rfl
      | 1, _ => rfl
      | 2, _ => rfl
      | 3, _ => rfl
    · rw [if_neg h2]
theorem getD_snoc {vs : List Vl} {v : Vl} {k : Nat} (hk : vs.length = k) : (vs ++ [v]).getD k val0 = v := by
  rw [List.getD_eq_getElem?_getD, List.getElem?_append_right (by omega), hk]
  simp

/-- what lies in memory at a round's head -/
structure RS (w : World) (R n : Nat) (oc : Option Addr) (nc cc r : Nat) (vs : List Vl) (W : World) : Prop where
  b0 : W.cell? ⟨w.heap.size, 0, none⟩ = some (.slice oc nc cc)
  b1 : W.cell? ⟨w.heap.size, 1, none⟩ = some (.map (some r))
  row : W.rowIs (w.heap.size + 1) 68 (n * 4) (rowOf valCell zV val0 vs vs.length)
  g : w.grownBy W (some R)
theorem RS.lt {w W : World} {R n : Nat} {oc : Option Addr} {nc cc r : Nat} {vs : List Vl} (h : RS w R n oc nc cc r vs W) : w.heap.size + 1 < W.heap.size := h.row.lt
theorem RS.keep {w W W' : World} {R n : Nat} {oc : Option Addr} {nc cc r : Nat} {vs : List Vl} (h : RS w R n oc nc cc r vs W) (hg : W.grownBy W' (some R)) (hR : R < w.heap.size) : RS w R n oc nc cc r vs W' := by
  have hl := h.lt
  refine ⟨?_, ?_, h.row.of_block (hg.block _ hl (fun e => by cases e; omega)), h.g.trans hg⟩
  · rw [hg.cell_far _ (by simp; omega) (by simp; omega)]; exact h.b0
  · rw [hg.cell_far _ (by simp; omega) (by simp; omega)]; exact h.b1
/-- a column's cells in block C -/
structure CAt (W : World) (C : Nat) (c : Col) : Prop where
  c0 : W.cell? ⟨C, 0, none⟩ = some (.string c.n)
  c1 : W.cell? ⟨C, 1, none⟩ = some (.int .i64 c.t)
  c2 : W.cell? ⟨C, 2, none⟩ = some (.int .i64 c.z)
  c3 : W.cell? ⟨C, 3, none⟩ = some (.bool c.u)
theorem cAt {w w1 : World} {R : Nat} {c : Col} (hR : R < w.heap.size) (hg : (w.alloc (.cells #[.string c.n, .int .i64 c.t, .int .i64 c.z, .bool c.u] 64)).grownBy w1 (some R)) : CAt w1 w.heap.size c := by
  have q : ∀ o, w1.cell? ⟨w.heap.size, o, none⟩ = (w.alloc (.cells #[.string c.n, .int .i64 c.t, .int .i64 c.z, .bool c.u] 64)).cell? ⟨w.heap.size, o, none⟩ := fun o => hg.cell_far _ (by simp) (by simp; omega)
  exact ⟨by rw [q]; simp [go_sem], by rw [q]; simp [go_sem], by rw [q]; simp [go_sem], by rw [q]; simp [go_sem]⟩

/-- what read tells -/
def ReadPost (w : World) (R : Nat) (s : Value) (o : Option (List Vl × Nat)) (i : Nat) (e : Ending) (w' : World) : Prop :=
  match o with
  | some (vs, k) => ∃ b, e = .returned (.slice (some ⟨b, 0, none⟩) vs.length vs.length) ∧ w.heap.size ≤ b ∧ ValsIn w' (some ⟨b, 0, none⟩) vs ∧ Rd w' R s (i + k) ∧ w.grownBy w' (some R)
  | none => Gone w R e w'

set_option maxRecDepth 100000 in
set_option maxHeartbeats 8000000 in
theorem lread_any (oc : Option Addr) (cc r : Nat) (cs : List Col) (R : Nat) (oa : Option Addr) (cap i : Nat) (l : List UInt8) (w : World) (hr : Rd w R (.slice oa l.length cap) i) (hb : BelowAt w R oa l) (hn : l.length ≤ 1000000) (hc : l.length ≤ cap) (hi : i ≤ l.length) (hcl : cs.length ≤ 1000) (hC : ∀ W, Below R w W → ColsIn W oc cs) (hM : ∀ W, Below R w W → W.heap[r]? = some (.map mapCKinds 4)) (hz : ∀ c ∈ cs, szOk c.t c.z = true) :
    Calls Tryz.prog 35 #[.agg #[.slice oc cs.length cc, .map (some r)], .pointer (some ⟨R, 0, none⟩)] w (ReadPost w R (.slice oa l.length cap) (readRow cs (l.drop i)) i) := by
  have hmk : ∀ W, (Instr.makeSlice 27 (.int .i64 (cs.length : Int)) (.int .i64 (cs.length : Int))).run Tryz.prog W = .ok (.slice (some ⟨W.heap.size, 0, none⟩) cs.length cs.length) (W.alloc (.cells (madeCells #[.int .i64 0, .int .i64 0, .int .u64 0, .string ⟨#[]⟩] (cs.length * 4)) 68)) :=
    run_make4 27 68 (.agg #[.int .i64 0, .int .i64 0, .int .u64 0, .string ⟨#[]⟩]) 40 Tryz.underlying27 infoV cs.length (by omega) (by omega)
  have hR := hr.lt
  have HC := Lib.hid hC
  have HM := Lib.hid hM
  have HR := Lib.hid hr
  have HB := Lib.hid hb
  have HZ := Lib.hid hz
  clear hr hb hC hM hz
  go_enter Tryz.func35, Tryz.ntmps35
  go_wp2_with fail
  have hrow0 := rowIs_made4 (w.alloc (.cells #[.slice oc cs.length cc, .map (some r)] 72)) #[.int .i64 0, .int .i64 0, .int .u64 0, .string ⟨#[]⟩] rfl cs.length 68
  have hs0 : RS w R cs.length oc cs.length cc r [] ((w.alloc (.cells #[.slice oc cs.length cc, .map (some r)] 72)).alloc (.cells (madeCells #[.int .i64 0, .int .i64 0, .int .u64 0, .string ⟨#[]⟩] (cs.length * 4)) 68)) :=
    ⟨by simp [go_sem], by simp [go_sem], (by simpa using hrow0.congr (fun j _ => by simp [rowOf, zV])), (World.grownBy_alloc w _ _).trans (World.grownBy_alloc _ _ _)⟩
  have hrd0 : Rd ((w.alloc (.cells #[.slice oc cs.length cc, .map (some r)] 72)).alloc (.cells (madeCells #[.int .i64 0, .int .i64 0, .int .u64 0, .string ⟨#[]⟩] (cs.length * 4)) 68)) R (.slice oa l.length cap) i :=
    HR.out.keep (((Below.refl _ w).alloc (Nat.le_refl _) _).alloc (by simp) _)
  generalize (w.alloc (.cells #[.slice oc cs.length cc, .map (some r)] 72)).alloc (.cells (madeCells #[.int .i64 0, .int .i64 0, .int .u64 0, .string ⟨#[]⟩] (cs.length * 4)) 68) = w1 at *
  clear hrow0 hmk
  have HS0 := Lib.hid hs0
  have HR0 := Lib.hid hrd0
  clear hs0 hrd0
  go_loopw [15] (fun v wr => ∃ (k m : Nat) (vs : List Vl), k ≤ cs.length ∧ vs.length = k ∧ i + m ≤ l.length ∧ v = .int .i64 k ∧ Hid (RRel cs (l.drop i) k vs m) ∧ Hid (RS w R cs.length oc cs.length cc r vs wr) ∧ Hid (Rd wr R (.slice oa l.length cap) (i + m))) (fun v _ => cs.length - (intOf v).toNat)
  case atStart => exact ⟨0, 0, [], by omega, rfl, by omega, rfl, Lib.hid (RRel.zero _ _), HS0, HR0⟩
  case round =>
    obtain ⟨k, m, vs, hk, hvl, him, rfl, HK, HS, HRD⟩ := hrel
    clear HS0 HR0 HR
    have hbw := grown_under HS.out.g (Nat.le_of_lt hR)
    by_cases hkl : k < cs.length
    · obtain ⟨c, hcc⟩ : ∃ c, cs[k] = c := ⟨_, rfl⟩
      obtain ⟨ac, rfl, hat⟩ := HC.out _ hbw k hkl
      rw [hcc] at hat
      have hszc := HZ.out c (hcc ▸ List.getElem_mem hkl)
      have hRw : R < wr.heap.size := by have := HS.out.lt; omega
      have hrd2 := HRD.out.keep ((Below.refl _ wr).alloc (Nat.le_refl _) (.cells #[.string c.n, .int .i64 c.t, .int .i64 c.z, .bool c.u] 64))
      have hb2 := (HB.out.grown HS.out.g).keep ((Below.refl R wr).alloc (by omega) (.cells #[.string c.n, .int .i64 c.t, .int .i64 c.z, .bool c.u] 64))
      have hG0 := World.grownBy_alloc wr (.cells #[.string c.n, .int .i64 c.t, .int .i64 c.z, .bool c.u] 64) (some R)
      obtain ⟨c0, c1, c2, c3⟩ := hat
      have b0 : (0 : Int) ≤ (k : Int) := by omega
      have b1 : (k : Int) < (cs.length : Int) := by omega
      obtain ⟨s0, s1, _, _⟩ := HS.out
      have hls := HS.out.lt
      by_cases hal : i + m < l.length
      · have hd : (l.drop i).drop m = l[i + m] :: l.drop (i + m + 1) := by rw [List.drop_drop]; exact List.drop_eq_getElem_cons hal
        by_cases h1 : l[i + m].toNat ≤ 1
        · have HBIT := Lib.hid (cbit_yes R oa cap (i + m) l _ hrd2 hb2 hn hc hal h1)
          by_cases hx0 : l[i + m] = 0
          · rw [hx0] at HBIT
            have HG0 := Lib.hid hG0
            have HCC := Lib.hid hcc
            have hkl2 := hkl
            clear hrd2 hb2 hG0 h1 hcc
            by_cases hu : c.u = true
            · have hv : readVal c ((l.drop i).drop m) = some (val0, 1) := by rw [hd, hx0]; simp [readVal, hu]
              have HN := Lib.hid (HK.out.next hkl HCC.out hv)
              have HU := Lib.hid hu
              clear hv hx0 hd hu
              go_wp2_with fail
              refine HBIT.out.mono ?_
              rintro e w2 ⟨rfl, hrd, hg⟩
              obtain ⟨d0, d1, d2, d3⟩ := cAt hRw hg
              rw [HU.out] at d3
              have HRD2 := Lib.hid hrd
              have HS2 := Lib.hid (HS.out.keep (HG0.out.trans hg) hR)
              clear hrd hg d0 d1 d2 c0 c1 c2 c3 s0 s1
              go_wp2_with fail
              go_roundw
              case rel =>
                refine ⟨k + 1, m + 1, vs ++ [val0], by omega, by simp [hvl], by omega, by go_num, HN, Lib.hid ?_, HRD2⟩
                obtain ⟨q0, q1, q2, q3⟩ := HS2.out
                refine ⟨q0, q1, ?_, q3⟩
                rw [show (vs ++ [val0]).length = k + 1 by simp [hvl]]
                rw [hvl] at q2
                exact q2.congr (fun j _ => rowOf_null hvl j)
              case measure => simp [intOf]; omega
            · replace hu : c.u = false := by simpa using hu
              have hv : readVal c ((l.drop i).drop m) = none := by rw [hd, hx0]; simp [readVal, hu]
              have HN := Lib.hid (HK.out.bad hkl HCC.out hv)
              have HU := Lib.hid hu
              clear hv hx0 hd hu
              go_wp2_with fail
              refine HBIT.out.mono ?_
              rintro e w2 ⟨rfl, hrd, hg⟩
              obtain ⟨d0, d1, d2, d3⟩ := cAt hRw hg
              rw [HU.out] at d3
              have HS2 := Lib.hid (HS.out.keep (HG0.out.trans hg) hR)
              clear hrd hg d0 d1 d2 c0 c1 c2 c3 s0 s1
              go_wp2_with fail
              refine (GiveUp_any _ 140 _ (by decide)).mono ?_
              rintro e w3 ⟨⟨y, rfl, hth⟩, hbG⟩
              refine ⟨rfl, ?_⟩
              rw [HN.out]
              exact ⟨⟨_, rfl, hth⟩, HS2.out.g.trans (grown_below hbG _)⟩
          · have hx1 : l[i + m] = 1 := by
              have : l[i + m].toNat ≠ 0 := fun e => hx0 (by apply UInt8.toNat_inj.1; rw [e]; rfl)
              apply UInt8.toNat_inj.1
              rw [show (1 : UInt8).toNat = 1 from rfl]
              omega
            rw [hx1] at HBIT
            have HG0 := Lib.hid hG0
            have HCC := Lib.hid hcc
            have HHD := Lib.hid (show readVal c ((l.drop i).drop m) = (bodyR c.t c.z (l.drop (i + m + 1))).map (fun x => (x.1, 1 + x.2)) by rw [hd, hx1, readVal_one])
            clear hrd2 hb2 hG0 h1 hcc hx0 hx1 hd
            go_wp2_with fail
            refine HBIT.out.mono ?_
            rintro e w2 ⟨rfl, hrd, hg⟩
            obtain ⟨d0, d1, d2, d3⟩ := cAt hRw hg
            have hs2 := HS.out.keep (HG0.out.trans hg) hR
            have hmp := HM.out _ (grown_under hs2.g (Nat.le_of_lt hR))
            have hb3 := HB.out.grown hs2.g
            have HS2 := Lib.hid hs2
            obtain ⟨t0, t1, _, _⟩ := hs2
            clear hg s0 s1
            rcases type_cases c.t with ht | ht | ht | ht | ht
            · rw [szOk_none ht] at hszc; cases hszc
            · have HT := Lib.hid ht
              rw [ht] at hszc d1
              clear ht
              have hL : (Instr.lookup 70 (.map (some r)) (.int .i64 1) false).run Tryz.prog w2 = .ok (kv3 90 91 92) w2 := ckinds_got hmp rfl
              have hF : ∀ W, (Instr.field 124 (kv3 90 91 92) 1).run Tryz.prog W = .ok (.func (.func 91) #[] #[]) W := fun _ => rfl
              simp only [kv3] at hL hF
              have C := cread1 c.z (by exact hszc) R oa cap (i + m + 1) l w2 hrd hb3 hn hc (by omega)
              clear hmp hb3 hrd
              cases hbr : bodyR 1 c.z (l.drop (i + m + 1)) with
              | none =>
                rw [hbr] at C
                have hv : readVal c ((l.drop i).drop m) = none := by rw [HHD.out, HT.out, hbr]; rfl
                have HN := Lib.hid (HK.out.bad hkl HCC.out hv)
                have HCL := Lib.hid (show Calls Tryz.prog 91 #[.pointer (some ⟨R, 0, none⟩), .int .i64 c.z] w2 (Gone w2 R) from C)
                clear C hbr hv hszc
                go_wp2_with fail
                refine HCL.out.mono ?_
                rintro e w3 ⟨⟨s, rfl, hth⟩, hg⟩
                refine ⟨rfl, ?_⟩
                rw [HN.out]
                exact ⟨⟨_, rfl, hth⟩, HS2.out.g.trans hg⟩
              | some x =>
                obtain ⟨v, n⟩ := x
                rw [hbr] at C
                have hv : readVal c ((l.drop i).drop m) = some (v, 1 + n) := by rw [HHD.out, HT.out, hbr]; rfl
                have hle := bodyR_le hbr
                rw [List.length_drop] at hle
                have HN := Lib.hid (HK.out.next hkl HCC.out hv)
                have HCL := Lib.hid (show Calls Tryz.prog 91 #[.pointer (some ⟨R, 0, none⟩), .int .i64 c.z] w2 (Got w2 R (.slice oa l.length cap) (i + m + 1 + n) v.val) from C)
                clear C hbr hv hszc
                go_wp2_with fail
                refine HCL.out.mono ?_
                rintro e w3 ⟨rfl, hrd3, hg⟩
                simp only [Vl.val]
                have HRD3 := Lib.hid hrd3
                have hs3 := HS2.out.keep hg hR
                have HS3 := Lib.hid hs3
                have hrow := hs3.row
                have hlt3 := hs3.lt
                rw [hvl] at hrow
                have r0 := hrow.cell (i := k * 4) (by omega)
                have r1 := hrow.cell (i := k * 4 + 1) (by omega)
                have r2 := hrow.cell (i := k * 4 + 2) (by omega)
                have r3 := hrow.cell (i := k * 4 + 3) (by omega)
                have f0 := hrow.frozen (k * 4)
                have f1 := hrow.frozen (k * 4 + 1)
                have f2 := hrow.frozen (k * 4 + 2)
                have f3 := hrow.frozen (k * 4 + 3)
                have HRW := Lib.hid hrow
                have hRB : R ≠ w.heap.size + 1 := by omega
                clear hg hrd3 hs3 hrow d0 d1 d2 d3 t0 t1 hL hF c0 c1 c2 c3
                go_wp2_with fail
                go_roundw
                case rel =>
                  refine ⟨k + 1, m + (1 + n), vs ++ [v], by omega, by simp [hvl], by omega, by go_num, HN, Lib.hid ?_, Lib.hid ?_⟩
                  · obtain ⟨q0, q1, q2, q3⟩ := HS3.out
                    have hg4 := grown_set (B := w.heap.size + 1) (o := k * 4 + 3) (x := .string v.s) (grown_set (B := w.heap.size + 1) (o := k * 4 + 2) (x := .int .u64 v.u) (grown_set (B := w.heap.size + 1) (o := k * 4 + 1) (x := .int .i64 v.i) (grown_set (B := w.heap.size + 1) (o := k * 4) (x := .int .i64 v.k) q3 (by omega)) (by omega)) (by omega)) (by omega)
                    refine ⟨?_, ?_, ?_, hg4⟩
                    · simpa [go_sem] using q0
                    · simpa [go_sem] using q1
                    · rw [show (vs ++ [v]).length = k + 1 by simp [hvl]]
                      refine ((((HRW.out.set (k * 4) (.int .i64 v.k)).set (k * 4 + 1) (.int .i64 v.i)).set (k * 4 + 2) (.int .u64 v.u)).set (k * 4 + 3) (.string v.s)).congr (fun j _ => ?_)
                      simp only [rowOf_snoc (v := v) hvl]
                      exact rowOf_next (cell := valCell) j _ _ _ _ (by rw [getD_snoc hvl]; rfl) (by rw [getD_snoc hvl]; rfl) (by rw [getD_snoc hvl]; rfl) (by rw [getD_snoc hvl]; rfl)
                  · have := (((HRD3.out.set (x := .int .i64 v.k) (o := k * 4) hRB).set (x := .int .i64 v.i) (o := k * 4 + 1) hRB).set (x := .int .u64 v.u) (o := k * 4 + 2) hRB).set (x := .string v.s) (o := k * 4 + 3) hRB
                    rwa [show i + m + 1 + n = i + (m + (1 + n)) by omega] at this
                case measure => simp [intOf]; omega
            · have HT := Lib.hid ht
              rw [ht] at hszc d1
              clear ht
              have hL : (Instr.lookup 70 (.map (some r)) (.int .i64 2) false).run Tryz.prog w2 = .ok (kv3 93 94 92) w2 := ckinds_got hmp rfl
              have hF : ∀ W, (Instr.field 124 (kv3 93 94 92) 1).run Tryz.prog W = .ok (.func (.func 94) #[] #[]) W := fun _ => rfl
              simp only [kv3] at hL hF
              have C := cread2 c.z (by exact hszc) R oa cap (i + m + 1) l w2 hrd hb3 hn hc (by omega)
              clear hmp hb3 hrd
              cases hbr : bodyR 2 c.z (l.drop (i + m + 1)) with
              | none =>
                rw [hbr] at C
                have hv : readVal c ((l.drop i).drop m) = none := by rw [HHD.out, HT.out, hbr]; rfl
                have HN := Lib.hid (HK.out.bad hkl HCC.out hv)
                have HCL := Lib.hid (show Calls Tryz.prog 94 #[.pointer (some ⟨R, 0, none⟩), .int .i64 c.z] w2 (Gone w2 R) from C)
                clear C hbr hv hszc
                go_wp2_with fail
                refine HCL.out.mono ?_
                rintro e w3 ⟨⟨s, rfl, hth⟩, hg⟩
                refine ⟨rfl, ?_⟩
                rw [HN.out]
                exact ⟨⟨_, rfl, hth⟩, HS2.out.g.trans hg⟩
              | some x =>
                obtain ⟨v, n⟩ := x
                rw [hbr] at C
                have hv : readVal c ((l.drop i).drop m) = some (v, 1 + n) := by rw [HHD.out, HT.out, hbr]; rfl
                have hle := bodyR_le hbr
                rw [List.length_drop] at hle
                have HN := Lib.hid (HK.out.next hkl HCC.out hv)
                have HCL := Lib.hid (show Calls Tryz.prog 94 #[.pointer (some ⟨R, 0, none⟩), .int .i64 c.z] w2 (Got w2 R (.slice oa l.length cap) (i + m + 1 + n) v.val) from C)
                clear C hbr hv hszc
                go_wp2_with fail
                refine HCL.out.mono ?_
                rintro e w3 ⟨rfl, hrd3, hg⟩
                simp only [Vl.val]
                have HRD3 := Lib.hid hrd3
                have hs3 := HS2.out.keep hg hR
                have HS3 := Lib.hid hs3
                have hrow := hs3.row
                have hlt3 := hs3.lt
                rw [hvl] at hrow
                have r0 := hrow.cell (i := k * 4) (by omega)
                have r1 := hrow.cell (i := k * 4 + 1) (by omega)
                have r2 := hrow.cell (i := k * 4 + 2) (by omega)
                have r3 := hrow.cell (i := k * 4 + 3) (by omega)
                have f0 := hrow.frozen (k * 4)
                have f1 := hrow.frozen (k * 4 + 1)
                have f2 := hrow.frozen (k * 4 + 2)
                have f3 := hrow.frozen (k * 4 + 3)
                have HRW := Lib.hid hrow
                have hRB : R ≠ w.heap.size + 1 := by omega
                clear hg hrd3 hs3 hrow d0 d1 d2 d3 t0 t1 hL hF c0 c1 c2 c3
                go_wp2_with fail
                go_roundw
                case rel =>
                  refine ⟨k + 1, m + (1 + n), vs ++ [v], by omega, by simp [hvl], by omega, by go_num, HN, Lib.hid ?_, Lib.hid ?_⟩
                  · obtain ⟨q0, q1, q2, q3⟩ := HS3.out
                    have hg4 := grown_set (B := w.heap.size + 1) (o := k * 4 + 3) (x := .string v.s) (grown_set (B := w.heap.size + 1) (o := k * 4 + 2) (x := .int .u64 v.u) (grown_set (B := w.heap.size + 1) (o := k * 4 + 1) (x := .int .i64 v.i) (grown_set (B := w.heap.size + 1) (o := k * 4) (x := .int .i64 v.k) q3 (by omega)) (by omega)) (by omega)) (by omega)
                    refine ⟨?_, ?_, ?_, hg4⟩
                    · simpa [go_sem] using q0
                    · simpa [go_sem] using q1
                    · rw [show (vs ++ [v]).length = k + 1 by simp [hvl]]
                      refine ((((HRW.out.set (k * 4) (.int .i64 v.k)).set (k * 4 + 1) (.int .i64 v.i)).set (k * 4 + 2) (.int .u64 v.u)).set (k * 4 + 3) (.string v.s)).congr (fun j _ => ?_)
                      simp only [rowOf_snoc (v := v) hvl]
                      exact rowOf_next (cell := valCell) j _ _ _ _ (by rw [getD_snoc hvl]; rfl) (by rw [getD_snoc hvl]; rfl) (by rw [getD_snoc hvl]; rfl) (by rw [getD_snoc hvl]; rfl)
                  · have := (((HRD3.out.set (x := .int .i64 v.k) (o := k * 4) hRB).set (x := .int .i64 v.i) (o := k * 4 + 1) hRB).set (x := .int .u64 v.u) (o := k * 4 + 2) hRB).set (x := .string v.s) (o := k * 4 + 3) hRB
                    rwa [show i + m + 1 + n = i + (m + (1 + n)) by omega] at this
                case measure => simp [intOf]; omega
            · have HT := Lib.hid ht
              rw [ht] at hszc d1
              clear ht
              have hL : (Instr.lookup 70 (.map (some r)) (.int .i64 3) false).run Tryz.prog w2 = .ok (kv3 95 96 97) w2 := ckinds_got hmp rfl
              have hF : ∀ W, (Instr.field 124 (kv3 95 96 97) 1).run Tryz.prog W = .ok (.func (.func 96) #[] #[]) W := fun _ => rfl
              simp only [kv3] at hL hF
              have C := cread3 c.z R oa cap (i + m + 1) l w2 hrd hb3 hn hc (by omega)
              clear hmp hb3 hrd
              cases hbr : bodyR 3 c.z (l.drop (i + m + 1)) with
              | none =>
                rw [hbr] at C
                have hv : readVal c ((l.drop i).drop m) = none := by rw [HHD.out, HT.out, hbr]; rfl
                have HN := Lib.hid (HK.out.bad hkl HCC.out hv)
                have HCL := Lib.hid (show Calls Tryz.prog 96 #[.pointer (some ⟨R, 0, none⟩), .int .i64 c.z] w2 (Gone w2 R) from C)
                clear C hbr hv hszc
                go_wp2_with fail
                refine HCL.out.mono ?_
                rintro e w3 ⟨⟨s, rfl, hth⟩, hg⟩
                refine ⟨rfl, ?_⟩
                rw [HN.out]
                exact ⟨⟨_, rfl, hth⟩, HS2.out.g.trans hg⟩
              | some x =>
                obtain ⟨v, n⟩ := x
                rw [hbr] at C
                have hv : readVal c ((l.drop i).drop m) = some (v, 1 + n) := by rw [HHD.out, HT.out, hbr]; rfl
                have hle := bodyR_le hbr
                rw [List.length_drop] at hle
                have HN := Lib.hid (HK.out.next hkl HCC.out hv)
                have HCL := Lib.hid (show Calls Tryz.prog 96 #[.pointer (some ⟨R, 0, none⟩), .int .i64 c.z] w2 (Got w2 R (.slice oa l.length cap) (i + m + 1 + n) v.val) from C)
                clear C hbr hv hszc
                go_wp2_with fail
                refine HCL.out.mono ?_
                rintro e w3 ⟨rfl, hrd3, hg⟩
                simp only [Vl.val]
                have HRD3 := Lib.hid hrd3
                have hs3 := HS2.out.keep hg hR
                have HS3 := Lib.hid hs3
                have hrow := hs3.row
                have hlt3 := hs3.lt
                rw [hvl] at hrow
                have r0 := hrow.cell (i := k * 4) (by omega)
                have r1 := hrow.cell (i := k * 4 + 1) (by omega)
                have r2 := hrow.cell (i := k * 4 + 2) (by omega)
                have r3 := hrow.cell (i := k * 4 + 3) (by omega)
                have f0 := hrow.frozen (k * 4)
                have f1 := hrow.frozen (k * 4 + 1)
                have f2 := hrow.frozen (k * 4 + 2)
                have f3 := hrow.frozen (k * 4 + 3)
                have HRW := Lib.hid hrow
                have hRB : R ≠ w.heap.size + 1 := by omega
                clear hg hrd3 hs3 hrow d0 d1 d2 d3 t0 t1 hL hF c0 c1 c2 c3
                go_wp2_with fail
                go_roundw
                case rel =>
                  refine ⟨k + 1, m + (1 + n), vs ++ [v], by omega, by simp [hvl], by omega, by go_num, HN, Lib.hid ?_, Lib.hid ?_⟩
                  · obtain ⟨q0, q1, q2, q3⟩ := HS3.out
                    have hg4 := grown_set (B := w.heap.size + 1) (o := k * 4 + 3) (x := .string v.s) (grown_set (B := w.heap.size + 1) (o := k * 4 + 2) (x := .int .u64 v.u) (grown_set (B := w.heap.size + 1) (o := k * 4 + 1) (x := .int .i64 v.i) (grown_set (B := w.heap.size + 1) (o := k * 4) (x := .int .i64 v.k) q3 (by omega)) (by omega)) (by omega)) (by omega)
                    refine ⟨?_, ?_, ?_, hg4⟩
                    · simpa [go_sem] using q0
                    · simpa [go_sem] using q1
                    · rw [show (vs ++ [v]).length = k + 1 by simp [hvl]]
                      refine ((((HRW.out.set (k * 4) (.int .i64 v.k)).set (k * 4 + 1) (.int .i64 v.i)).set (k * 4 + 2) (.int .u64 v.u)).set (k * 4 + 3) (.string v.s)).congr (fun j _ => ?_)
                      simp only [rowOf_snoc (v := v) hvl]
                      exact rowOf_next (cell := valCell) j _ _ _ _ (by rw [getD_snoc hvl]; rfl) (by rw [getD_snoc hvl]; rfl) (by rw [getD_snoc hvl]; rfl) (by rw [getD_snoc hvl]; rfl)
                  · have := (((HRD3.out.set (x := .int .i64 v.k) (o := k * 4) hRB).set (x := .int .i64 v.i) (o := k * 4 + 1) hRB).set (x := .int .u64 v.u) (o := k * 4 + 2) hRB).set (x := .string v.s) (o := k * 4 + 3) hRB
                    rwa [show i + m + 1 + n = i + (m + (1 + n)) by omega] at this
                case measure => simp [intOf]; omega
            · have HT := Lib.hid ht
              rw [ht] at hszc d1
              clear ht
              have hL : (Instr.lookup 70 (.map (some r)) (.int .i64 4) false).run Tryz.prog w2 = .ok (kv3 98 99 100) w2 := ckinds_got hmp rfl
              have hF : ∀ W, (Instr.field 124 (kv3 98 99 100) 1).run Tryz.prog W = .ok (.func (.func 99) #[] #[]) W := fun _ => rfl
              simp only [kv3] at hL hF
              have C := cread4 c.z R oa cap (i + m + 1) l w2 hrd hb3 hn hc (by omega)
              clear hmp hb3 hrd
              cases hbr : bodyR 4 c.z (l.drop (i + m + 1)) with
              | none =>
                rw [hbr] at C
                have hv : readVal c ((l.drop i).drop m) = none := by rw [HHD.out, HT.out, hbr]; rfl
                have HN := Lib.hid (HK.out.bad hkl HCC.out hv)
                have HCL := Lib.hid (show Calls Tryz.prog 99 #[.pointer (some ⟨R, 0, none⟩), .int .i64 c.z] w2 (Gone w2 R) from C)
                clear C hbr hv hszc
                go_wp2_with fail
                refine HCL.out.mono ?_
                rintro e w3 ⟨⟨s, rfl, hth⟩, hg⟩
                refine ⟨rfl, ?_⟩
                rw [HN.out]
                exact ⟨⟨_, rfl, hth⟩, HS2.out.g.trans hg⟩
              | some x =>
                obtain ⟨v, n⟩ := x
                rw [hbr] at C
                have hv : readVal c ((l.drop i).drop m) = some (v, 1 + n) := by rw [HHD.out, HT.out, hbr]; rfl
                have hle := bodyR_le hbr
                rw [List.length_drop] at hle
                have HN := Lib.hid (HK.out.next hkl HCC.out hv)
                have HCL := Lib.hid (show Calls Tryz.prog 99 #[.pointer (some ⟨R, 0, none⟩), .int .i64 c.z] w2 (Got w2 R (.slice oa l.length cap) (i + m + 1 + n) v.val) from C)
                clear C hbr hv hszc
                go_wp2_with fail
                refine HCL.out.mono ?_
                rintro e w3 ⟨rfl, hrd3, hg⟩
                simp only [Vl.val]
                have HRD3 := Lib.hid hrd3
                have hs3 := HS2.out.keep hg hR
                have HS3 := Lib.hid hs3
                have hrow := hs3.row
                have hlt3 := hs3.lt
                rw [hvl] at hrow
                have r0 := hrow.cell (i := k * 4) (by omega)
                have r1 := hrow.cell (i := k * 4 + 1) (by omega)
                have r2 := hrow.cell (i := k * 4 + 2) (by omega)
                have r3 := hrow.cell (i := k * 4 + 3) (by omega)
                have f0 := hrow.frozen (k * 4)
                have f1 := hrow.frozen (k * 4 + 1)
                have f2 := hrow.frozen (k * 4 + 2)
                have f3 := hrow.frozen (k * 4 + 3)
                have HRW := Lib.hid hrow
                have hRB : R ≠ w.heap.size + 1 := by omega
                clear hg hrd3 hs3 hrow d0 d1 d2 d3 t0 t1 hL hF c0 c1 c2 c3
                go_wp2_with fail
                go_roundw
                case rel =>
                  refine ⟨k + 1, m + (1 + n), vs ++ [v], by omega, by simp [hvl], by omega, by go_num, HN, Lib.hid ?_, Lib.hid ?_⟩
                  · obtain ⟨q0, q1, q2, q3⟩ := HS3.out
                    have hg4 := grown_set (B := w.heap.size + 1) (o := k * 4 + 3) (x := .string v.s) (grown_set (B := w.heap.size + 1) (o := k * 4 + 2) (x := .int .u64 v.u) (grown_set (B := w.heap.size + 1) (o := k * 4 + 1) (x := .int .i64 v.i) (grown_set (B := w.heap.size + 1) (o := k * 4) (x := .int .i64 v.k) q3 (by omega)) (by omega)) (by omega)) (by omega)
                    refine ⟨?_, ?_, ?_, hg4⟩
                    · simpa [go_sem] using q0
                    · simpa [go_sem] using q1
                    · rw [show (vs ++ [v]).length = k + 1 by simp [hvl]]
                      refine ((((HRW.out.set (k * 4) (.int .i64 v.k)).set (k * 4 + 1) (.int .i64 v.i)).set (k * 4 + 2) (.int .u64 v.u)).set (k * 4 + 3) (.string v.s)).congr (fun j _ => ?_)
                      simp only [rowOf_snoc (v := v) hvl]
                      exact rowOf_next (cell := valCell) j _ _ _ _ (by rw [getD_snoc hvl]; rfl) (by rw [getD_snoc hvl]; rfl) (by rw [getD_snoc hvl]; rfl) (by rw [getD_snoc hvl]; rfl)
                  · have := (((HRD3.out.set (x := .int .i64 v.k) (o := k * 4) hRB).set (x := .int .i64 v.i) (o := k * 4 + 1) hRB).set (x := .int .u64 v.u) (o := k * 4 + 2) hRB).set (x := .string v.s) (o := k * 4 + 3) hRB
                    rwa [show i + m + 1 + n = i + (m + (1 + n)) by omega] at this
                case measure => simp [intOf]; omega
        · have hv : readVal c ((l.drop i).drop m) = none := by
            rw [hd]
            have n0 : ¬ l[i + m] = 0 := fun e => h1 (by rw [e]; decide)
            have n1 : l[i + m] ≠ 1 := fun e => h1 (by rw [e]; decide)
            simp [readVal, n0, n1]
          have HN := Lib.hid (HK.out.bad hkl hcc hv)
          have HBIT := Lib.hid (cbit_big R oa cap (i + m) l _ hrd2 hb2 hn hc hal (by omega))
          have HG0 := Lib.hid hG0
          clear hrd2 hb2 hG0 h1 hcc hv hd
          go_wp2_with fail
          refine HBIT.out.mono ?_
          rintro e w2 ⟨⟨s, rfl, hth⟩, hg⟩
          refine ⟨rfl, ?_⟩
          rw [HN.out]
          exact ⟨⟨_, rfl, hth⟩, (HS.out.g.trans HG0.out).trans hg⟩
      · have hal : i + m = l.length := by omega
        have hv : readVal c ((l.drop i).drop m) = none := by rw [List.drop_drop, List.drop_eq_nil_of_le (by omega)]; rfl
        have HN := Lib.hid (HK.out.bad hkl hcc hv)
        rw [hal] at hrd2
        have HBIT := Lib.hid (cbit_end R oa l.length cap _ hrd2 hn)
        have HG0 := Lib.hid hG0
        clear hrd2 hb2 hG0 hcc hv
        go_wp2_with fail
        refine HBIT.out.mono ?_
        rintro e w2 ⟨⟨s, rfl, hth⟩, hg⟩
        refine ⟨rfl, ?_⟩
        rw [HN.out]
        exact ⟨⟨_, rfl, hth⟩, (HS.out.g.trans HG0.out).trans hg⟩
    · obtain rfl : k = cs.length := by omega
      have HN := Lib.hid (HK.out.done (Nat.le_refl _))
      have hrow := HS.out.row
      have HV := Lib.hid (rowV (l := vs) (by rw [hvl] at hrow ⊢; exact hrow))
      have HVL := Lib.hid hvl
      clear hrow hvl
      go_wp2_with fail
      go_ret
      rw [HN.out]
      exact ⟨_, by rw [HVL.out]; rfl, by omega, HV.out, HRD.out, HS.out.g⟩
end Go.Proofs.YtocmjlnhcloccaaGreatDoor
