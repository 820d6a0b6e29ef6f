/-
  schema's checkSets: whether a schema's sets may be.
-/
import Derived.Test.YtjlhbpacecbfmaaGreatDoorSSets
namespace Go.Proofs.YtjlhbpacecbfmaaGreatDoor
open Go.RowKit Go.Shelf
attribute [local go_sem] Oper.semAt_some

theorem scope_wide {n : Nat} {P : Program} {c : Code} {Q : Exit → Act → World → Prop} {a : Act} {w : World} (h : c.wpIn Fence.wide n P (Exit.noGoto Q) a w) : (Code.scope c).wpIn Fence.wide n P Q a w :=
  wpIn_wide.2 (wp_scope_straight (wpIn_wide.1 h))
theorem Keep.of_below {B : Nat} {G : Nat → Prop} {X Y : World} (h : Below X.heap.size X Y) : Keep B G X Y := ⟨h.size, fun k hk _ => h.block k hk⟩
theorem loopTo_succ (cols : List Col) (first : Bool) (l : List Int) (k : Nat) : loopTo cols first l (k + 1) = (loopTo cols first l k && (!(first && nullAt cols l k) && !dupB l k)) := by
  unfold loopTo
  rw [List.range_succ, List.all_append]
  simp
theorem loopTo_no (cols : List Col) (first : Bool) (l : List Int) (k : Nat) (hk : k < l.length) (h : (!(first && nullAt cols l k) && !dupB l k) = false) : okSet cols first l = false := by
  have : loopTo cols first l l.length = false := by
    unfold loopTo
    rw [List.all_eq_false]
    exact ⟨k, List.mem_range.2 hk, by rw [h]; simp⟩
  unfold okSet
  rw [this, Bool.and_false, Bool.and_false]
theorem sp_last {S : Sch} {pre : List Nat} {x : Nat} (h : SpS S (pre ++ [x])) : pre = List.range x ∧ x < 1 + S.uqs.length := by
  obtain ⟨k, hk, hl⟩ := h
  cases k with
  | zero => simp at hk
  | succ k =>
    rw [List.range_succ] at hk
    have := List.append_inj' hk rfl
    obtain ⟨h1, h2⟩ := this
    obtain rfl : x = k := by simpa using h2
    exact ⟨h1, by omega⟩
theorem sv_at (p : SchV) (S : Sch) (hs : List (Option Addr × Nat)) (w : World) (x : Nat) (hk : IntsIn w p.ok S.key) (hu : SetsAt w p.ou S.uqs hs) (hx : x < 1 + S.uqs.length) : ∃ ob cb, svS p S hs x = .slice ob (setAt S x).length cb ∧ IntsIn w ob (setAt S x) := by
  unfold svS setAt
  cases x with
  | zero => exact ⟨_, _, rfl, hk⟩
  | succ j =>
    have hj : j < S.uqs.length := by omega
    obtain ⟨a, e, hc, hl, hi⟩ := hu j hj
    refine ⟨(hAt hs j).1, (hAt hs j).2, by rw [if_neg (by omega), if_neg (by omega)]; rfl, ?_⟩
    rw [if_neg (by omega), Nat.add_sub_cancel, List.getD_eq_getElem?_getD, List.getElem?_eq_getElem hj]
    exact hi
structure CsIn (w : World) (p : SchV) (S : Sch) (W : World) : Prop where
  b : Below w.heap.size w W
  c0 : W.cell? ⟨w.heap.size, 0, none⟩ = some (.slice p.oc S.cols.length p.cc)
  e0 : W.cell? ⟨w.heap.size + 1, 0, none⟩ = some .nilIface
  ef : W.frozen? ⟨w.heap.size + 1, 0, none⟩ = false
  sz : w.heap.size + 1 < W.heap.size
theorem CsIn.keep {w : World} {p : SchV} {S : Sch} {W W' : World} {B : Nat} (h : CsIn w p S W) (hb : Below B W W') (hB : w.heap.size + 2 ≤ B) : CsIn w p S W' :=
  ⟨h.b.trans (hb.mono (by omega)), by rw [hb.cell (p := ⟨w.heap.size, 0, none⟩) (by simp; omega)]; exact h.c0, by rw [hb.cell (p := ⟨w.heap.size + 1, 0, none⟩) (by simp; omega)]; exact h.e0, by rw [hb.frozen (p := ⟨w.heap.size + 1, 0, none⟩) (by simp; omega)]; exact h.ef, by have := h.sz; have := hb.size; omega⟩
/-- an error lies in its box -/
structure CsErr (w : World) (W : World) : Prop where
  ex : ∃ b, W.cell? ⟨w.heap.size + 1, 0, none⟩ = some (.iface 132 (.pointer (some ⟨b, 0, none⟩))) ∧ W.cell? ⟨b, 1, none⟩ = some (.int .i64 2) ∧ w.heap.size + 1 < b
  ef : W.frozen? ⟨w.heap.size + 1, 0, none⟩ = false
  b : Below w.heap.size w W
theorem CsErr.put {w W : World} {l : Nat} {r : Loop} (h : CsErr w W) (hl : W.heap[l]? = some (.loop r)) (hlw : w.heap.size + 1 < l) (o : Obj) : CsErr w (W.putObj l o) := by
  obtain ⟨⟨b, h1, h2, h3⟩, hf, hb⟩ := h
  have hne : b ≠ l := fun e => by
    subst e
    simp [World.cell?, hl] at h2
  refine ⟨⟨b, ?_, ?_, h3⟩, ?_, ?_⟩
  · rw [World.cell?_of_block (World.putObj_heap_other (by simp; omega))]; exact h1
  · rw [World.cell?_of_block (World.putObj_heap_other (by simpa using hne))]; exact h2
  · rw [World.frozen?_of_block (World.putObj_heap_other (by simp; omega))]; exact hf
  · exact ⟨hb.os, hb.tape, hb.output, by simp; exact hb.size, fun k hk => (World.putObj_heap_other (by omega)).trans (hb.block k hk)⟩
theorem below_put {B : Nat} {w W : World} (hb : Below B w W) {l : Nat} (hl : B ≤ l) (o : Obj) : Below B w (W.putObj l o) :=
  ⟨hb.os, hb.tape, hb.output, by simp; exact hb.size, fun k hk => (World.putObj_heap_other (by omega)).trans (hb.block k hk)⟩
theorem cell_put {W : World} {a : Addr} {v : Value} {l : Nat} (h : W.cell? a = some v) {ds : Option (List Deferred)} (hl : W.heap[l]? = some (.deferred ds)) (o : Obj) : (W.putObj l o).cell? a = some v := by
  have hne : a.block ≠ l := fun e => by
    simp [World.cell?, e, hl] at h
  rw [World.cell?_of_block (World.putObj_heap_other hne)]
  exact h
/-- behind a refusal that is stored -/
theorem CsErr.of {w w' W : World} {b : Nat} {p : SchV} {S : Sch} (h : CsIn w p S W) (hb : Below W.heap.size W w') (h2 : w'.cell? ⟨b, 1, none⟩ = some (.int .i64 2)) (hw : W.heap.size ≤ b) : CsErr w (w'.setCell ⟨w.heap.size + 1, 0, none⟩ (.iface 132 (.pointer (some ⟨b, 0, none⟩)))) := by
  have hsz := h.sz
  have k := h.keep hb (by omega)
  refine ⟨⟨b, ?_, ?_, by omega⟩, ?_, k.b.setCell (p := ⟨w.heap.size + 1, 0, none⟩) (by simp) _⟩
  · exact World.cell?_setCell_same' _ _ _ (by rw [k.e0]; rfl)
  · exact (World.cell?_setCell_other _ _ _ _ (by intro e; simp at e)).trans h2
  · rw [World.frozen?_setCell]; exact k.ef

set_option maxRecDepth 100000 in
set_option maxHeartbeats 8000000 in
theorem checkSets_any (p : SchV) (S : Sch) (om : Option Nat) (w : World) (hf : S.uqs.length ≤ 6) (hcl : S.cols.length ≤ 1000) (hS : SchIn w p S) :
    Calls Tryz.prog 57 #[.agg #[.slice p.oc S.cols.length p.cc, .slice p.ok S.key.length p.ck, .slice p.ou S.uqs.length p.cu, .map om]] w fun e w' =>
      (setsTo S (1 + S.uqs.length) = true ∧ e = .returned .nilIface ∧ Below w.heap.size w w') ∨ (setsTo S (1 + S.uqs.length) = false ∧ IsMis 2 w e w') := by
  obtain ⟨hs, hU⟩ := hS.uqs.at
  have HC := Lib.hid hS.cols
  have HK := Lib.hid hS.key
  have HU := Lib.hid hU
  have hou : ∀ k, GS p.ou S.uqs k → k < w.heap.size := fun k hk => by
    obtain ⟨⟨a, e, rfl⟩, hne⟩ := hk
    cases hu : S.uqs with
    | nil => exact absurd hu hne
    | cons x l =>
      obtain ⟨a', e', hc, _⟩ := hU 0 (by rw [hu]; simp)
      rw [e] at e'
      cases e'
      have := World.block_lt_of_cell? w _ hc
      rwa [add_block] at this
  have HOU := Lib.hid hou
  clear hS hU hou
  refine (callsIn_wide (n := 5)).1 ?_
  refine callsIn_of_wp_marks Tryz.func57 rfl trivial ?_ rfl
  simp only [Tryz.ntmps57, List.size_toArray, List.length_cons, List.length_nil, Nat.reduceAdd, Nat.reduceSub, Array.replicate_succ, Array.replicate_zero, List.push_toArray, List.append_toArray, List.nil_append, List.cons_append]
  gi_wp2
  refine scope_wide ?_
  gi_wp2
  refine wpIn_label ?_
  gi_wp2
  obtain ⟨W0, hW0⟩ : ∃ W0, (w.alloc (.cells #[.slice p.oc S.cols.length p.cc, .slice p.ok S.key.length p.ck, .slice p.ou S.uqs.length p.cu, .map om] 68)).alloc (.cells #[.nilIface] 72) = W0 := ⟨_, rfl⟩
  have hb0 : Below w.heap.size w W0 := by rw [← hW0]; exact ((Below.refl _ _).alloc (Nat.le_refl _) _).alloc (by simp) _
  have hsz0 : W0.heap.size = w.heap.size + 2 := by rw [← hW0]; simp
  have hI0 : CsIn w p S W0 := ⟨hb0, by rw [← hW0]; simp [go_sem], by rw [← hW0]; simp [go_sem], by rw [← hW0]; simp [go_sem], by omega⟩
  rw [hW0]
  clear hW0
  have HI0 := Lib.hid hI0
  have HB0 := Lib.hid hb0
  clear hI0 hb0
  refine wpIn_turns (F := Fence.wide) (G := GS p.ou S.uqs) rfl (by decide) (gf := 34) (fb := #[.agg #[.slice p.oc S.cols.length p.cc, .slice p.ok S.key.length p.ck, .slice p.ou S.uqs.length p.cu, .map om]]) (lb := #[]) rfl trivial (enters_of Tryz.func34 (by kernel_rfl) rfl)
    (lsets_turns 4 (by decide) p S om hs W0 (by omega) (HU.out.keep HB0.out (Nat.le_refl _))) (fun k hk => by have := HOU.out k hk; omega) (fun x => rfl)
    (fun pre W => setsTo S pre.length = true ∧ CsIn w p S W)
    (fun c pre W => c = .exit 0 ∧ setsTo S (1 + S.uqs.length) = false ∧ CsErr w W)
    (fun s A A' h hb => ⟨h.1, h.2.keep hb (by omega)⟩)
    (fun c pre W r o h hr => ⟨h.1, h.2.1, h.2.2.put hr (by omega) o⟩)
    ⟨rfl, HI0.out⟩
    (fun x => { tmps := #[.agg #[.slice p.oc S.cols.length p.cc, .slice p.ok S.key.length p.ck, .slice p.ou S.uqs.length p.cu, .map om], .pointer (some ⟨w.heap.size, 0, none⟩), .pointer (some ⟨w.heap.size + 1, 0, none⟩), .int .i64 x, svS p S hs x, undef, undef, undef, undef, .agg #[.slice p.oc S.cols.length p.cc, .slice p.ok S.key.length p.ck, .slice p.ou S.uqs.length p.cu, .map om], .func (.func 34) #[.agg #[.slice p.oc S.cols.length p.cc, .slice p.ok S.key.length p.ck, .slice p.ou S.uqs.length p.cu, .map om]] #[], .int .i64 x, svS p S hs x, undef, undef, undef, undef, undef, undef, undef, undef, undef, undef, undef, undef, undef, undef, undef, undef, undef, undef, undef, undef, undef, undef, undef, undef, undef, undef, undef, undef, undef, undef, undef, undef, undef, undef, undef, undef, undef, undef, undef, undef, undef, undef, undef, undef, undef, undef, undef, undef], defers := [] }) ?assign ?body ?done ?stop
  case assign =>
    intro l x W K hK
    simp only [encS]
    gi_wp2
    exact hK
  case body =>
    rintro l pre x W ⟨hgood, hc⟩ hsp hszW
    obtain ⟨rfl, hx⟩ := sp_last hsp
    rw [List.length_range] at hgood
    obtain ⟨ob, cb, hsv, hob0⟩ := sv_at p S hs w x HK.out HU.out hx
    have HOB := Lib.hid (hob0.keep hc.b (Nat.le_refl _))
    have HCOL := Lib.hid (HC.out.keep hc.b (Nat.le_refl _))
    have hgo : setsTo S (x + 1) = okSet S.cols (x == 0) (setAt S x) := by rw [setsTo_succ, hgood, Bool.true_and]
    have hall : okSet S.cols (x == 0) (setAt S x) = false → setsTo S (1 + S.uqs.length) = false := fun h => setsTo_le S _ (x + 1) (by omega) (hgo.trans h)
    have HGO := Lib.hid hgo
    have HALL := Lib.hid hall
    have HCC := Lib.hid hc
    have c0 := hc.c0
    have hzz := hc.sz
    dsimp only
    rw [hsv]
    generalize setAt S x = L at *
    clear hgood hgo hall hc hsp hsv hob0
    by_cases h1 : 1 ≤ L.length
    · by_cases h4 : L.length ≤ 4
      · have HP := Lib.hid (pickC_any p.oc p.cc S.cols ob cb L W hcl (by omega) HCOL.out HOB.out)
        gi_wp2_with fail
        refine ⟨trivial, ?_⟩
        refine (CallsIn.inRound l (callsIn_wide.2 HP.out)).mono ?_
        rintro e w2 (⟨hin, ⟨b, rfl, hpc⟩, hb2⟩ | ⟨hin, ⟨b, rfl, hbl, hcb2⟩, hb2⟩)
        · have k2 := HCC.out.keep hb2 (by omega)
          have HK2 := Lib.hid k2
          have HPC := Lib.hid hpc
          have HIN := Lib.hid hin
          have HOB2 := Lib.hid (HOB.out.keep hb2 (Nat.le_refl _))
          have hs2 := hb2.size
          clear hpc hin k2
          gi_wp2_with fail
          refine ⟨trivial, ?_⟩
          refine (CallsIn.inRound l (callsIn_wide.2 (is_none _))).mono ?_
          rintro e w' ⟨rfl, rfl⟩
          have HB2 := Lib.hid hb2
          have hL : (pickL col0 S.cols L).length = L.length := by simp [pickL]
          clear hb2 HP
          gi_wp2_with fail
          gi_loopw [36] (fun i wr => ∃ k : Nat, k ≤ L.length ∧ i = .int .i64 k ∧ Hid (loopTo S.cols (x == 0) L k = true) ∧ Hid (Below w2.heap.size w2 wr)) (fun i _ => L.length - (intOf i).toNat)
          case atStart => exact ⟨0, Nat.zero_le _, rfl, Lib.hid rfl, Lib.hid (Below.refl _ _)⟩
          case round =>
            obtain ⟨k, hk, rfl, HLP, HBR⟩ := hrel
            have HBW : Hid (Below W.heap.size W wr) := Lib.hid (HB2.out.trans (HBR.out.mono HB2.out.size))
            have hsr := HBR.out.size
            by_cases hlt : k < L.length
            · obtain ⟨y, hy⟩ : ∃ y, L[k] = y := ⟨_, rfl⟩
              obtain ⟨a0, e0, hat⟩ := HPC.out.keep HBR.out (Nat.le_refl _) k (by omega)
              cases e0
              rw [add4] at hat
              have hcu : ((pickL col0 S.cols L)[k]'(by omega)).u = nullAt S.cols L k := by
                unfold nullAt
                rw [List.getD_eq_getElem?_getD (l := L), List.getElem?_eq_getElem hlt]
                simp [pickL]
              generalize (pickL col0 S.cols L)[k]'(by omega) = c at hat hcu
              have hal : b < wr.heap.size := hat.lt
              obtain ⟨q0, q1, q2, q3⟩ := hat
              obtain ⟨ai, rfl, hic⟩ := HOB2.out.keep HBR.out (Nat.le_refl _) k hlt
              have HIX : Hid (∀ W', Below wr.heap.size wr W' → Calls Tryz.prog 80 #[.slice (some ai) L.length cb, .int .i64 y] W' fun e w' => e = .returned (.int .i64 (firstI L y)) ∧ W' = w') := Lib.hid (fun W' hb => iIndex_any (some ai) cb L y W' (by omega) ((HOB2.out.keep HBR.out (Nat.le_refl _)).keep hb (Nat.le_refl _)))
              rw [hy] at hic
              have hdup : dupB L k = decide (firstI L y < k) := by
                unfold dupB
                rw [List.getD_eq_getElem?_getD, List.getElem?_eq_getElem hlt, hy]
                rfl
              have hail : (ai.add k).block < wr.heap.size := World.block_lt_of_cell? wr _ hic
              cases hnull : (x == 0) && nullAt S.cols L k
              · cases hd : dupB L k
                · have HNX := Lib.hid (show loopTo S.cols (x == 0) L (k + 1) = true by rw [loopTo_succ, HLP.out, hnull, hd]; rfl)
                  have hge : ¬ firstI L y < (k : Int) := by rw [hd] at hdup; simpa using hdup.symm
                  have HN2 := Lib.hid hnull
                  have HCU := Lib.hid hcu
                  generalize firstI L y = fi at *
                  clear hnull hd hdup hcu hy HIN
                  rcases eqI x 0 with ⟨p1, p2, p3, p4⟩ | ⟨p1, p2, p3⟩
                  · have hu : c.u = false := by
                      have h := HN2.out
                      rw [show (x == 0) = true by rw [beq_iff_eq]; omega] at h
                      rw [HCU.out]
                      simpa using h
                    rw [hu] at q3
                    gi_wp2_with fail
                    refine ⟨trivial, ?_⟩
                    refine (CallsIn.inRound l (callsIn_wide.2 (HIX.out _ ((Below.refl _ _).alloc (Nat.le_refl _) _)))).mono ?_
                    rintro e w' ⟨rfl, rfl⟩
                    gi_wp2_with fail
                    go_roundw
                    case rel => exact ⟨k + 1, by omega, by go_num, HNX, Lib.hid (HBR.out.alloc hsr _)⟩
                    case measure => simp [intOf]; omega
                  · gi_wp2_with fail
                    refine ⟨trivial, ?_⟩
                    refine (CallsIn.inRound l (callsIn_wide.2 (HIX.out _ ((Below.refl _ _).alloc (Nat.le_refl _) _)))).mono ?_
                    rintro e w' ⟨rfl, rfl⟩
                    gi_wp2_with fail
                    go_roundw
                    case rel => exact ⟨k + 1, by omega, by go_num, HNX, Lib.hid (HBR.out.alloc hsr _)⟩
                    case measure => simp [intOf]; omega
                · have HIN2 := Lib.hid (HALL.out (loopTo_no _ _ _ k hlt (by rw [hnull, hd]; rfl)))
                  have hge : firstI L y < (k : Int) := by rw [hd] at hdup; simpa using hdup.symm
                  have HN2 := Lib.hid hnull
                  have HCU := Lib.hid hcu
                  generalize firstI L y = fi at *
                  clear hnull hd hdup hcu hy HIN
                  rcases eqI x 0 with ⟨p1, p2, p3, p4⟩ | ⟨p1, p2, p3⟩
                  · have hu : c.u = false := by
                      have h := HN2.out
                      rw [show (x == 0) = true by rw [beq_iff_eq]; omega] at h
                      rw [HCU.out]
                      simpa using h
                    rw [hu] at q3
                    gi_wp2_with fail
                    refine ⟨trivial, ?_⟩
                    refine (CallsIn.inRound l (callsIn_wide.2 (HIX.out _ ((Below.refl _ _).alloc (Nat.le_refl _) _)))).mono ?_
                    rintro e w' ⟨rfl, rfl⟩
                    gi_wp2_with fail
                    refine ⟨trivial, ?_⟩
                    refine (CallsIn.inRound l (callsIn_wide.2 (refuse_any _ _))).mono ?_
                    rintro e w3 ⟨b3, rfl, hb3, hcb3, hbw3⟩
                    have hbT : Below W.heap.size W w3 := (HBW.out.alloc (by have := HBW.out.size; omega) _).trans (hbw3.mono (by have := HBW.out.size; simp; omega))
                    have k3 := HCC.out.keep hbT (by omega)
                    have e3 := k3.e0
                    have f3 := k3.ef
                    have HR := Lib.hid (And.intro HIN2.out (CsErr.of HCC.out hbT hcb3 (by have := HBW.out.size; simp at hb3; omega)))
                    have HKP := Lib.hid ((Keep.of_below (B := W0.heap.size) (G := GS p.ou S.uqs) hbT).setCell (p := ⟨w.heap.size + 1, 0, none⟩) (by simp; omega) (fun h => by have := HOU.out _ h; simp at this; omega) (.iface 132 (.pointer (some ⟨b3, 0, none⟩))))
                    clear k3 hbw3 hbT
                    gi_wp2_with fail
                    exact ⟨HKP.out, rfl, HR.out.1, HR.out.2⟩
                  · gi_wp2_with fail
                    refine ⟨trivial, ?_⟩
                    refine (CallsIn.inRound l (callsIn_wide.2 (HIX.out _ ((Below.refl _ _).alloc (Nat.le_refl _) _)))).mono ?_
                    rintro e w' ⟨rfl, rfl⟩
                    gi_wp2_with fail
                    refine ⟨trivial, ?_⟩
                    refine (CallsIn.inRound l (callsIn_wide.2 (refuse_any _ _))).mono ?_
                    rintro e w3 ⟨b3, rfl, hb3, hcb3, hbw3⟩
                    have hbT : Below W.heap.size W w3 := (HBW.out.alloc (by have := HBW.out.size; omega) _).trans (hbw3.mono (by have := HBW.out.size; simp; omega))
                    have k3 := HCC.out.keep hbT (by omega)
                    have e3 := k3.e0
                    have f3 := k3.ef
                    have HR := Lib.hid (And.intro HIN2.out (CsErr.of HCC.out hbT hcb3 (by have := HBW.out.size; simp at hb3; omega)))
                    have HKP := Lib.hid ((Keep.of_below (B := W0.heap.size) (G := GS p.ou S.uqs) hbT).setCell (p := ⟨w.heap.size + 1, 0, none⟩) (by simp; omega) (fun h => by have := HOU.out _ h; simp at this; omega) (.iface 132 (.pointer (some ⟨b3, 0, none⟩))))
                    clear k3 hbw3 hbT
                    gi_wp2_with fail
                    exact ⟨HKP.out, rfl, HR.out.1, HR.out.2⟩
              · have HIN2 := Lib.hid (HALL.out (loopTo_no _ _ _ k hlt (by rw [hnull]; rfl)))
                rw [Bool.and_eq_true] at hnull
                obtain rfl : x = 0 := by simpa using hnull.1
                have hu : c.u = true := by rw [hcu]; exact hnull.2
                rw [hu] at q3
                clear hnull hdup hcu hy HIN
                gi_wp2_with fail
                refine ⟨trivial, ?_⟩
                refine (CallsIn.inRound l (callsIn_wide.2 (refuse_any _ _))).mono ?_
                rintro e w3 ⟨b3, rfl, hb3, hcb3, hbw3⟩
                have hbT : Below W.heap.size W w3 := (HBW.out.alloc (by have := HBW.out.size; omega) _).trans (hbw3.mono (by have := HBW.out.size; simp; omega))
                have k3 := HCC.out.keep hbT (by omega)
                have e3 := k3.e0
                have f3 := k3.ef
                have HR := Lib.hid (And.intro HIN2.out (CsErr.of HCC.out hbT hcb3 (by have := HBW.out.size; simp at hb3; omega)))
                have HKP := Lib.hid ((Keep.of_below (B := W0.heap.size) (G := GS p.ou S.uqs) hbT).setCell (p := ⟨w.heap.size + 1, 0, none⟩) (by simp; omega) (fun h => by have := HOU.out _ h; simp at this; omega) (.iface 132 (.pointer (some ⟨b3, 0, none⟩))))
                clear k3 hbw3 hbT
                gi_wp2_with fail
                exact ⟨HKP.out, rfl, HR.out.1, HR.out.2⟩
            · obtain rfl : k = L.length := by omega
              have HOKS := Lib.hid (show setsTo S (x + 1) = true by rw [HGO.out]; unfold okSet; rw [HIN.out, HLP.out]; simp [h1, h4])
              have HKP := Lib.hid (Keep.of_below (B := W0.heap.size) (G := GS p.ou S.uqs) HBW.out)
              have HCN := Lib.hid (HCC.out.keep HBW.out (by omega))
              clear HIN
              gi_wp2_with fail
              exact ⟨HKP.out, by simpa using HOKS.out, HCN.out⟩
        · have k2 := HCC.out.keep hb2 (by omega)
          have HK2 := Lib.hid k2
          have HIN := Lib.hid (HALL.out (by unfold okSet; rw [hin]; simp))
          have hs2 := hb2.size
          clear hin k2
          gi_wp2_with fail
          refine ⟨trivial, ?_⟩
          refine (CallsIn.inRound l (callsIn_wide.2 (is_mis b w2 hcb2))).mono ?_
          rintro e w' ⟨rfl, rfl⟩
          gi_wp2_with fail
          refine ⟨trivial, ?_⟩
          refine (CallsIn.inRound l (callsIn_wide.2 (refuse_any _ _))).mono ?_
          rintro e w3 ⟨b3, rfl, hb3, hcb3, hbw3⟩
          have k3 := HK2.out.keep hbw3 (by omega)
          have e3 := k3.e0
          have f3 := k3.ef
          have HR := Lib.hid (And.intro HIN.out (CsErr.of HK2.out hbw3 hcb3 hb3))
          have HKP := Lib.hid (((Keep.of_below (B := W0.heap.size) (G := GS p.ou S.uqs) hb2).trans (Keep.of_below hbw3)).setCell (p := ⟨w.heap.size + 1, 0, none⟩) (by simp; omega) (fun h => by have := HOU.out _ h; simp at this; omega) (.iface 132 (.pointer (some ⟨b3, 0, none⟩))))
          clear k3 hb2 hbw3
          gi_wp2_with fail
          exact ⟨HKP.out, rfl, HR.out.1, HR.out.2⟩
      · have HIN := Lib.hid (HALL.out (by unfold okSet; simp [h4]))
        gi_wp2_with fail
        refine ⟨trivial, ?_⟩
        refine (CallsIn.inRound l (callsIn_wide.2 (refuse_any _ _))).mono ?_
        rintro e w3 ⟨b3, rfl, hb3, hcb3, hbw3⟩
        have k3 := HCC.out.keep hbw3 (by omega)
        have e3 := k3.e0
        have f3 := k3.ef
        have HR := Lib.hid (And.intro HIN.out (CsErr.of HCC.out hbw3 hcb3 hb3))
        have HKP := Lib.hid ((Keep.of_below (B := W0.heap.size) (G := GS p.ou S.uqs) hbw3).setCell (p := ⟨w.heap.size + 1, 0, none⟩) (by simp; omega) (fun h => by have := HOU.out _ h; simp at this; omega) (.iface 132 (.pointer (some ⟨b3, 0, none⟩))))
        clear k3 hbw3
        gi_wp2_with fail
        exact ⟨HKP.out, rfl, HR.out.1, HR.out.2⟩
    · have HIN := Lib.hid (HALL.out (by unfold okSet; simp [h1]))
      gi_wp2_with fail
      refine ⟨trivial, ?_⟩
      refine (CallsIn.inRound l (callsIn_wide.2 (refuse_any _ _))).mono ?_
      rintro e w3 ⟨b3, rfl, hb3, hcb3, hbw3⟩
      have k3 := HCC.out.keep hbw3 (by omega)
      have e3 := k3.e0
      have f3 := k3.ef
      have HR := Lib.hid (And.intro HIN.out (CsErr.of HCC.out hbw3 hcb3 hb3))
      have HKP := Lib.hid ((Keep.of_below (B := W0.heap.size) (G := GS p.ou S.uqs) hbw3).setCell (p := ⟨w.heap.size + 1, 0, none⟩) (by simp; omega) (fun h => by have := HOU.out _ h; simp at this; omega) (.iface 132 (.pointer (some ⟨b3, 0, none⟩))))
      clear k3 hbw3
      gi_wp2_with fail
      exact ⟨HKP.out, rfl, HR.out.1, HR.out.2⟩
  case done =>
    rintro xs W rfl ⟨hgood, hc⟩ hD
    rw [List.length_range] at hgood
    have hG := Lib.hid hgood
    have hI := Lib.hid hc
    have e0 := hc.e0
    have ef := hc.ef
    have hz := hc.sz
    clear hgood hc
    gi_wp2
    rw [Exit.noGoto_ret]
    have hD' : (W.setCell ⟨w.heap.size + 1, 0, none⟩ .nilIface).heap[W0.heap.size]? = some (.deferred (some [])) := (Below.heap_setCell _ _ _ _ (by simp; omega)).trans hD
    refine ⟨by simp, .inl ⟨_, _, rfl, run_takeDeferred hD', ?_⟩⟩
    have hcell : ((W.setCell ⟨w.heap.size + 1, 0, none⟩ .nilIface).putObj W0.heap.size (.deferred none)).cell? ⟨w.heap.size + 1, 0, none⟩ = some .nilIface := cell_put (World.cell?_setCell_same' _ _ _ (by rw [hI.out.e0]; rfl)) hD' _
    exact ⟨.nilIface, by simp [results, Tryz.results57, go_sem, hcell], .inl ⟨hG.out, rfl, below_put (hI.out.b.setCell (p := ⟨w.heap.size + 1, 0, none⟩) (by simp) _) (by omega) _⟩⟩
  case stop =>
    rintro c pre W hsp ⟨rfl, hbad, hc⟩ hD
    obtain ⟨b, h1, h2, h3⟩ := hc.ex
    have ef := hc.ef
    have hG := Lib.hid hbad
    have hI := Lib.hid hc
    clear hbad hc
    gi_wp2
    rw [Exit.noGoto_ret]
    have hD' : (W.setCell ⟨w.heap.size + 1, 0, none⟩ (.iface 132 (.pointer (some ⟨b, 0, none⟩)))).heap[W0.heap.size]? = some (.deferred (some [])) := (Below.heap_setCell _ _ _ _ (by simp; omega)).trans hD
    refine ⟨by simp, .inl ⟨_, _, rfl, run_takeDeferred hD', ?_⟩⟩
    have hcell : ((W.setCell ⟨w.heap.size + 1, 0, none⟩ (.iface 132 (.pointer (some ⟨b, 0, none⟩)))).putObj W0.heap.size (.deferred none)).cell? ⟨w.heap.size + 1, 0, none⟩ = some (.iface 132 (.pointer (some ⟨b, 0, none⟩))) := cell_put (World.cell?_setCell_same' _ _ _ (by rw [h1]; rfl)) hD' _
    exact ⟨.iface 132 (.pointer (some ⟨b, 0, none⟩)), by simp [results, Tryz.results57, go_sem, hcell], .inr ⟨hG.out, b, rfl, by omega, cell_put ((World.cell?_setCell_other _ _ _ _ (by intro e; simp at e)).trans h2) hD' _, below_put (hI.out.b.setCell (p := ⟨w.heap.size + 1, 0, none⟩) (by simp) _) (by omega) _⟩⟩
end Go.Proofs.YtjlhbpacecbfmaaGreatDoor
