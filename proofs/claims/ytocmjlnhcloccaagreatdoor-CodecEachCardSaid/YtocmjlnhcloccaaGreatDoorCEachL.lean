/-
  swingbridgelaw04.CodecEach: its walk, of a schema that may be.
-/
import Derived.Test.YtocmjlnhcloccaaGreatDoorCEachR
import Derived.Test.YtocmjlnhcloccaaGreatDoorCEachS
import Derived.Test.YtocmjlnhcloccaaGreatDoorCEachT
import Derived.Test.YtocmjlnhcloccaaGreatDoorCWks
import Derived.Test.YtocmjlnhcloccaaGreatDoorSSch
import Derived.Test.YtocmjlnhcloccaaGreatDoorVOL
import Derived.Test.YtocmjlnhcloccaaGreatDoorWaitX
import Derived.Lib.MinMax
namespace Go.Proofs.YtocmjlnhcloccaaGreatDoor
open Go.RowKit Go.Shelf
attribute [local go_sem] Oper.semAt_some

set_option maxRecDepth 100000 in
set_option maxHeartbeats 8000000 in
theorem ceach_deep (p : SchV) (S : Sch) (oa : Option Addr) (ca : Nat) (bl : List UInt8) (many : Int) (w : World) (hg : HasET w) (hS : SchIn w p S) (m0 : S.cols.length ≤ 9223372036854775807) (m1 : S.key.length ≤ 9223372036854775807) (m2 : S.uqs.length ≤ 9223372036854775807) (m3 : ∀ c ∈ S.cols, c.n.size ≤ 9223372036854775807) (m4 : ∀ l ∈ S.uqs, l.length ≤ 9223372036854775807)
    (hf : fewOk S = true) (hok : schOk S = true) (hb : BytesOf w (.slice oa bl.length ca) bl) (hl1 : bl.length ≤ 1000) (hm0 : -9223372036854775808 ≤ many) (hm1 : many ≤ 9223372036854775807) :
    Calls Tryz.prog 5 #[.agg #[.slice p.oc S.cols.length p.cc, .slice p.ok S.key.length p.ck, .slice p.ou S.uqs.length p.cu], .slice oa bl.length ca, .int .i64 many] w fun e w' => e = .returned (.bool true) ∧ Below w.heap.size w w' := by
  have HWK : Hid (∀ W, Below w.heap.size w W → Calls Tryz.prog 10 #[] W fun e w' => e = .returned (.bool true) ∧ Below W.heap.size W w') := Lib.hid (fun W hb => cworks_true W (hg.below hb hg.lt))
  have hfs := fewOk_spec hf
  have hcl : S.cols.length ≤ 1000 := by have := hfs.cols; omega
  have HFW : Hid (∀ W, Below w.heap.size w W → Calls Tryz.prog 8 #[.agg #[.slice p.oc S.cols.length p.cc, .slice p.ok S.key.length p.ck, .slice p.ou S.uqs.length p.cu]] W fun e w' => e = .returned (.bool true) ∧ Below W.heap.size W w') := Lib.hid (fun W hb => by
    have h := few4_any p S W (hS.keep hb (Nat.le_refl _)) m0 m1 m2 m3 m4
    rwa [hf] at h)
  have HRT : Hid (∀ W, Below w.heap.size w W → Calls Tryz.prog 19 #[.agg #[.slice p.oc S.cols.length p.cc, .slice p.ok S.key.length p.ck, .slice p.ou S.uqs.length p.cu]] W fun e w' => e = .returned (.bool true) ∧ Below W.heap.size W w') := Lib.hid (fun W hb => by
    have h := rRight_any p S W m3 hcl (by have := hfs.uqs; omega) (by have := hfs.key; omega) (fun l hl => by have := hfs.places l hl; omega) (hS.keep hb (Nat.le_refl _))
    rwa [hok] at h)
  have HRD : Hid (∀ (W : World) (i : Nat), Below w.heap.size w W → i ≤ bl.length → Calls Tryz.prog 20 #[.agg #[.slice p.oc S.cols.length p.cc, .slice p.ok S.key.length p.ck, .slice p.ou S.uqs.length p.cu], sliced oa i bl.length ca 1] W (RReadPost (readRow S.cols (bl.drop i)) W)) := Lib.hid (fun W i hW hi => by
    have hcut := sliced_at (hb.at.keep hW (Nat.le_refl _)) hi (Nat.le_refl _)
    rw [List.take_of_length_le (by simp)] at hcut
    obtain ⟨ox, cx, esl, hcx, hcells⟩ := hcut
    rw [esl]
    exact rRead_any p S ox cx (bl.drop i) W hcl (hS.cols.keep hW (Nat.le_refl _)) (cols_sz hok) ⟨ox, cx, rfl, hcx, hcells⟩ (by simp; omega))
  have HEA := Lib.hid (fun W (hW : Below w.heap.size w W) => EachC_ok p S oa ca bl W (hg.below hW hg.lt) m3 hcl hfs.uqs (hS.keep hW (Nat.le_refl _)) hok (hb.keep hW (Nat.le_refl _)) (by omega))
  have HSM : Hid (∀ W v v' vs, vs.length ≤ 1000 → SliceOf W v vs → SliceOf W v' vs → Calls Tryz.prog 17 #[v, v'] W fun e w' => e = .returned (.bool true) ∧ Below W.heap.size W w') := Lib.hid (fun W v v' vs hl hv hv' => (rSame_any _ _ _ _ W hv hv' (by omega) (by omega)).mono fun e w' ⟨he, hb'⟩ => ⟨by rw [he, lists_same]; rfl, hb'⟩)
  have HSL : Hid (∀ (i : Nat) (W : World), i ≤ bl.length → (Instr.sliceAt 31 (.slice oa bl.length ca) (some (.int .i64 (i : Int))) none none).run Tryz.prog W = .ok (sliced oa i bl.length ca 1) W) := Lib.hid (fun i W hi => sl_l oa bl.length ca i W hi)
  have hlen8 := schOk_len hok
  have hcs0 : S.cols ≠ [] := fun e => by rw [e] at hlen8; simp at hlen8
  have HCS := Lib.hid hcs0
  have HZ := Lib.hid (cols_sz hok)
  have HRL := Lib.hid (rowsW_len hcs0 bl bl.length 0 (Nat.zero_le _) (by omega))
  have HGT := Lib.hid hg
  clear hg hS hf hfs hok hb m0 m1 m2 m3 m4 hcs0
  obtain ⟨i3, hi3, hz30, hz31, hz32⟩ := info_parts infoIC
  obtain ⟨i6, hi6, hz60, hz61, hz62⟩ := info_parts infoRC
  have HI3 := Lib.hid hi3
  have HI6 := Lib.hid hi6
  have HZ3 := Lib.hid (And.intro hz30 (And.intro hz31 hz32))
  have HZ6 := Lib.hid (And.intro hz60 (And.intro hz61 hz62))
  clear hi3 hi6 hz30 hz31 hz32 hz60 hz61 hz62
  refine (callsIn_wide (n := 6)).1 ?_
  refine callsIn_of_wp_marks Tryz.func5 rfl trivial ?_ rfl
  simp only [Tryz.ntmps5, List.size_toArray, List.length_cons, List.length_nil, Nat.reduceAdd, Nat.reduceSub, Array.replicate_succ, Array.replicate_zero, List.push_toArray, List.append_toArray, List.nil_append, List.cons_append]
  refine wpIn_wide.2 ?_
  go_upto_region 1 with fail
  obtain ⟨W1, hW1⟩ : ∃ W1, ((w.alloc (.cells #[.slice p.oc S.cols.length p.cc, .slice p.ok S.key.length p.ck, .slice p.ou S.uqs.length p.cu] 26)).alloc (.cells #[.int .i64 many] 3)).alloc (.cells #[.bool false] 4) = W1 := ⟨_, rfl⟩
  have hb1 : Below w.heap.size w W1 := by rw [← hW1]; exact (((Below.refl _ _).alloc (Nat.le_refl _) _).alloc (by simp) _).alloc (by simp; omega) _
  have s0 : W1.heap[w.heap.size]? = some (.cells #[.slice p.oc S.cols.length p.cc, .slice p.ok S.key.length p.ck, .slice p.ou S.uqs.length p.cu] 26 (0, 0)) := by rw [← hW1, Below.heap_alloc _ _ _ (by simp; omega), Below.heap_alloc _ _ _ (by simp)]; exact heap_alloc_at w _
  have a0 : W1.cell? ⟨w.heap.size, 0, none⟩ = some (.slice p.oc S.cols.length p.cc) := by rw [← hW1]; simp [go_sem]
  have a1 : W1.cell? ⟨w.heap.size, 1, none⟩ = some (.slice p.ok S.key.length p.ck) := by rw [← hW1]; simp [go_sem]
  have a2 : W1.cell? ⟨w.heap.size, 2, none⟩ = some (.slice p.ou S.uqs.length p.cu) := by rw [← hW1]; simp [go_sem]
  have b1 : W1.cell? ⟨w.heap.size + 1, 0, none⟩ = some (.int .i64 many) := by rw [← hW1]; simp [go_sem]
  have b2 : W1.cell? ⟨w.heap.size + 2, 0, none⟩ = some (.bool false) := by rw [← hW1]; simp [go_sem]
  have f2 : W1.frozen? ⟨w.heap.size + 2, 0, none⟩ = false := by rw [← hW1]; simp [go_sem]
  have hz1 : W1.heap.size = w.heap.size + 3 := by rw [← hW1]; simp
  rw [hW1]
  clear hW1
  have H1 := Lib.hid (And.intro hb1 (And.intro s0 (And.intro b1 (And.intro b2 f2))))
  clear s0 b1 b2 f2
  have hd1k : decide ((1000 : Int) < (bl.length : Int)) = false := decide_eq_false (by omega)
  go_wp2_with fail
  refine (HFW.out _ hb1).mono ?_
  rintro e wf ⟨rfl, hbf⟩
  have HBF := Lib.hid hbf
  have hzf := hbf.size
  clear hbf a0 a1 a2 hb1
  obtain ⟨N, hN⟩ : ∃ N, wf.heap.size = N := ⟨_, rfl⟩
  go_upto_region 5 with fail
  obtain ⟨W0, hW0⟩ : ∃ W0, (wf.alloc (.cells #[.slice none 0 0] 23)).alloc (.cells #[.slice none 0 0] 49) = W0 := ⟨_, rfl⟩
  have hbW : Below wf.heap.size wf W0 := by rw [← hW0]; exact ((Below.refl _ _).alloc (Nat.le_refl _) _).alloc (by simp) _
  have HS0 : Hid (StC w N #[.slice p.oc S.cols.length p.cc, .slice p.ok S.key.length p.ck, .slice p.ou S.uqs.length p.cu] many W0 (.slice none 0 0) (.slice none 0 0) (.slice none 0 0) (.slice none 0 0) [] [] [] []) := Lib.hid (by
    have hB := HBF.out.trans (hbW.mono HBF.out.size)
    obtain ⟨h1, h2, h3, h4, h5⟩ := H1.out
    have hl1 : w.heap.size < W1.heap.size := by omega
    exact ⟨by omega, (hB.block _ hl1).trans h2, (hB.cell (by show w.heap.size + 1 < _; omega)).trans h3, (hB.cell (by show w.heap.size + 2 < _; omega)).trans h4, (hB.frozen (by show w.heap.size + 2 < _; omega)).trans h5, by rw [← hW0, ← hN]; simp [go_sem], by rw [← hW0, ← hN]; simp [go_sem], by rw [← hW0, ← hN]; simp [go_sem], by rw [← hW0, ← hN]; simp [go_sem], World.ownsRow_nil _ _ _ _, World.ownsRow_nil _ _ _ _, h1.trans (hB.mono (by omega)), ⟨rfl, fun j h1 _ => absurd h1 (by simp)⟩⟩)
  rw [hW0]
  try rw [hN]
  clear hW0 hbW HBF H1
  have hNle : w.heap.size + 3 ≤ N := HS0.out.le
  clear hN hzf hz1
  go_wp2_with fail
  go_loopw [9, 10, 11] (fun x _ _ wr => ∃ (pre : List (Nat × List Vl)) (i : Nat) (lo : List Value) (v5 v6 : Value), x = .int .i64 i ∧ i ≤ bl.length ∧ Hid (pre ++ rowsW S.cols bl i = rowsW S.cols bl 0) ∧ Hid (StC w N #[.slice p.oc S.cols.length p.cc, .slice p.ok S.key.length p.ck, .slice p.ou S.uqs.length p.cu] many wr v5 v6 v5 v6 (kl5C pre) lo lo (pre.map (·.2)))) (fun x _ _ _ => bl.length + 1 - (intOf x).toNat)
  case atStart => exact ⟨[], 0, [], _, _, rfl, by omega, Lib.hid rfl, HS0⟩
  case round =>
    obtain ⟨pre, i, lo, v5, v6, rfl, hi, HP, HS⟩ := hrel
    have x0 := (cells_sch HS.out.sb).1
    have x1 := (cells_sch HS.out.sb).2.1
    have x2 := (cells_sch HS.out.sb).2.2
    go_wp2_with fail
    refine (HRT.out _ HS.out.below).mono ?_
    rintro e w1 ⟨rfl, hb1⟩
    have HS1 := Lib.hid (HS.out.keep hb1)
    clear hb1 HS x0 x1 x2
    have x0 := (cells_sch HS1.out.sb).1
    have x1 := (cells_sch HS1.out.sb).2.1
    have x2 := (cells_sch HS1.out.sb).2.2
    have hi2 : (i : Int) ≤ (bl.length : Int) := by omega
    go_upto_region 7 with fail
    have hsl : ∀ W, (Instr.sliceAt 31 (.slice oa bl.length ca) (some (.int .i64 (i : Int))) none none).run Tryz.prog W = .ok (sliced oa i bl.length ca 1) W := fun W => HSL.out i W hi
    have hrd := HRD.out w1.drew i HS1.out.below.drew hi
    obtain ⟨sv, hsv⟩ : ∃ sv, sliced oa i bl.length ca 1 = sv := ⟨_, rfl⟩
    rw [hsv] at hsl hrd
    clear hsv
    have y0 : w1.drew.cell? ⟨w.heap.size, 0, none⟩ = some (.slice p.oc S.cols.length p.cc) := x0
    have y1 : w1.drew.cell? ⟨w.heap.size, 1, none⟩ = some (.slice p.ok S.key.length p.ck) := x1
    have y2 : w1.drew.cell? ⟨w.heap.size, 2, none⟩ = some (.slice p.ou S.uqs.length p.cu) := x2
    have HSD := Lib.hid HS1.out.drew
    cases hr : readRow S.cols (bl.drop i) with
    | none =>
      rw [hr] at hrd
      have HR : Hid (Calls Tryz.prog 20 #[.agg #[.slice p.oc S.cols.length p.cc, .slice p.ok S.key.length p.ck, .slice p.ou S.uqs.length p.cu], sv] w1.drew fun e w' => e = .returned (.tuple #[.slice none 0 0, .int .i64 0]) ∧ Below w1.drew.heap.size w1.drew w') := Lib.hid hrd
      have HE := Lib.hid (show pre = rowsW S.cols bl 0 by rw [← HP.out, rowsW_none hr, List.append_nil])
      clear hr hrd
      go_region_held3 (fun X => X.cell? ⟨w.heap.size, 0, none⟩ = some (.slice p.oc S.cols.length p.cc) ∧ X.cell? ⟨w.heap.size, 1, none⟩ = some (.slice p.ok S.key.length p.ck) ∧ X.cell? ⟨w.heap.size, 2, none⟩ = some (.slice p.ou S.uqs.length p.cu)) (first | exact ⟨x0, x1, x2⟩ | exact ⟨y0, y1, y2⟩ | assumption) (first | (go_at_call 20; with_reducible refine HR.out.mono ?_; rintro e w2 ⟨rfl, hb2⟩; have hS3 := And.intro (cell_old y0 hb2) (And.intro (cell_old y1 hb2) (cell_old y2 hb2)); have HS2 := Lib.hid (HSD.out.keep hb2); clear hb2))
      clear x0 x1 x2 y0 y1 y2
      have x0 := (cells_sch HS2.out.sb).1
      have x1 := (cells_sch HS2.out.sb).2.1
      have x2 := (cells_sch HS2.out.sb).2.2
      go_wp2_with fail
      refine (HEA.out _ HS2.out.below).mono ?_
      rintro e w3 ⟨cl, co, rfl, ⟨r, oc, cc, od, cd, hcap⟩, hb3⟩
      have HS3 := HS2.out.keep hb3
      obtain ⟨oa5, c5, oa6, c6, hgo⟩ := goC_of HS3
      have HG := Lib.hid hgo
      have HSEQ : Hid (SeqTurnsF Fence.wide 5 Tryz.prog 43 #[.pointer (some ⟨co, 0, none⟩), .pointer (some ⟨cl, 0, none⟩)] encR (fun k => k < w3.heap.size) (fun xs => xs.map tagR = pre) (fun xs => xs.map tagR <+: pre) (fun x W => ValsIn W (some ⟨x.2.1, 0, none⟩) x.2.2) w3) := Lib.hid (by
        have q := eachC_turns 5 (by decide) (HGT.out.below (HS2.out.below.trans (hb3.mono HS2.out.below.size)) HGT.out.lt) hcap (by omega) hcl HCS.out HZ.out
        rw [← HE.out] at q
        exact q)
      have HXL : Hid (∀ x ∈ pre, x.2.length ≤ 1000) := Lib.hid (by rw [HE.out]; exact fun x hx => rowsW_cols _ _ _ x hx hcl)
      have hpn : pre.length ≤ 1000 := by have h := HRL.out; rw [← HE.out] at h; omega
      have h4 := hgo.many
      have hNl := hgo.lt
      clear hcap hb3 HS3 hgo HS2 HP HS1 HR
      have hnf : ∀ W, (binOp .eql 51 (.func (.func 43) #[] #[.pointer (some ⟨co, 0, none⟩), .pointer (some ⟨cl, 0, none⟩)]) .nilFunc).run Tryz.prog W = .ok (.bool false) W := fun W => rfl
      go_wp2_with fail
      refine wp_loop_rounds 3 ?_
      rw [rounds_succ]
      go_wp2_with fail
      obtain ⟨W3, hW3⟩ : ∃ W3, (w3.alloc (.cells #[.int .i64 0] 3)).alloc (.cells #[.int .i64 0] 3) = W3 := ⟨_, rfl⟩
      have HB0 : Hid (Below w3.heap.size w3 W3) := Lib.hid (by rw [← hW3]; exact ((Below.refl _ _).alloc (Nat.le_refl _) _).alloc (by simp) _)
      have hz3 : W3.heap.size = w3.heap.size + 1 + 1 := by rw [← hW3]; simp
      have hz13 : w3.heap.size + 1 < W3.heap.size := by omega
      have hzw : w.heap.size ≤ W3.heap.size := by omega
      have hzw2 : w.heap.size ≤ w3.heap.size := by omega
      have HT0 : Hid (W3.cell? ⟨w3.heap.size, 0, none⟩ = some (.int .i64 0)) := Lib.hid (by rw [← hW3]; simp [go_sem])
      have HEI0 : Hid (EC w W3 (w3.heap.size + 1) 0 W3) := Lib.hid ⟨Nat.le_refl _, fun _ _ _ => rfl, HG.out.below.trans (HB0.out.mono hzw2), by rw [← hW3]; simp [go_sem], by rw [← hW3]; simp [go_sem]⟩
      rw [hW3]
      clear hW3
      refine (wpIn_wide (n := 6)).1 ?_
      refine wpIn_turnsF (F := Fence.wide) (G := (fun k => k < w3.heap.size)) rfl (by decide) (gf := 43) (lb := #[.pointer (some ⟨co, 0, none⟩), .pointer (some ⟨cl, 0, none⟩)]) rfl trivial (enters_of Tryz.func43 (by kernel_rfl) rfl)
        (HSEQ.out.up HB0.out) (fun k hk => by have hk' : k < w3.heap.size := hk; have := HB0.out.size; omega) (fun x => rfl)
        (fun pr W => EC w W3 (w3.heap.size + 1) pr.length W ∧ (pr = [] ∨ (pr.length : Int) < many))
        (fun c pr W => c = .exit 4 ∧ EC w W3 (w3.heap.size + 1) pr.length W ∧ 1 ≤ pr.length ∧ many ≤ pr.length ∧ (pr.length = 1 ∨ (pr.length : Int) - 1 < many))
        (fun s A A' h hb => ⟨h.1.keep hb hz13 hzw, h.2⟩)
        (fun c s A A' h hb => ⟨h.1, h.2.1.keep hb hz13 hzw, h.2.2⟩)
        (fun x W l r o hx hl => vals_loop hx ⟨r, hl⟩ o)
        ⟨HEI0.out, .inl rfl⟩
        (fun x => ({ tmps := #[Value.agg #[Value.slice p.oc S.cols.length p.cc, Value.slice p.ok S.key.length p.ck, Value.slice p.ou S.uqs.length p.cu], Value.slice oa bl.length ca, Value.int .i64 many, Value.pointer (some { block := w.heap.size, off := 0 }), undef, Value.pointer (some { block := w.heap.size + 1, off := 0 }), Value.pointer (some { block := w.heap.size + 1 + 1, off := 0 }), Value.pointer (some { block := N, off := 0 }), Value.pointer (some { block := N + 1, off := 0 }), Value.int .i64 (i : Int), Value.slice none 0 0, Value.int .i64 0, Value.func (.func 43) #[] #[Value.pointer (some { block := co, off := 0 }), Value.pointer (some { block := cl, off := 0 })], Value.pointer (some { block := w3.heap.size, off := 0 }), Value.pointer (some { block := w3.heap.size + 1, off := 0 }), .int .i64 (x.1 : Int), .slice (some ⟨x.2.1, 0, none⟩) x.2.2.length x.2.2.length, Value.agg #[Value.slice p.oc S.cols.length p.cc, Value.slice p.ok S.key.length p.ck, Value.slice p.ou S.uqs.length p.cu], Value.bool true, Value.bool false, Value.bool false, Value.slice oa bl.length ca, Value.int .i64 (bl.length : Int), Value.bool false, Value.bool false, undef, Value.agg #[Value.slice p.oc S.cols.length p.cc, Value.slice p.ok S.key.length p.ck, Value.slice p.ou S.uqs.length p.cu], Value.bool true, Value.bool true, Value.int .i64 (i : Int), Value.slice oa bl.length ca, Value.int .i64 (bl.length : Int), Value.bool true, Value.bool true, Value.tuple #[Value.slice none 0 0, Value.int .i64 0], Value.agg #[Value.slice p.oc S.cols.length p.cc, Value.slice p.ok S.key.length p.ck, Value.slice p.ou S.uqs.length p.cu], Value.slice oa bl.length ca, Value.int .i64 (i : Int), sv, Value.tuple #[Value.slice none 0 0, Value.int .i64 0], Value.slice none 0 0, Value.int .i64 0, Value.int .i64 0, Value.bool true, u44, u45, u46, u47, u48, u49, u50, u51, u52, u53, u54, Value.agg #[Value.slice p.oc S.cols.length p.cc, Value.slice p.ok S.key.length p.ck, Value.slice p.ou S.uqs.length p.cu], Value.slice oa bl.length ca, Value.func (.func 43) #[] #[Value.pointer (some { block := co, off := 0 }), Value.pointer (some { block := cl, off := 0 })], Value.func (.func 43) #[] #[Value.pointer (some { block := co, off := 0 }), Value.pointer (some { block := cl, off := 0 })], Value.bool false, Value.int .i64 0, Value.bool true, undef, undef, Value.func (.func 43) #[] #[Value.pointer (some { block := co, off := 0 }), Value.pointer (some { block := cl, off := 0 })], .int .i64 (x.1 : Int), .slice (some ⟨x.2.1, 0, none⟩) x.2.2.length x.2.2.length, undef, undef, undef, undef, undef, undef, undef, undef, undef, undef, undef, undef, undef, undef, undef, undef, undef, undef, undef, undef, undef, undef, undef, undef, undef, undef, undef, undef, undef, undef, undef, undef, undef, undef, undef, undef, undef, undef, undef, undef, undef, undef, undef, undef, undef, undef, undef, undef, undef, undef, undef, undef, undef], defers := [] } : Act))
        ?assign0 ?body0 ?done0 ?stop0
      case assign0 =>
        intro lp x W K hK
        simp only [encR]
        gi_wp2
        exact hK
      case body0 =>
        rintro l pr x W ⟨hei, hq⟩ hsp hfx hszW
        obtain ⟨hlt, hx⟩ := pre_atC hsp
        have hsz := HB0.out.size
        have up : ∀ q : Addr, q.block < w3.heap.size → W.cell? q = w3.cell? q := fun q hq => (hei.cell (by omega) (by omega)).trans (HB0.out.cell hq)
        have g4 : W.cell? ⟨w.heap.size + 1, 0, none⟩ = some (.int .i64 many) := (up _ (by simp; omega)).trans HG.out.many
        have g5 : W.cell? ⟨N, 0, none⟩ = some (.slice oa5 pre.length c5) := (up _ (by simp; omega)).trans HG.out.at5
        have g6 : W.cell? ⟨N + 1, 0, none⟩ = some (.slice oa6 pre.length c6) := (up _ (by simp; omega)).trans HG.out.at6
        have g12 : W.cell? ⟨w3.heap.size, 0, none⟩ = some (.int .i64 0) := (hei.cell (by simp; omega) (by simp)).trans HT0.out
        have g13 := hei.at13
        have g13F := hei.at13F
        obtain ⟨a5, a6, ob, nb, cb, e5, e6, k5, k6, hs6⟩ := HG.out.els pr.length hlt
        rw [hx] at k5 hs6
        obtain ⟨xi, xb, xv⟩ := x
        simp only [tagR] at k5 hs6 hfx hx
        replace k5 := (up _ (World.block_lt_of_cell? w3 _ k5)).trans k5
        replace k6 := (up _ (World.block_lt_of_cell? w3 _ k6)).trans k6
        have hxl : xv.length ≤ 1000 := by have := HXL.out _ (List.getElem_mem hlt); rw [hx] at this; exact this
        have HSAME := Lib.hid (HSM.out W _ _ xv hxl (slice_vals hfx) (slice_same hs6 (fun k hk => (hei.same k (by omega) (by omega)).trans (HB0.out.block k hk))))
        rw [e5] at g5
        rw [e6] at g6
        have hd : decide ((pre.length : Int) ≤ (pr.length : Int)) = false := by simp; omega
        have hlt2 : (pr.length : Int) < (pre.length : Int) := by omega
        have hlen : (pr ++ [((xi, xb, xv) : RowX)]).length = pr.length + 1 := by simp
        have hnn : ((xi : Int) != (xi : Int)) = false := by simp
        have HQ := Lib.hid hq
        have HLEN := Lib.hid hlen
        have HEIB := Lib.hid hei
        have hz3W := hei.size
        clear hq up e5 e6 hx hsp hlen hfx hs6 hei hxl
        dsimp only
        gi_wp2_with fail
        refine ⟨trivial, ?_⟩
        refine (CallsIn.inRound l (callsIn_wide.2 HSAME.out)).mono ?_
        rintro e w8 ⟨rfl, hb8⟩
        replace g4 := cell_old g4 hb8
        replace g12 := cell_old g12 hb8
        have HEI8 := Lib.hid (HEIB.out.keep (hb8.mono hz3W) hz13 hzw)
        replace g13 := HEI8.out.at13
        replace g13F := HEI8.out.at13F
        have HKP := Lib.hid (fun u => (show Keep W3.heap.size (fun k => k < w3.heap.size) W w8 from ⟨hb8.size, fun k hk _ => hb8.block k hk⟩).setCell (p := ⟨w3.heap.size + 1, 0, none⟩) (show w3.heap.size + 1 < W3.heap.size by omega) (show ¬ (w3.heap.size + 1 < w3.heap.size) by omega) u)
        clear hb8 HSAME k5 k6 g5 g6
        by_cases hmb : many ≤ (pr.length : Int) + 1
        · gi_wp2_with fail
          exact ⟨HKP.out _, rfl, by rw [HLEN.out]; exact HEI8.out.next (by omega), by rw [HLEN.out]; omega, by rw [HLEN.out]; omega, by rw [HLEN.out]; rcases HQ.out with h | h; (· left; rw [h]; rfl); (· right; omega)⟩
        · gi_wp2_with fail
          exact ⟨HKP.out _, by rw [HLEN.out]; exact HEI8.out.next (by omega), .inr (by rw [HLEN.out]; omega)⟩
      case done0 =>
        rintro xs Wa hxs ⟨hei, hq⟩ hD
        have hxl : xs.length = pre.length := by have h := congrArg List.length hxs; simpa using h
        rw [hxl] at hei
        have hq2 : pre = [] ∨ (pre.length : Int) < many := by rcases hq with h | h; (· left; subst h; simp at hxl; exact List.eq_nil_of_length_eq_zero hxl.symm); (· right; omega)
        clear hxs hxl hq
        have hsz := HB0.out.size
        have up : ∀ q : Addr, q.block < w3.heap.size → Wa.cell? q = w3.cell? q := fun q hq => (hei.cell (by omega) (by omega)).trans (HB0.out.cell hq)
        have g4 : Wa.cell? ⟨w.heap.size + 1, 0, none⟩ = some (.int .i64 many) := (up _ (by simp; omega)).trans HG.out.many
        have g5 : Wa.cell? ⟨N, 0, none⟩ = some (.slice oa5 pre.length c5) := (up _ (by simp; omega)).trans HG.out.at5
        have g6 : Wa.cell? ⟨N + 1, 0, none⟩ = some (.slice oa6 pre.length c6) := (up _ (by simp; omega)).trans HG.out.at6
        have g12 : Wa.cell? ⟨w3.heap.size, 0, none⟩ = some (.int .i64 0) := (hei.cell (by simp; omega) (by simp)).trans HT0.out
        have g13 := hei.at13
        have g13F := hei.at13F
        have HEI := Lib.hid hei
        have HD := Lib.hid hD
        obtain ⟨M, hM⟩ : ∃ M, max (1 : Int) many = M := ⟨_, rfl⟩
        have hmn : min (pre.length : Int) M = pre.length := by rcases hq2 with h | h; (· have h' : (pre.length : Int) = 0 := (by rw [h]; rfl); omega); (· omega)
        have hne : ((pre.length : Int) != (pre.length : Int)) = false := by simp
        clear up hei hD hq2
        go_wp2_with fail
        have HUP := Lib.hid (HEI.out.up HG.out.below HB0.out (by omega))
        rw [rounds_succ]
        go_wp2_with fail
        obtain ⟨W4, hW4⟩ : ∃ W4, (Wa.alloc (.cells #[.int .i64 1] 3)).alloc (.cells #[.int .i64 0] 3) = W4 := ⟨_, rfl⟩
        have hzW : w3.heap.size + 1 < Wa.heap.size := by have := HEI.out.size; omega
        have HB1 : Hid (Below w3.heap.size w3 W4) := Lib.hid (by rw [← hW4]; exact (HUP.out.alloc HUP.out.size _).alloc (by have := HUP.out.size; simp; omega) _)
        have hz4 : W4.heap.size = Wa.heap.size + 1 + 1 := by rw [← hW4]; simp
        have hz13 : Wa.heap.size + 1 < W4.heap.size := by omega
        have hzw : w.heap.size ≤ W4.heap.size := by omega
        have HT1 : Hid (W4.cell? ⟨Wa.heap.size, 0, none⟩ = some (.int .i64 1)) := Lib.hid (by rw [← hW4]; simp [go_sem])
        have HEI1 : Hid (EC w W4 (Wa.heap.size + 1) 0 W4) := Lib.hid ⟨Nat.le_refl _, fun _ _ _ => rfl, HG.out.below.trans (HB1.out.mono hzw2), by rw [← hW4]; simp [go_sem], by rw [← hW4]; simp [go_sem]⟩
        have HD4 : Hid (W4.heap[W3.heap.size]? = some (.deferred (some []))) := Lib.hid (by rw [← hW4, Below.heap_alloc _ _ _ (by have := (Array.getElem?_eq_some_iff.1 HD.out).1; simp; omega), Below.heap_alloc _ _ _ (Array.getElem?_eq_some_iff.1 HD.out).1]; exact HD.out)
        try rw [hW4]
        refine (wpIn_wide (n := 6)).1 ?_
        refine wpIn_turnsF (F := Fence.wide) (G := (fun k => k < w3.heap.size)) rfl (by decide) (gf := 43) (lb := #[.pointer (some ⟨co, 0, none⟩), .pointer (some ⟨cl, 0, none⟩)]) rfl trivial (enters_of Tryz.func43 (by kernel_rfl) rfl)
          (HSEQ.out.up HB1.out) (fun k hk => by have hk' : k < w3.heap.size := hk; have := HB1.out.size; omega) (fun x => rfl)
          (fun pr W => EC w W4 (Wa.heap.size + 1) pr.length W ∧ True)
          (fun _ _ _ => False)
          (fun s A A' h hb => ⟨h.1.keep hb hz13 hzw, h.2⟩)
          (fun _ _ _ _ h _ => h)
          (fun x W l r o hx hl => vals_loop hx ⟨r, hl⟩ o)
          ⟨HEI1.out, trivial⟩
          (fun x => ({ tmps := #[Value.agg #[Value.slice p.oc S.cols.length p.cc, Value.slice p.ok S.key.length p.ck, Value.slice p.ou S.uqs.length p.cu], Value.slice oa bl.length ca, Value.int .i64 many, Value.pointer (some { block := w.heap.size, off := 0 }), undef, Value.pointer (some { block := w.heap.size + 1, off := 0 }), Value.pointer (some { block := w.heap.size + 1 + 1, off := 0 }), Value.pointer (some { block := N, off := 0 }), Value.pointer (some { block := N + 1, off := 0 }), Value.int .i64 (i : Int), Value.slice none 0 0, Value.int .i64 0, Value.func (.func 43) #[] #[Value.pointer (some { block := co, off := 0 }), Value.pointer (some { block := cl, off := 0 })], Value.pointer (some { block := Wa.heap.size, off := 0 }), Value.pointer (some { block := Wa.heap.size + 1, off := 0 }), .int .i64 (x.1 : Int), .slice (some ⟨x.2.1, 0, none⟩) x.2.2.length x.2.2.length, Value.agg #[Value.slice p.oc S.cols.length p.cc, Value.slice p.ok S.key.length p.ck, Value.slice p.ou S.uqs.length p.cu], Value.bool true, Value.bool false, Value.bool false, Value.slice oa bl.length ca, Value.int .i64 (bl.length : Int), Value.bool false, Value.bool false, undef, Value.agg #[Value.slice p.oc S.cols.length p.cc, Value.slice p.ok S.key.length p.ck, Value.slice p.ou S.uqs.length p.cu], Value.bool true, Value.bool true, Value.int .i64 (i : Int), Value.slice oa bl.length ca, Value.int .i64 (bl.length : Int), Value.bool true, Value.bool true, Value.tuple #[Value.slice none 0 0, Value.int .i64 0], Value.agg #[Value.slice p.oc S.cols.length p.cc, Value.slice p.ok S.key.length p.ck, Value.slice p.ou S.uqs.length p.cu], Value.slice oa bl.length ca, Value.int .i64 (i : Int), sv, Value.tuple #[Value.slice none 0 0, Value.int .i64 0], Value.slice none 0 0, Value.int .i64 0, Value.int .i64 0, Value.bool true, u44, u45, u46, u47, u48, u49, u50, u51, u52, u53, u54, Value.agg #[Value.slice p.oc S.cols.length p.cc, Value.slice p.ok S.key.length p.ck, Value.slice p.ou S.uqs.length p.cu], Value.slice oa bl.length ca, Value.func (.func 43) #[] #[Value.pointer (some { block := co, off := 0 }), Value.pointer (some { block := cl, off := 0 })], Value.func (.func 43) #[] #[Value.pointer (some { block := co, off := 0 }), Value.pointer (some { block := cl, off := 0 })], Value.bool false, Value.int .i64 1, Value.bool true, Value.int .i64 0, Value.int .i64 1, Value.func (.func 43) #[] #[Value.pointer (some { block := co, off := 0 }), Value.pointer (some { block := cl, off := 0 })], .int .i64 (x.1 : Int), .slice (some ⟨x.2.1, 0, none⟩) x.2.2.length x.2.2.length, undef, undef, undef, undef, undef, undef, undef, undef, undef, undef, undef, undef, undef, undef, undef, undef, undef, undef, undef, undef, undef, undef, undef, undef, undef, undef, undef, undef, undef, undef, Value.int .i64 0, Value.bool true, Value.bool true, Value.int .i64 ↑pre.length, Value.slice oa6 pre.length c6, Value.int .i64 ↑pre.length, Value.int .i64 many, Value.int .i64 M, Value.int .i64 ↑pre.length, Value.bool false, Value.bool false, Value.bool false, Value.int .i64 0, Value.bool false, Value.bool false, undef, undef, undef, undef, Value.bool false, Value.bool false, Value.int .i64 0, undef], defers := [] } : Act))
          ?assign1 ?body1 ?done1 ?stop1
        case assign1 =>
          intro lp x W K hK
          simp only [encR]
          gi_wp2
          exact hK
        case body1 =>
          rintro l pr x W ⟨hei, hq⟩ hsp hfx hszW
          obtain ⟨hlt, hx⟩ := pre_atC hsp
          have hsz := HB1.out.size
          have up : ∀ q : Addr, q.block < w3.heap.size → W.cell? q = w3.cell? q := fun q hq => (hei.cell (by omega) (by omega)).trans (HB1.out.cell hq)
          have g4 : W.cell? ⟨w.heap.size + 1, 0, none⟩ = some (.int .i64 many) := (up _ (by simp; omega)).trans HG.out.many
          have g5 : W.cell? ⟨N, 0, none⟩ = some (.slice oa5 pre.length c5) := (up _ (by simp; omega)).trans HG.out.at5
          have g6 : W.cell? ⟨N + 1, 0, none⟩ = some (.slice oa6 pre.length c6) := (up _ (by simp; omega)).trans HG.out.at6
          have g12 : W.cell? ⟨Wa.heap.size, 0, none⟩ = some (.int .i64 1) := (hei.cell (by simp; omega) (by simp)).trans HT1.out
          have g13 := hei.at13
          have g13F := hei.at13F
          obtain ⟨a5, a6, ob, nb, cb, e5, e6, k5, k6, hs6⟩ := HG.out.els pr.length hlt
          rw [hx] at k5 hs6
          obtain ⟨xi, xb, xv⟩ := x
          simp only [tagR] at k5 hs6 hfx hx
          replace k5 := (up _ (World.block_lt_of_cell? w3 _ k5)).trans k5
          replace k6 := (up _ (World.block_lt_of_cell? w3 _ k6)).trans k6
          have hxl : xv.length ≤ 1000 := by have := HXL.out _ (List.getElem_mem hlt); rw [hx] at this; exact this
          have HSAME := Lib.hid (HSM.out W _ _ xv hxl (slice_vals hfx) (slice_same hs6 (fun k hk => (hei.same k (by omega) (by omega)).trans (HB1.out.block k hk))))
          rw [e5] at g5
          rw [e6] at g6
          have hd : decide ((pre.length : Int) ≤ (pr.length : Int)) = false := by simp; omega
          have hlt2 : (pr.length : Int) < (pre.length : Int) := by omega
          have hlen : (pr ++ [((xi, xb, xv) : RowX)]).length = pr.length + 1 := by simp
          have hnn : ((xi : Int) != (xi : Int)) = false := by simp
          have HQ := Lib.hid hq
          have HLEN := Lib.hid hlen
          have HEIB := Lib.hid hei
          have hz3W := hei.size
          clear hq up e5 e6 hx hsp hlen hfx hs6 hei hxl
          dsimp only
          gi_wp2_with fail
          refine ⟨trivial, ?_⟩
          refine (CallsIn.inRound l (callsIn_wide.2 HSAME.out)).mono ?_
          rintro e w8 ⟨rfl, hb8⟩
          replace g4 := cell_old g4 hb8
          replace g12 := cell_old g12 hb8
          have HEI8 := Lib.hid (HEIB.out.keep (hb8.mono hz3W) hz13 hzw)
          replace g13 := HEI8.out.at13
          replace g13F := HEI8.out.at13F
          have HKP := Lib.hid (fun u => (show Keep W4.heap.size (fun k => k < w3.heap.size) W w8 from ⟨hb8.size, fun k hk _ => hb8.block k hk⟩).setCell (p := ⟨Wa.heap.size + 1, 0, none⟩) (show Wa.heap.size + 1 < W4.heap.size by omega) (show ¬ (Wa.heap.size + 1 < w3.heap.size) by omega) u)
          clear hb8 HSAME k5 k6 g5 g6
          gi_wp2_with fail
          exact ⟨HKP.out _, by rw [HLEN.out]; exact HEI8.out.next (by omega), trivial⟩
        case done1 =>
          rintro xs Wb hxs ⟨hei, _⟩ hD
          have hxl : xs.length = pre.length := by have h := congrArg List.length hxs; simpa using h
          rw [hxl] at hei
          clear hxs hxl
          have hsz := HB1.out.size
          have up : ∀ q : Addr, q.block < w3.heap.size → Wb.cell? q = w3.cell? q := fun q hq => (hei.cell (by omega) (by omega)).trans (HB1.out.cell hq)
          have g4 : Wb.cell? ⟨w.heap.size + 1, 0, none⟩ = some (.int .i64 many) := (up _ (by simp; omega)).trans HG.out.many
          have g5 : Wb.cell? ⟨N, 0, none⟩ = some (.slice oa5 pre.length c5) := (up _ (by simp; omega)).trans HG.out.at5
          have g6 : Wb.cell? ⟨N + 1, 0, none⟩ = some (.slice oa6 pre.length c6) := (up _ (by simp; omega)).trans HG.out.at6
          have g12 : Wb.cell? ⟨Wa.heap.size, 0, none⟩ = some (.int .i64 1) := (hei.cell (by simp; omega) (by simp)).trans HT1.out
          have g13 := hei.at13
          have g13F := hei.at13F
          have HEIb := Lib.hid hei
          have HDb := Lib.hid hD
          have hne : ((pre.length : Int) != (pre.length : Int)) = false := by simp
          clear up hei hD
          go_wp2_with fail
          rw [rounds_succ]
          go_wp2_with fail
          have HUPb := Lib.hid (HEIb.out.up HG.out.below HB1.out (by omega))
          refine (HWK.out (Wb.alloc (.cells #[.int .i64 2] 3)) (HEIb.out.below.alloc (by have := HEIb.out.size; omega) _)).mono ?_
          rintro e w9 ⟨rfl, hb9⟩
          have HB9 := Lib.hid ((HUPb.out.alloc HUPb.out.size (.cells #[.int .i64 2] 3)).trans (hb9.mono (by have := HUPb.out.size; simp; omega)))
          have r0 : w9.cell? ⟨w.heap.size + 2, 0, none⟩ = some (.bool false) := by rw [HB9.out.cell (by simp; omega)]; exact HG.out.res
          have r0F : w9.frozen? ⟨w.heap.size + 2, 0, none⟩ = false := by rw [HB9.out.frozen (by simp; omega)]; exact HG.out.resF
          have hlb := (Array.getElem?_eq_some_iff.1 HDb.out).1
          have hla := (Array.getElem?_eq_some_iff.1 HD4.out).1
          have hl3 := (Array.getElem?_eq_some_iff.1 HD.out).1
          have D1 : w9.heap[W4.heap.size]? = some (.deferred (some [])) := (hb9.block _ (by simp; omega)).trans ((Below.heap_alloc _ _ _ hlb).trans HDb.out)
          have D0 : w9.heap[W3.heap.size]? = some (.deferred (some [])) := (hb9.block _ (by have := HEIb.out.size; simp; omega)).trans ((Below.heap_alloc _ _ _ (by have := HEIb.out.size; omega)).trans ((HEIb.out.same _ hla (by omega)).trans HD4.out))
          have HD1 := Lib.hid D1
          have HD0 := Lib.hid D0
          clear hb9 D1 D0
          go_wp2_with fail
          have e1 : (w9.setCell ⟨w.heap.size + 2, 0, none⟩ (.bool true)).heap[W4.heap.size]? = some (.deferred (some [])) := (Below.heap_setCell _ _ _ _ (by simp; omega)).trans HD1.out
          have e0 : (w9.setCell ⟨w.heap.size + 2, 0, none⟩ (.bool true)).heap[W3.heap.size]? = some (.deferred (some [])) := (Below.heap_setCell _ _ _ _ (by simp; omega)).trans HD0.out
          have hz43 : W4.heap.size ≠ W3.heap.size := by omega
          try (rw [hz4] at e1)
          try (rw [hz3] at e0)
          refine ⟨by simp, .inl ⟨_, _, rfl, run_takeDeferred e1, ?_⟩⟩
          have e2 : ((w9.setCell ⟨w.heap.size + 2, 0, none⟩ (.bool true)).putObj (Wa.heap.size + 1 + 1) (.deferred none)).heap[w3.heap.size + 1 + 1]? = some (.deferred (some [])) := (World.putObj_heap_other (by omega)).trans e0
          refine ⟨by simp, .inl ⟨_, _, rfl, run_takeDeferred e2, ?_⟩⟩
          have hcell : (((w9.setCell ⟨w.heap.size + 2, 0, none⟩ (.bool true)).putObj (Wa.heap.size + 1 + 1) (.deferred none)).putObj (w3.heap.size + 1 + 1) (.deferred none)).cell? ⟨w.heap.size + 2, 0, none⟩ = some (.bool true) := cell_put (cell_put (World.cell?_setCell_same' _ _ _ (by rw [r0]; rfl)) e1 _) e2 _
          exact ⟨.bool true, by simp [results, Tryz.results5, go_sem, hcell], rfl, below_putC (below_putC ((HG.out.below.trans (HB9.out.mono hzw2)).setCell (p := ⟨w.heap.size + 2, 0, none⟩) (by simp) _) (by omega) _) (by omega) _⟩
        case stop1 =>
          intro c pr W _ hix
          exact hix.elim
      case stop0 =>
        rintro c pr Wa hsp ⟨rfl, hei, q1, q2, q3⟩ hD
        have hpl := pre_leC hsp
        have hsz := HB0.out.size
        have up : ∀ q : Addr, q.block < w3.heap.size → Wa.cell? q = w3.cell? q := fun q hq => (hei.cell (by omega) (by omega)).trans (HB0.out.cell hq)
        have g4 : Wa.cell? ⟨w.heap.size + 1, 0, none⟩ = some (.int .i64 many) := (up _ (by simp; omega)).trans HG.out.many
        have g5 : Wa.cell? ⟨N, 0, none⟩ = some (.slice oa5 pre.length c5) := (up _ (by simp; omega)).trans HG.out.at5
        have g6 : Wa.cell? ⟨N + 1, 0, none⟩ = some (.slice oa6 pre.length c6) := (up _ (by simp; omega)).trans HG.out.at6
        have g12 : Wa.cell? ⟨w3.heap.size, 0, none⟩ = some (.int .i64 0) := (hei.cell (by simp; omega) (by simp)).trans HT0.out
        have g13 := hei.at13
        have g13F := hei.at13F
        have HEI := Lib.hid hei
        have HD := Lib.hid hD
        obtain ⟨M, hM⟩ : ∃ M, max (1 : Int) many = M := ⟨_, rfl⟩
        have hmn : min (pre.length : Int) M = (pr.length : Int) := by omega
        have hne : ((pr.length : Int) != (pr.length : Int)) = false := by simp
        clear up hei hD hsp q1 q2 q3
        refine wpIn_wide.2 ?_
        go_wp2_with fail
        have HUP := Lib.hid (HEI.out.up HG.out.below HB0.out (by omega))
        rw [rounds_succ]
        go_wp2_with fail
        obtain ⟨W4, hW4⟩ : ∃ W4, (Wa.alloc (.cells #[.int .i64 1] 3)).alloc (.cells #[.int .i64 0] 3) = W4 := ⟨_, rfl⟩
        have hzW : w3.heap.size + 1 < Wa.heap.size := by have := HEI.out.size; omega
        have HB1 : Hid (Below w3.heap.size w3 W4) := Lib.hid (by rw [← hW4]; exact (HUP.out.alloc HUP.out.size _).alloc (by have := HUP.out.size; simp; omega) _)
        have hz4 : W4.heap.size = Wa.heap.size + 1 + 1 := by rw [← hW4]; simp
        have hz13 : Wa.heap.size + 1 < W4.heap.size := by omega
        have hzw : w.heap.size ≤ W4.heap.size := by omega
        have HT1 : Hid (W4.cell? ⟨Wa.heap.size, 0, none⟩ = some (.int .i64 1)) := Lib.hid (by rw [← hW4]; simp [go_sem])
        have HEI1 : Hid (EC w W4 (Wa.heap.size + 1) 0 W4) := Lib.hid ⟨Nat.le_refl _, fun _ _ _ => rfl, HG.out.below.trans (HB1.out.mono hzw2), by rw [← hW4]; simp [go_sem], by rw [← hW4]; simp [go_sem]⟩
        have HD4 : Hid (W4.heap[W3.heap.size]? = some (.deferred (some []))) := Lib.hid (by rw [← hW4, Below.heap_alloc _ _ _ (by have := (Array.getElem?_eq_some_iff.1 HD.out).1; simp; omega), Below.heap_alloc _ _ _ (Array.getElem?_eq_some_iff.1 HD.out).1]; exact HD.out)
        try rw [hW4]
        refine (wpIn_wide (n := 6)).1 ?_
        refine wpIn_turnsF (F := Fence.wide) (G := (fun k => k < w3.heap.size)) rfl (by decide) (gf := 43) (lb := #[.pointer (some ⟨co, 0, none⟩), .pointer (some ⟨cl, 0, none⟩)]) rfl trivial (enters_of Tryz.func43 (by kernel_rfl) rfl)
          (HSEQ.out.up HB1.out) (fun k hk => by have hk' : k < w3.heap.size := hk; have := HB1.out.size; omega) (fun x => rfl)
          (fun pr W => EC w W4 (Wa.heap.size + 1) pr.length W ∧ True)
          (fun _ _ _ => False)
          (fun s A A' h hb => ⟨h.1.keep hb hz13 hzw, h.2⟩)
          (fun _ _ _ _ h _ => h)
          (fun x W l r o hx hl => vals_loop hx ⟨r, hl⟩ o)
          ⟨HEI1.out, trivial⟩
          (fun x => ({ tmps := #[Value.agg #[Value.slice p.oc S.cols.length p.cc, Value.slice p.ok S.key.length p.ck, Value.slice p.ou S.uqs.length p.cu], Value.slice oa bl.length ca, Value.int .i64 many, Value.pointer (some { block := w.heap.size, off := 0 }), undef, Value.pointer (some { block := w.heap.size + 1, off := 0 }), Value.pointer (some { block := w.heap.size + 1 + 1, off := 0 }), Value.pointer (some { block := N, off := 0 }), Value.pointer (some { block := N + 1, off := 0 }), Value.int .i64 (i : Int), Value.slice none 0 0, Value.int .i64 0, Value.func (.func 43) #[] #[Value.pointer (some { block := co, off := 0 }), Value.pointer (some { block := cl, off := 0 })], Value.pointer (some { block := Wa.heap.size, off := 0 }), Value.pointer (some { block := Wa.heap.size + 1, off := 0 }), .int .i64 (x.1 : Int), .slice (some ⟨x.2.1, 0, none⟩) x.2.2.length x.2.2.length, Value.agg #[Value.slice p.oc S.cols.length p.cc, Value.slice p.ok S.key.length p.ck, Value.slice p.ou S.uqs.length p.cu], Value.bool true, Value.bool false, Value.bool false, Value.slice oa bl.length ca, Value.int .i64 (bl.length : Int), Value.bool false, Value.bool false, undef, Value.agg #[Value.slice p.oc S.cols.length p.cc, Value.slice p.ok S.key.length p.ck, Value.slice p.ou S.uqs.length p.cu], Value.bool true, Value.bool true, Value.int .i64 (i : Int), Value.slice oa bl.length ca, Value.int .i64 (bl.length : Int), Value.bool true, Value.bool true, Value.tuple #[Value.slice none 0 0, Value.int .i64 0], Value.agg #[Value.slice p.oc S.cols.length p.cc, Value.slice p.ok S.key.length p.ck, Value.slice p.ou S.uqs.length p.cu], Value.slice oa bl.length ca, Value.int .i64 (i : Int), sv, Value.tuple #[Value.slice none 0 0, Value.int .i64 0], Value.slice none 0 0, Value.int .i64 0, Value.int .i64 0, Value.bool true, u44, u45, u46, u47, u48, u49, u50, u51, u52, u53, u54, Value.agg #[Value.slice p.oc S.cols.length p.cc, Value.slice p.ok S.key.length p.ck, Value.slice p.ou S.uqs.length p.cu], Value.slice oa bl.length ca, Value.func (.func 43) #[] #[Value.pointer (some { block := co, off := 0 }), Value.pointer (some { block := cl, off := 0 })], Value.func (.func 43) #[] #[Value.pointer (some { block := co, off := 0 }), Value.pointer (some { block := cl, off := 0 })], Value.bool false, Value.int .i64 1, Value.bool true, Value.int .i64 0, Value.int .i64 1, Value.func (.func 43) #[] #[Value.pointer (some { block := co, off := 0 }), Value.pointer (some { block := cl, off := 0 })], .int .i64 (x.1 : Int), .slice (some ⟨x.2.1, 0, none⟩) x.2.2.length x.2.2.length, undef, undef, undef, undef, undef, undef, undef, undef, undef, undef, undef, undef, undef, undef, undef, undef, undef, undef, undef, undef, undef, undef, undef, undef, undef, undef, undef, undef, undef, undef, Value.int .i64 0, Value.bool true, Value.bool true, Value.int .i64 ↑pr.length, Value.slice oa6 pre.length c6, Value.int .i64 ↑pre.length, Value.int .i64 many, Value.int .i64 M, Value.int .i64 ↑pr.length, Value.bool false, Value.bool false, Value.bool false, Value.int .i64 0, Value.bool false, Value.bool false, undef, undef, undef, undef, Value.bool false, Value.bool false, Value.int .i64 0, undef], defers := [] } : Act))
          ?assign1 ?body1 ?done1 ?stop1
        case assign1 =>
          intro lp x W K hK
          simp only [encR]
          gi_wp2
          exact hK
        case body1 =>
          rintro l pr x W ⟨hei, hq⟩ hsp hfx hszW
          obtain ⟨hlt, hx⟩ := pre_atC hsp
          have hsz := HB1.out.size
          have up : ∀ q : Addr, q.block < w3.heap.size → W.cell? q = w3.cell? q := fun q hq => (hei.cell (by omega) (by omega)).trans (HB1.out.cell hq)
          have g4 : W.cell? ⟨w.heap.size + 1, 0, none⟩ = some (.int .i64 many) := (up _ (by simp; omega)).trans HG.out.many
          have g5 : W.cell? ⟨N, 0, none⟩ = some (.slice oa5 pre.length c5) := (up _ (by simp; omega)).trans HG.out.at5
          have g6 : W.cell? ⟨N + 1, 0, none⟩ = some (.slice oa6 pre.length c6) := (up _ (by simp; omega)).trans HG.out.at6
          have g12 : W.cell? ⟨Wa.heap.size, 0, none⟩ = some (.int .i64 1) := (hei.cell (by simp; omega) (by simp)).trans HT1.out
          have g13 := hei.at13
          have g13F := hei.at13F
          obtain ⟨a5, a6, ob, nb, cb, e5, e6, k5, k6, hs6⟩ := HG.out.els pr.length hlt
          rw [hx] at k5 hs6
          obtain ⟨xi, xb, xv⟩ := x
          simp only [tagR] at k5 hs6 hfx hx
          replace k5 := (up _ (World.block_lt_of_cell? w3 _ k5)).trans k5
          replace k6 := (up _ (World.block_lt_of_cell? w3 _ k6)).trans k6
          have hxl : xv.length ≤ 1000 := by have := HXL.out _ (List.getElem_mem hlt); rw [hx] at this; exact this
          have HSAME := Lib.hid (HSM.out W _ _ xv hxl (slice_vals hfx) (slice_same hs6 (fun k hk => (hei.same k (by omega) (by omega)).trans (HB1.out.block k hk))))
          rw [e5] at g5
          rw [e6] at g6
          have hd : decide ((pre.length : Int) ≤ (pr.length : Int)) = false := by simp; omega
          have hlt2 : (pr.length : Int) < (pre.length : Int) := by omega
          have hlen : (pr ++ [((xi, xb, xv) : RowX)]).length = pr.length + 1 := by simp
          have hnn : ((xi : Int) != (xi : Int)) = false := by simp
          have HQ := Lib.hid hq
          have HLEN := Lib.hid hlen
          have HEIB := Lib.hid hei
          have hz3W := hei.size
          clear hq up e5 e6 hx hsp hlen hfx hs6 hei hxl
          dsimp only
          gi_wp2_with fail
          refine ⟨trivial, ?_⟩
          refine (CallsIn.inRound l (callsIn_wide.2 HSAME.out)).mono ?_
          rintro e w8 ⟨rfl, hb8⟩
          replace g4 := cell_old g4 hb8
          replace g12 := cell_old g12 hb8
          have HEI8 := Lib.hid (HEIB.out.keep (hb8.mono hz3W) hz13 hzw)
          replace g13 := HEI8.out.at13
          replace g13F := HEI8.out.at13F
          have HKP := Lib.hid (fun u => (show Keep W4.heap.size (fun k => k < w3.heap.size) W w8 from ⟨hb8.size, fun k hk _ => hb8.block k hk⟩).setCell (p := ⟨Wa.heap.size + 1, 0, none⟩) (show Wa.heap.size + 1 < W4.heap.size by omega) (show ¬ (Wa.heap.size + 1 < w3.heap.size) by omega) u)
          clear hb8 HSAME k5 k6 g5 g6
          gi_wp2_with fail
          exact ⟨HKP.out _, by rw [HLEN.out]; exact HEI8.out.next (by omega), trivial⟩
        case done1 =>
          rintro xs Wb hxs ⟨hei, _⟩ hD
          have hxl : xs.length = pre.length := by have h := congrArg List.length hxs; simpa using h
          rw [hxl] at hei
          clear hxs hxl
          have hsz := HB1.out.size
          have up : ∀ q : Addr, q.block < w3.heap.size → Wb.cell? q = w3.cell? q := fun q hq => (hei.cell (by omega) (by omega)).trans (HB1.out.cell hq)
          have g4 : Wb.cell? ⟨w.heap.size + 1, 0, none⟩ = some (.int .i64 many) := (up _ (by simp; omega)).trans HG.out.many
          have g5 : Wb.cell? ⟨N, 0, none⟩ = some (.slice oa5 pre.length c5) := (up _ (by simp; omega)).trans HG.out.at5
          have g6 : Wb.cell? ⟨N + 1, 0, none⟩ = some (.slice oa6 pre.length c6) := (up _ (by simp; omega)).trans HG.out.at6
          have g12 : Wb.cell? ⟨Wa.heap.size, 0, none⟩ = some (.int .i64 1) := (hei.cell (by simp; omega) (by simp)).trans HT1.out
          have g13 := hei.at13
          have g13F := hei.at13F
          have HEIb := Lib.hid hei
          have HDb := Lib.hid hD
          have hne : ((pre.length : Int) != (pre.length : Int)) = false := by simp
          clear up hei hD
          go_wp2_with fail
          rw [rounds_succ]
          go_wp2_with fail
          have HUPb := Lib.hid (HEIb.out.up HG.out.below HB1.out (by omega))
          refine (HWK.out (Wb.alloc (.cells #[.int .i64 2] 3)) (HEIb.out.below.alloc (by have := HEIb.out.size; omega) _)).mono ?_
          rintro e w9 ⟨rfl, hb9⟩
          have HB9 := Lib.hid ((HUPb.out.alloc HUPb.out.size (.cells #[.int .i64 2] 3)).trans (hb9.mono (by have := HUPb.out.size; simp; omega)))
          have r0 : w9.cell? ⟨w.heap.size + 2, 0, none⟩ = some (.bool false) := by rw [HB9.out.cell (by simp; omega)]; exact HG.out.res
          have r0F : w9.frozen? ⟨w.heap.size + 2, 0, none⟩ = false := by rw [HB9.out.frozen (by simp; omega)]; exact HG.out.resF
          have hlb := (Array.getElem?_eq_some_iff.1 HDb.out).1
          have hla := (Array.getElem?_eq_some_iff.1 HD4.out).1
          have hl3 := (Array.getElem?_eq_some_iff.1 HD.out).1
          have D1 : w9.heap[W4.heap.size]? = some (.deferred (some [])) := (hb9.block _ (by simp; omega)).trans ((Below.heap_alloc _ _ _ hlb).trans HDb.out)
          have D0 : w9.heap[W3.heap.size]? = some (.deferred (some [])) := (hb9.block _ (by have := HEIb.out.size; simp; omega)).trans ((Below.heap_alloc _ _ _ (by have := HEIb.out.size; omega)).trans ((HEIb.out.same _ hla (by omega)).trans HD4.out))
          have HD1 := Lib.hid D1
          have HD0 := Lib.hid D0
          clear hb9 D1 D0
          go_wp2_with fail
          have e1 : (w9.setCell ⟨w.heap.size + 2, 0, none⟩ (.bool true)).heap[W4.heap.size]? = some (.deferred (some [])) := (Below.heap_setCell _ _ _ _ (by simp; omega)).trans HD1.out
          have e0 : (w9.setCell ⟨w.heap.size + 2, 0, none⟩ (.bool true)).heap[W3.heap.size]? = some (.deferred (some [])) := (Below.heap_setCell _ _ _ _ (by simp; omega)).trans HD0.out
          have hz43 : W4.heap.size ≠ W3.heap.size := by omega
          try (rw [hz4] at e1)
          try (rw [hz3] at e0)
          refine ⟨by simp, .inl ⟨_, _, rfl, run_takeDeferred e1, ?_⟩⟩
          have e2 : ((w9.setCell ⟨w.heap.size + 2, 0, none⟩ (.bool true)).putObj (Wa.heap.size + 1 + 1) (.deferred none)).heap[w3.heap.size + 1 + 1]? = some (.deferred (some [])) := (World.putObj_heap_other (by omega)).trans e0
          refine ⟨by simp, .inl ⟨_, _, rfl, run_takeDeferred e2, ?_⟩⟩
          have hcell : (((w9.setCell ⟨w.heap.size + 2, 0, none⟩ (.bool true)).putObj (Wa.heap.size + 1 + 1) (.deferred none)).putObj (w3.heap.size + 1 + 1) (.deferred none)).cell? ⟨w.heap.size + 2, 0, none⟩ = some (.bool true) := cell_put (cell_put (World.cell?_setCell_same' _ _ _ (by rw [r0]; rfl)) e1 _) e2 _
          exact ⟨.bool true, by simp [results, Tryz.results5, go_sem, hcell], rfl, below_putC (below_putC ((HG.out.below.trans (HB9.out.mono hzw2)).setCell (p := ⟨w.heap.size + 2, 0, none⟩) (by simp) _) (by omega) _) (by omega) _⟩
        case stop1 =>
          intro c pr W _ hix
          exact hix.elim
    | some x =>
      obtain ⟨vs, k⟩ := x
      rw [hr] at hrd
      have HR : Hid (Calls Tryz.prog 20 #[.agg #[.slice p.oc S.cols.length p.cc, .slice p.ok S.key.length p.ck, .slice p.ou S.uqs.length p.cu], sv] w1.drew fun e w' => ∃ ob nb cb, e = .returned (.tuple #[.slice ob nb cb, .int .i64 k]) ∧ Hid (RowT N w' (.slice ob nb cb) vs ∧ Below w1.drew.heap.size w1.drew w')) := Lib.hid (hrd.mono (by
        rintro e w' ⟨v, rfl, ⟨hv, ht⟩, hb'⟩
        have hz := HS1.out.size
        have hT : RowT N w' v vs := ⟨hv, fun g hg => ⟨by have h := (ht g hg).1; have h' : w1.heap.size ≤ g := h; omega, (ht g hg).2⟩⟩
        rcases hv with ⟨rfl, _⟩ | ⟨a, c, rfl, _⟩
        · exact ⟨_, _, _, rfl, Lib.hid ⟨hT, hb'⟩⟩
        · exact ⟨_, _, _, rfl, Lib.hid ⟨hT, hb'⟩⟩))
      have HN := Lib.hid (rows_next HCS.out hr hi HP.out)
      have hk1 := (row_in HCS.out hr hi).1
      have hk2 := (row_in HCS.out hr hi).2.1
      have hk0 : ((k : Int) == 0) = false := by rw [beq_eq_false_iff_ne]; omega
      clear hr hrd
      go_region_held3 (fun X => X.cell? ⟨w.heap.size, 0, none⟩ = some (.slice p.oc S.cols.length p.cc) ∧ X.cell? ⟨w.heap.size, 1, none⟩ = some (.slice p.ok S.key.length p.ck) ∧ X.cell? ⟨w.heap.size, 2, none⟩ = some (.slice p.ou S.uqs.length p.cu)) (first | exact ⟨x0, x1, x2⟩ | exact ⟨y0, y1, y2⟩ | assumption) (first | (go_at_call 20; with_reducible refine HR.out.mono ?_; rintro e w2 ⟨ob, nb, cb, rfl, H2⟩; have hS3 := And.intro (cell_old y0 H2.out.2) (And.intro (cell_old y1 H2.out.2) (cell_old y2 H2.out.2)); have HS2 := Lib.hid ((HSD.out.keep H2.out.2).row H2.out.1)))
      clear x0 x1 x2 y0 y1 y2 HS1 HR
      go_upto_region 9 with fail
      have HS := HS2
      clear HS2
      obtain ⟨wq, hwq⟩ : ∃ wq, w2 = wq := ⟨_, rfl⟩
      subst hwq
      have h5 := HS.out.at5
      have h6 := HS.out.at6
      have hpl : pre.length ≤ 1000 := by have h := congrArg List.length HP.out; have h2 := HRL.out; rw [List.length_append] at h; omega
      have hl5 : (kl5C pre).length ≤ 1000 := by simp [kl5C]; omega
      have hlo : lo.length ≤ 1000 := by have h := HS.out.rws.1; simp at h; omega
      have HL5 := Lib.hid (kl5C_snoc pre i vs)
      go_cut [9, 10, 11] from 26 to 54 (fun s9 _ s11 wx => ∃ q5 q6, s9 = .int .i64 i ∧ s11 = .int .i64 k ∧ Hid (StC w N #[.slice p.oc S.cols.length p.cc, .slice p.ok S.key.length p.ck, .slice p.ou S.uqs.length p.cu] many wx q5 q6 q5 q6 (kl5C (pre ++ [(i, vs)])) (lo ++ [.slice ob nb cb]) (lo ++ [.slice ob nb cb]) (pre.map (·.2) ++ [vs])))
      case first =>
        refine wp_region_noPanic ?_
        have HSq := HS.out.drew
        clear HS h5 h6
        obtain ⟨W, hW⟩ : ∃ W, w2.drew = W := ⟨_, rfl⟩
        refine wp_region_X (S := fun W => W.cell? ⟨N, 0, none⟩ = some v5 ∧ W.cell? ⟨N + 1, 0, none⟩ = some v6) (X := [8, 9]) (by kernel_rfl) ?_
        rw [hW] at HSq
        rw [hW]
        clear hW
        have HS := HSq
        clear HSq
        have hS : (fun W => W.cell? ⟨N, 0, none⟩ = some v5 ∧ W.cell? ⟨N + 1, 0, none⟩ = some v6) W := ⟨HS.at5, HS.at6⟩
        have HCL := Region.closed_none (md := .any) (ops := #[{ dst := some 44, op := Go.Op.load 23 (Go.Operand.tmp 7), type := 23, pos := "law.go:106", after := #[], guard := none }, { dst := some 45, op := Go.Op.move (Go.Operand.tmp 9), type := 3, pos := "law.go:106", after := #[], guard := none }, { dst := some 46, op := Go.Op.buildSlice 23 1 #[(0, Go.Operand.tmp 45)], type := 23, pos := "law.go:106", after := #[{ on := 1, ground := Go.Ground.data }], guard := none }, { dst := some 47, op := Go.Op.call { callee := Go.Callee.builtin Go.Builtin.append, args := #[Go.Operand.tmp 44, Go.Operand.tmp 46], argTypes := #[23, 23] }, type := 23, pos := "law.go:106", after := #[{ on := 0, ground := Go.Ground.data }, { on := 2, ground := Go.Ground.data }], guard := none }, { dst := some 48, op := Go.Op.load 49 (Go.Operand.tmp 8), type := 49, pos := "law.go:106", after := #[], guard := none }, { dst := some 49, op := Go.Op.move (Go.Operand.tmp 10), type := 27, pos := "law.go:106", after := #[], guard := none }, { dst := some 50, op := Go.Op.buildSlice 49 1 #[(0, Go.Operand.tmp 49)], type := 49, pos := "law.go:106", after := #[{ on := 5, ground := Go.Ground.data }], guard := none }, { dst := some 51, op := Go.Op.call { callee := Go.Callee.builtin Go.Builtin.append, args := #[Go.Operand.tmp 48, Go.Operand.tmp 50], argTypes := #[49, 49] }, type := 49, pos := "law.go:106", after := #[{ on := 4, ground := Go.Ground.data }, { on := 6, ground := Go.Ground.data }, { on := 3, ground := Go.Ground.chain }], guard := none }, { dst := none, op := Go.Op.store 23 (Go.Operand.tmp 7) (Go.Operand.tmp 47), type := 0, pos := "law.go:106", after := #[{ on := 3, ground := Go.Ground.data }, { on := 7, ground := Go.Ground.chain }, { on := 0, ground := Go.Ground.phase }, { on := 1, ground := Go.Ground.phase }, { on := 2, ground := Go.Ground.phase }, { on := 3, ground := Go.Ground.phase }, { on := 4, ground := Go.Ground.textOnly Go.Departure.inlinedCapture }, { on := 5, ground := Go.Ground.textOnly Go.Departure.lateStores }, { on := 6, ground := Go.Ground.textOnly Go.Departure.inlinedCapture }, { on := 7, ground := Go.Ground.textOnly Go.Departure.lateStoresUnsure }], guard := none }, { dst := none, op := Go.Op.store 49 (Go.Operand.tmp 8) (Go.Operand.tmp 51), type := 0, pos := "law.go:106", after := #[{ on := 7, ground := Go.Ground.data }, { on := 8, ground := Go.Ground.chain }, { on := 0, ground := Go.Ground.phase }, { on := 1, ground := Go.Ground.phase }, { on := 2, ground := Go.Ground.phase }, { on := 3, ground := Go.Ground.phase }, { on := 4, ground := Go.Ground.phase }, { on := 5, ground := Go.Ground.phase }, { on := 6, ground := Go.Ground.phase }, { on := 7, ground := Go.Ground.phase }, { on := 8, ground := Go.Ground.phase }], guard := none }]) 10
        refine wpAnyX_take (i := 1) (oi := { dst := some 45, op := Go.Op.move (Go.Operand.tmp 9), type := 3, pos := "law.go:106", after := #[], guard := none }) (v := .int .i64 (i : Int)) rfl (by kernel_rfl) (by kernel_rfl) (by kernel_rfl) (fun _ _ _ h => h) (Region.waits_all (by kernel_rfl)) HCL (Or.inl ⟨by rfl, ?hy1⟩) hS (fun HCL2 => ?rest1)
        case hy1 => (rintro W ⟨e5, e6⟩; go_simp; try with_reducible rfl)
        clear HCL
        have HCL := HCL2
        clear HCL2
        try simp only [Act.put, List.setIfInBounds_toArray, List.set_cons_zero, List.set_cons_succ]
        refine wpAnyX_take (i := 0) (oi := { dst := some 44, op := Go.Op.load 23 (Go.Operand.tmp 7), type := 23, pos := "law.go:106", after := #[], guard := none }) (v := v5) rfl (by kernel_rfl) (by kernel_rfl) (by kernel_rfl) (fun _ _ _ h => h) (Region.waits_all (by kernel_rfl)) HCL (Or.inl ⟨by rfl, ?hy0⟩) hS (fun HCL2 => ?rest0)
        case hy0 => (rintro W ⟨e5, e6⟩; go_simp; try with_reducible rfl)
        clear HCL
        have HCL := HCL2
        clear HCL2
        try simp only [Act.put, List.setIfInBounds_toArray, List.set_cons_zero, List.set_cons_succ]
        refine wpAnyX_take (i := 4) (oi := { dst := some 48, op := Go.Op.load 49 (Go.Operand.tmp 8), type := 49, pos := "law.go:106", after := #[], guard := none }) (v := v6) rfl (by kernel_rfl) (by kernel_rfl) (by kernel_rfl) (fun _ _ _ h => h) (Region.waits_all (by kernel_rfl)) HCL (Or.inl ⟨by rfl, ?hy4⟩) hS (fun HCL2 => ?rest4)
        case hy4 => (rintro W ⟨e5, e6⟩; go_simp; try with_reducible rfl)
        clear HCL
        have HCL := HCL2
        clear HCL2
        try simp only [Act.put, List.setIfInBounds_toArray, List.set_cons_zero, List.set_cons_succ]
        refine wpAnyX_take (i := 5) (oi := { dst := some 49, op := Go.Op.move (Go.Operand.tmp 10), type := 27, pos := "law.go:106", after := #[], guard := none }) (v := .slice ob nb cb) rfl (by kernel_rfl) (by kernel_rfl) (by kernel_rfl) (fun _ _ _ h => h) (Region.waits_all (by kernel_rfl)) HCL (Or.inl ⟨by rfl, ?hy5⟩) hS (fun HCL2 => ?rest5)
        case hy5 => (rintro W ⟨e5, e6⟩; go_simp; try with_reducible rfl)
        clear HCL
        have HCL := HCL2
        clear HCL2
        try simp only [Act.put, List.setIfInBounds_toArray, List.set_cons_zero, List.set_cons_succ]
        clear hS HCL
        refine wpAnyX_pair (i := 2) (k := 6) (o := { dst := some 46, op := Go.Op.buildSlice 23 1 #[(0, Go.Operand.tmp 45)], type := 23, pos := "law.go:106", after := #[{ on := 1, ground := Go.Ground.data }], guard := none }) (o2 := { dst := some 50, op := Go.Op.buildSlice 49 1 #[(0, Go.Operand.tmp 49)], type := 49, pos := "law.go:106", after := #[{ on := 5, ground := Go.Ground.data }], guard := none }) (by kernel_rfl) rfl rfl (fun K hK => ?_) (fun K hK => ?_)
        · go_simp
          refine hK.out _ _ (fun _ => ⟨(HS.alloc _).at5, (HS.alloc _).at6⟩) ?_
          clear hK K
          try simp only [Act.put, List.setIfInBounds_toArray, List.set_cons_zero, List.set_cons_succ]
          have hl5 : (W.alloc (.cells #[.int .i64 (i : Int)] 3)).cell? ⟨W.heap.size, 0, none⟩ = some (.int .i64 (i : Int)) := by simp [go_sem]
          have HS2 := HS.alloc (.cells #[.int .i64 (i : Int)] 3)
          have m2 : some W.heap.size ≠ v6.ownBlock := row_neC HS.r6 (Nat.le_refl _)
          clear HS
          obtain ⟨p5, hp5⟩ : ∃ p5, W.heap.size = p5 := ⟨_, rfl⟩
          obtain ⟨W, hW2⟩ : ∃ W2, W.alloc (.cells #[.int .i64 (i : Int)] 3) = W2 := ⟨_, rfl⟩
          rw [hp5] at hl5 m2
          try rw [hp5]
          rw [hW2] at HS2 hl5
          rw [hW2]
          clear hp5 hW2
          have HS := HS2
          clear HS2
          refine wpAnyX_pair (i := 3) (k := 6) (o := { dst := some 47, op := Go.Op.call { callee := Go.Callee.builtin Go.Builtin.append, args := #[Go.Operand.tmp 44, Go.Operand.tmp 46], argTypes := #[23, 23] }, type := 23, pos := "law.go:106", after := #[{ on := 0, ground := Go.Ground.data }, { on := 2, ground := Go.Ground.data }], guard := none }) (o2 := { dst := some 50, op := Go.Op.buildSlice 49 1 #[(0, Go.Operand.tmp 49)], type := 49, pos := "law.go:106", after := #[{ on := 5, ground := Go.Ground.data }], guard := none }) (by kernel_rfl) rfl rfl (fun K hK => ?_) (fun K hK => ?_)
          · refine step_append_row rfl (.tmp 44) (.tmp 46) 23 rfl (N + 2) 3 i3 (.int .i64 0) 1 8 Tryz.underlying23 HI3.out HZ3.out.1 HZ3.out.2.1 HZ3.out.2.2 rfl (by decide) v5 (kl5C pre).length (kl5C pre) ?hs HS.r5 ⟨p5, 0, none⟩ 1 1 [.int .i64 (i : Int)] ?hx rfl (one_cellC hl5) (by simp [Value.oneCell']) (by unfold maxLen; omega) (by omega) HS.size ?_
            case hx => (simp [Act.eval]; done)
            case hs => (simp [Act.eval]; done)
            intro v5n W hown hg
            obtain ⟨q5, z5, rfl⟩ := ownsRow_succ hown
            have HS2 := StC.app5 HS hown hg
            clear HS hl5
            refine hK.out _ _ (fun _ => ⟨HS2.at5, HS2.at6⟩) ?_
            clear hK K hown hg
            try simp only [Act.put, List.setIfInBounds_toArray, List.set_cons_zero, List.set_cons_succ]
            have HS := HS2
            clear HS2
            refine wpAnyX_single (i := 6) (o := { dst := some 50, op := Go.Op.buildSlice 49 1 #[(0, Go.Operand.tmp 49)], type := 49, pos := "law.go:106", after := #[{ on := 5, ground := Go.Ground.data }], guard := none }) (by kernel_rfl) rfl (fun K hK => ?_)
            go_simp
            refine hK.out _ _ (fun _ => ⟨(HS.alloc _).at5, (HS.alloc _).at6⟩) ?_
            clear hK K
            try simp only [Act.put, List.setIfInBounds_toArray, List.set_cons_zero, List.set_cons_succ]
            have hl6 : (W.alloc (.cells #[.slice ob nb cb] 27)).cell? ⟨W.heap.size, 0, none⟩ = some (.slice ob nb cb) := by simp [go_sem]
            have HS2 := HS.alloc (.cells #[.slice ob nb cb] 27)
            clear HS
            obtain ⟨p6, hp6⟩ : ∃ p6, W.heap.size = p6 := ⟨_, rfl⟩
            obtain ⟨W, hW2⟩ : ∃ W2, W.alloc (.cells #[.slice ob nb cb] 27) = W2 := ⟨_, rfl⟩
            rw [hp6] at hl6
            try rw [hp6]
            rw [hW2] at HS2 hl6
            rw [hW2]
            clear hp6 hW2
            have HS := HS2
            clear HS2
            refine wpAnyX_single (i := 7) (o := { dst := some 51, op := Go.Op.call { callee := Go.Callee.builtin Go.Builtin.append, args := #[Go.Operand.tmp 48, Go.Operand.tmp 50], argTypes := #[49, 49] }, type := 49, pos := "law.go:106", after := #[{ on := 4, ground := Go.Ground.data }, { on := 6, ground := Go.Ground.data }, { on := 3, ground := Go.Ground.chain }], guard := none }) (by kernel_rfl) rfl (fun K hK => ?_)
            refine step_append_row rfl (.tmp 48) (.tmp 50) 49 rfl (N + 2) 27 i6 (.slice none 0 0) 1 24 Tryz.underlying49 HI6.out HZ6.out.1 HZ6.out.2.1 HZ6.out.2.2 rfl (by decide) v6 lo.length lo ?hs HS.r6 ⟨p6, 0, none⟩ 1 1 [.slice ob nb cb] ?hx rfl (one_cellC hl6) (by simp [Value.oneCell']) (by unfold maxLen; omega) (by omega) HS.size ?_
            case hx => (simp [Act.eval]; done)
            case hs => (simp [Act.eval]; done)
            intro v6n W hown hg
            obtain ⟨q6, z6, rfl⟩ := ownsRow_succ hown
            have HS2 := StC.app6 HS hown hg
            clear HS hl6
            refine hK.out _ _ (fun _ => ⟨HS2.at5, HS2.at6⟩) ?_
            clear hK K hown hg
            try simp only [Act.put, List.setIfInBounds_toArray, List.set_cons_zero, List.set_cons_succ]
            have HS := HS2
            clear HS2
            have h5 : W.cell? ⟨N, 0, none⟩ = some v5 := HS.at5
            have g5 : W.frozen? ⟨N, 0, none⟩ = false := HS.at5F
            refine wpAnyX_single (i := 8) (o := { dst := none, op := Go.Op.store 23 (Go.Operand.tmp 7) (Go.Operand.tmp 47), type := 0, pos := "law.go:106", after := #[{ on := 3, ground := Go.Ground.data }, { on := 7, ground := Go.Ground.chain }, { on := 0, ground := Go.Ground.phase }, { on := 1, ground := Go.Ground.phase }, { on := 2, ground := Go.Ground.phase }, { on := 3, ground := Go.Ground.phase }, { on := 4, ground := Go.Ground.textOnly Go.Departure.inlinedCapture }, { on := 5, ground := Go.Ground.textOnly Go.Departure.lateStores }, { on := 6, ground := Go.Ground.textOnly Go.Departure.inlinedCapture }, { on := 7, ground := Go.Ground.textOnly Go.Departure.lateStoresUnsure }], guard := none }) (by kernel_rfl) rfl (fun K hK => ?_)
            go_simp
            refine hK.out _ _ (fun h => absurd (by decide) h) ?_
            clear hK K h5 g5
            try simp only [Act.put, List.setIfInBounds_toArray, List.set_cons_zero, List.set_cons_succ]
            have HS2 := HS.put5 (.slice (some ⟨q5, 0, none⟩) ((kl5C pre).length + 1) z5)
            obtain ⟨W2, hW2⟩ : ∃ W2, W.setCell ⟨N, 0, none⟩ (.slice (some ⟨q5, 0, none⟩) ((kl5C pre).length + 1) z5) = W2 := ⟨_, rfl⟩
            rw [hW2] at HS2
            try rw [hW2]
            clear hW2 HS
            have h6 : W2.cell? ⟨N + 1, 0, none⟩ = some v6 := HS2.at6
            have g6 : W2.frozen? ⟨N + 1, 0, none⟩ = false := HS2.at6F
            refine wpAnyX_single (i := 9) (o := { dst := none, op := Go.Op.store 49 (Go.Operand.tmp 8) (Go.Operand.tmp 51), type := 0, pos := "law.go:106", after := #[{ on := 7, ground := Go.Ground.data }, { on := 8, ground := Go.Ground.chain }, { on := 0, ground := Go.Ground.phase }, { on := 1, ground := Go.Ground.phase }, { on := 2, ground := Go.Ground.phase }, { on := 3, ground := Go.Ground.phase }, { on := 4, ground := Go.Ground.phase }, { on := 5, ground := Go.Ground.phase }, { on := 6, ground := Go.Ground.phase }, { on := 7, ground := Go.Ground.phase }, { on := 8, ground := Go.Ground.phase }], guard := none }) (by kernel_rfl) rfl (fun K hK => ?_)
            go_simp
            refine hK.out _ _ (fun h => absurd (by decide) h) ?_
            clear hK K h6 g6
            try simp only [Act.put, List.setIfInBounds_toArray, List.set_cons_zero, List.set_cons_succ]
            have HS := HS2.put6 (.slice (some ⟨q6, 0, none⟩) (lo.length + 1) z6)
            refine wpAnyX_done (by kernel_rfl) ?_ _
            refine NoPanic.normal ?_
            go_wp2_with fail
            go_meet
            refine ⟨.slice (some ⟨q5, 0, none⟩) ((kl5C pre).length + 1) z5, .slice (some ⟨q6, 0, none⟩) (lo.length + 1) z6, rfl, rfl, Lib.hid ?_⟩
            rw [HL5.out]
            exact HS
          · go_simp
            refine hK.out _ _ (fun _ => ⟨(HS.alloc _).at5, (HS.alloc _).at6⟩) ?_
            clear hK K
            try simp only [Act.put, List.setIfInBounds_toArray, List.set_cons_zero, List.set_cons_succ]
            have hl6 : (W.alloc (.cells #[.slice ob nb cb] 27)).cell? ⟨W.heap.size, 0, none⟩ = some (.slice ob nb cb) := by simp [go_sem]
            have HS2 := HS.alloc (.cells #[.slice ob nb cb] 27)
            have m6 : some W.heap.size ≠ v5.ownBlock := row_neC HS.r5 (Nat.le_refl _)
            have hl52 : (W.alloc (.cells #[.slice ob nb cb] 27)).cell? ⟨p5, 0, none⟩ = some (.int .i64 (i : Int)) := (World.cell?_alloc_lt _ _ _ (World.block_lt_of_cell? W _ hl5)).trans hl5
            clear hl5
            clear HS
            obtain ⟨p6, hp6⟩ : ∃ p6, W.heap.size = p6 := ⟨_, rfl⟩
            obtain ⟨W, hW2⟩ : ∃ W2, W.alloc (.cells #[.slice ob nb cb] 27) = W2 := ⟨_, rfl⟩
            rw [hp6] at hl6 m6
            try rw [hp6]
            rw [hW2] at HS2 hl6 hl52
            rw [hW2]
            clear hp6 hW2
            have HS := HS2
            clear HS2
            have hl5 := hl52
            clear hl52
            refine wpAnyX_single (i := 3) (o := { dst := some 47, op := Go.Op.call { callee := Go.Callee.builtin Go.Builtin.append, args := #[Go.Operand.tmp 44, Go.Operand.tmp 46], argTypes := #[23, 23] }, type := 23, pos := "law.go:106", after := #[{ on := 0, ground := Go.Ground.data }, { on := 2, ground := Go.Ground.data }], guard := none }) (by kernel_rfl) rfl (fun K hK => ?_)
            refine step_append_row rfl (.tmp 44) (.tmp 46) 23 rfl (N + 2) 3 i3 (.int .i64 0) 1 8 Tryz.underlying23 HI3.out HZ3.out.1 HZ3.out.2.1 HZ3.out.2.2 rfl (by decide) v5 (kl5C pre).length (kl5C pre) ?hs HS.r5 ⟨p5, 0, none⟩ 1 1 [.int .i64 (i : Int)] ?hx rfl (one_cellC hl5) (by simp [Value.oneCell']) (by unfold maxLen; omega) (by omega) HS.size ?_
            case hx => (simp [Act.eval]; done)
            case hs => (simp [Act.eval]; done)
            intro v5n W hown hg
            obtain ⟨q5, z5, rfl⟩ := ownsRow_succ hown
            have HS2 := StC.app5 HS hown hg
            have hl62 := cell_grownC hl6 hg m6
            clear hl6
            clear HS hl5
            refine hK.out _ _ (fun _ => ⟨HS2.at5, HS2.at6⟩) ?_
            clear hK K hown hg
            try simp only [Act.put, List.setIfInBounds_toArray, List.set_cons_zero, List.set_cons_succ]
            have HS := HS2
            clear HS2
            have hl6 := hl62
            clear hl62
            refine wpAnyX_single (i := 7) (o := { dst := some 51, op := Go.Op.call { callee := Go.Callee.builtin Go.Builtin.append, args := #[Go.Operand.tmp 48, Go.Operand.tmp 50], argTypes := #[49, 49] }, type := 49, pos := "law.go:106", after := #[{ on := 4, ground := Go.Ground.data }, { on := 6, ground := Go.Ground.data }, { on := 3, ground := Go.Ground.chain }], guard := none }) (by kernel_rfl) rfl (fun K hK => ?_)
            refine step_append_row rfl (.tmp 48) (.tmp 50) 49 rfl (N + 2) 27 i6 (.slice none 0 0) 1 24 Tryz.underlying49 HI6.out HZ6.out.1 HZ6.out.2.1 HZ6.out.2.2 rfl (by decide) v6 lo.length lo ?hs HS.r6 ⟨p6, 0, none⟩ 1 1 [.slice ob nb cb] ?hx rfl (one_cellC hl6) (by simp [Value.oneCell']) (by unfold maxLen; omega) (by omega) HS.size ?_
            case hx => (simp [Act.eval]; done)
            case hs => (simp [Act.eval]; done)
            intro v6n W hown hg
            obtain ⟨q6, z6, rfl⟩ := ownsRow_succ hown
            have HS2 := StC.app6 HS hown hg
            clear HS hl6
            refine hK.out _ _ (fun _ => ⟨HS2.at5, HS2.at6⟩) ?_
            clear hK K hown hg
            try simp only [Act.put, List.setIfInBounds_toArray, List.set_cons_zero, List.set_cons_succ]
            have HS := HS2
            clear HS2
            have h5 : W.cell? ⟨N, 0, none⟩ = some v5 := HS.at5
            have g5 : W.frozen? ⟨N, 0, none⟩ = false := HS.at5F
            refine wpAnyX_single (i := 8) (o := { dst := none, op := Go.Op.store 23 (Go.Operand.tmp 7) (Go.Operand.tmp 47), type := 0, pos := "law.go:106", after := #[{ on := 3, ground := Go.Ground.data }, { on := 7, ground := Go.Ground.chain }, { on := 0, ground := Go.Ground.phase }, { on := 1, ground := Go.Ground.phase }, { on := 2, ground := Go.Ground.phase }, { on := 3, ground := Go.Ground.phase }, { on := 4, ground := Go.Ground.textOnly Go.Departure.inlinedCapture }, { on := 5, ground := Go.Ground.textOnly Go.Departure.lateStores }, { on := 6, ground := Go.Ground.textOnly Go.Departure.inlinedCapture }, { on := 7, ground := Go.Ground.textOnly Go.Departure.lateStoresUnsure }], guard := none }) (by kernel_rfl) rfl (fun K hK => ?_)
            go_simp
            refine hK.out _ _ (fun h => absurd (by decide) h) ?_
            clear hK K h5 g5
            try simp only [Act.put, List.setIfInBounds_toArray, List.set_cons_zero, List.set_cons_succ]
            have HS2 := HS.put5 (.slice (some ⟨q5, 0, none⟩) ((kl5C pre).length + 1) z5)
            obtain ⟨W2, hW2⟩ : ∃ W2, W.setCell ⟨N, 0, none⟩ (.slice (some ⟨q5, 0, none⟩) ((kl5C pre).length + 1) z5) = W2 := ⟨_, rfl⟩
            rw [hW2] at HS2
            try rw [hW2]
            clear hW2 HS
            have h6 : W2.cell? ⟨N + 1, 0, none⟩ = some v6 := HS2.at6
            have g6 : W2.frozen? ⟨N + 1, 0, none⟩ = false := HS2.at6F
            refine wpAnyX_single (i := 9) (o := { dst := none, op := Go.Op.store 49 (Go.Operand.tmp 8) (Go.Operand.tmp 51), type := 0, pos := "law.go:106", after := #[{ on := 7, ground := Go.Ground.data }, { on := 8, ground := Go.Ground.chain }, { on := 0, ground := Go.Ground.phase }, { on := 1, ground := Go.Ground.phase }, { on := 2, ground := Go.Ground.phase }, { on := 3, ground := Go.Ground.phase }, { on := 4, ground := Go.Ground.phase }, { on := 5, ground := Go.Ground.phase }, { on := 6, ground := Go.Ground.phase }, { on := 7, ground := Go.Ground.phase }, { on := 8, ground := Go.Ground.phase }], guard := none }) (by kernel_rfl) rfl (fun K hK => ?_)
            go_simp
            refine hK.out _ _ (fun h => absurd (by decide) h) ?_
            clear hK K h6 g6
            try simp only [Act.put, List.setIfInBounds_toArray, List.set_cons_zero, List.set_cons_succ]
            have HS := HS2.put6 (.slice (some ⟨q6, 0, none⟩) (lo.length + 1) z6)
            refine wpAnyX_done (by kernel_rfl) ?_ _
            refine NoPanic.normal ?_
            go_wp2_with fail
            go_meet
            refine ⟨.slice (some ⟨q5, 0, none⟩) ((kl5C pre).length + 1) z5, .slice (some ⟨q6, 0, none⟩) (lo.length + 1) z6, rfl, rfl, Lib.hid ?_⟩
            rw [HL5.out]
            exact HS
        · go_simp
          refine hK.out _ _ (fun _ => ⟨(HS.alloc _).at5, (HS.alloc _).at6⟩) ?_
          clear hK K
          try simp only [Act.put, List.setIfInBounds_toArray, List.set_cons_zero, List.set_cons_succ]
          have hl6 : (W.alloc (.cells #[.slice ob nb cb] 27)).cell? ⟨W.heap.size, 0, none⟩ = some (.slice ob nb cb) := by simp [go_sem]
          have HS2 := HS.alloc (.cells #[.slice ob nb cb] 27)
          have m6 : some W.heap.size ≠ v5.ownBlock := row_neC HS.r5 (Nat.le_refl _)
          clear HS
          obtain ⟨p6, hp6⟩ : ∃ p6, W.heap.size = p6 := ⟨_, rfl⟩
          obtain ⟨W, hW2⟩ : ∃ W2, W.alloc (.cells #[.slice ob nb cb] 27) = W2 := ⟨_, rfl⟩
          rw [hp6] at hl6 m6
          try rw [hp6]
          rw [hW2] at HS2 hl6
          rw [hW2]
          clear hp6 hW2
          have HS := HS2
          clear HS2
          refine wpAnyX_single (i := 2) (o := { dst := some 46, op := Go.Op.buildSlice 23 1 #[(0, Go.Operand.tmp 45)], type := 23, pos := "law.go:106", after := #[{ on := 1, ground := Go.Ground.data }], guard := none }) (by kernel_rfl) rfl (fun K hK => ?_)
          go_simp
          refine hK.out _ _ (fun _ => ⟨(HS.alloc _).at5, (HS.alloc _).at6⟩) ?_
          clear hK K
          try simp only [Act.put, List.setIfInBounds_toArray, List.set_cons_zero, List.set_cons_succ]
          have hl5 : (W.alloc (.cells #[.int .i64 (i : Int)] 3)).cell? ⟨W.heap.size, 0, none⟩ = some (.int .i64 (i : Int)) := by simp [go_sem]
          have HS2 := HS.alloc (.cells #[.int .i64 (i : Int)] 3)
          have m2 : some W.heap.size ≠ v6.ownBlock := row_neC HS.r6 (Nat.le_refl _)
          have hl62 : (W.alloc (.cells #[.int .i64 (i : Int)] 3)).cell? ⟨p6, 0, none⟩ = some (.slice ob nb cb) := (World.cell?_alloc_lt _ _ _ (World.block_lt_of_cell? W _ hl6)).trans hl6
          clear hl6
          clear HS
          obtain ⟨p5, hp5⟩ : ∃ p5, W.heap.size = p5 := ⟨_, rfl⟩
          obtain ⟨W, hW2⟩ : ∃ W2, W.alloc (.cells #[.int .i64 (i : Int)] 3) = W2 := ⟨_, rfl⟩
          rw [hp5] at hl5 m2
          try rw [hp5]
          rw [hW2] at HS2 hl5 hl62
          rw [hW2]
          clear hp5 hW2
          have HS := HS2
          clear HS2
          have hl6 := hl62
          clear hl62
          refine wpAnyX_single (i := 3) (o := { dst := some 47, op := Go.Op.call { callee := Go.Callee.builtin Go.Builtin.append, args := #[Go.Operand.tmp 44, Go.Operand.tmp 46], argTypes := #[23, 23] }, type := 23, pos := "law.go:106", after := #[{ on := 0, ground := Go.Ground.data }, { on := 2, ground := Go.Ground.data }], guard := none }) (by kernel_rfl) rfl (fun K hK => ?_)
          refine step_append_row rfl (.tmp 44) (.tmp 46) 23 rfl (N + 2) 3 i3 (.int .i64 0) 1 8 Tryz.underlying23 HI3.out HZ3.out.1 HZ3.out.2.1 HZ3.out.2.2 rfl (by decide) v5 (kl5C pre).length (kl5C pre) ?hs HS.r5 ⟨p5, 0, none⟩ 1 1 [.int .i64 (i : Int)] ?hx rfl (one_cellC hl5) (by simp [Value.oneCell']) (by unfold maxLen; omega) (by omega) HS.size ?_
          case hx => (simp [Act.eval]; done)
          case hs => (simp [Act.eval]; done)
          intro v5n W hown hg
          obtain ⟨q5, z5, rfl⟩ := ownsRow_succ hown
          have HS2 := StC.app5 HS hown hg
          have hl62 := cell_grownC hl6 hg m6
          clear hl6
          clear HS hl5
          refine hK.out _ _ (fun _ => ⟨HS2.at5, HS2.at6⟩) ?_
          clear hK K hown hg
          try simp only [Act.put, List.setIfInBounds_toArray, List.set_cons_zero, List.set_cons_succ]
          have HS := HS2
          clear HS2
          have hl6 := hl62
          clear hl62
          refine wpAnyX_single (i := 7) (o := { dst := some 51, op := Go.Op.call { callee := Go.Callee.builtin Go.Builtin.append, args := #[Go.Operand.tmp 48, Go.Operand.tmp 50], argTypes := #[49, 49] }, type := 49, pos := "law.go:106", after := #[{ on := 4, ground := Go.Ground.data }, { on := 6, ground := Go.Ground.data }, { on := 3, ground := Go.Ground.chain }], guard := none }) (by kernel_rfl) rfl (fun K hK => ?_)
          refine step_append_row rfl (.tmp 48) (.tmp 50) 49 rfl (N + 2) 27 i6 (.slice none 0 0) 1 24 Tryz.underlying49 HI6.out HZ6.out.1 HZ6.out.2.1 HZ6.out.2.2 rfl (by decide) v6 lo.length lo ?hs HS.r6 ⟨p6, 0, none⟩ 1 1 [.slice ob nb cb] ?hx rfl (one_cellC hl6) (by simp [Value.oneCell']) (by unfold maxLen; omega) (by omega) HS.size ?_
          case hx => (simp [Act.eval]; done)
          case hs => (simp [Act.eval]; done)
          intro v6n W hown hg
          obtain ⟨q6, z6, rfl⟩ := ownsRow_succ hown
          have HS2 := StC.app6 HS hown hg
          clear HS hl6
          refine hK.out _ _ (fun _ => ⟨HS2.at5, HS2.at6⟩) ?_
          clear hK K hown hg
          try simp only [Act.put, List.setIfInBounds_toArray, List.set_cons_zero, List.set_cons_succ]
          have HS := HS2
          clear HS2
          have h5 : W.cell? ⟨N, 0, none⟩ = some v5 := HS.at5
          have g5 : W.frozen? ⟨N, 0, none⟩ = false := HS.at5F
          refine wpAnyX_single (i := 8) (o := { dst := none, op := Go.Op.store 23 (Go.Operand.tmp 7) (Go.Operand.tmp 47), type := 0, pos := "law.go:106", after := #[{ on := 3, ground := Go.Ground.data }, { on := 7, ground := Go.Ground.chain }, { on := 0, ground := Go.Ground.phase }, { on := 1, ground := Go.Ground.phase }, { on := 2, ground := Go.Ground.phase }, { on := 3, ground := Go.Ground.phase }, { on := 4, ground := Go.Ground.textOnly Go.Departure.inlinedCapture }, { on := 5, ground := Go.Ground.textOnly Go.Departure.lateStores }, { on := 6, ground := Go.Ground.textOnly Go.Departure.inlinedCapture }, { on := 7, ground := Go.Ground.textOnly Go.Departure.lateStoresUnsure }], guard := none }) (by kernel_rfl) rfl (fun K hK => ?_)
          go_simp
          refine hK.out _ _ (fun h => absurd (by decide) h) ?_
          clear hK K h5 g5
          try simp only [Act.put, List.setIfInBounds_toArray, List.set_cons_zero, List.set_cons_succ]
          have HS2 := HS.put5 (.slice (some ⟨q5, 0, none⟩) ((kl5C pre).length + 1) z5)
          obtain ⟨W2, hW2⟩ : ∃ W2, W.setCell ⟨N, 0, none⟩ (.slice (some ⟨q5, 0, none⟩) ((kl5C pre).length + 1) z5) = W2 := ⟨_, rfl⟩
          rw [hW2] at HS2
          try rw [hW2]
          clear hW2 HS
          have h6 : W2.cell? ⟨N + 1, 0, none⟩ = some v6 := HS2.at6
          have g6 : W2.frozen? ⟨N + 1, 0, none⟩ = false := HS2.at6F
          refine wpAnyX_single (i := 9) (o := { dst := none, op := Go.Op.store 49 (Go.Operand.tmp 8) (Go.Operand.tmp 51), type := 0, pos := "law.go:106", after := #[{ on := 7, ground := Go.Ground.data }, { on := 8, ground := Go.Ground.chain }, { on := 0, ground := Go.Ground.phase }, { on := 1, ground := Go.Ground.phase }, { on := 2, ground := Go.Ground.phase }, { on := 3, ground := Go.Ground.phase }, { on := 4, ground := Go.Ground.phase }, { on := 5, ground := Go.Ground.phase }, { on := 6, ground := Go.Ground.phase }, { on := 7, ground := Go.Ground.phase }, { on := 8, ground := Go.Ground.phase }], guard := none }) (by kernel_rfl) rfl (fun K hK => ?_)
          go_simp
          refine hK.out _ _ (fun h => absurd (by decide) h) ?_
          clear hK K h6 g6
          try simp only [Act.put, List.setIfInBounds_toArray, List.set_cons_zero, List.set_cons_succ]
          have HS := HS2.put6 (.slice (some ⟨q6, 0, none⟩) (lo.length + 1) z6)
          refine wpAnyX_done (by kernel_rfl) ?_ _
          refine NoPanic.normal ?_
          go_wp2_with fail
          go_meet
          refine ⟨.slice (some ⟨q5, 0, none⟩) ((kl5C pre).length + 1) z5, .slice (some ⟨q6, 0, none⟩) (lo.length + 1) z6, rfl, rfl, Lib.hid ?_⟩
          rw [HL5.out]
          exact HS
      case rest =>
        obtain ⟨q5, q6, rfl, rfl, HS9⟩ := hcut
        clear h5 h6 HS
        go_wp2_with fail
        go_roundw
        case rel => exact ⟨pre ++ [(i, vs)], i + k, lo ++ [.slice ob nb cb], q5, q6, by go_num, by omega, HN, by rw [List.map_append]; exact HS9⟩
        case measure => simp [intOf]; omega
end Go.Proofs.YtocmjlnhcloccaaGreatDoor
