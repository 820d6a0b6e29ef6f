/-
  swingbridgelaw04.CodecEach: its walk, of a schema that may not be; what is too much; the law.
-/
import Derived.Test.YtocmjlnhcloccaaGreatDoorCEachL
import Derived.Test.YtocmjlnhcloccaaGreatDoorSeqN
namespace Go.Proofs.YtocmjlnhcloccaaGreatDoor
open Go.RowKit Go.Shelf
attribute [local go_sem] Oper.semAt_some

set_option maxRecDepth 100000 in
set_option maxHeartbeats 8000000 in
theorem ceach_none (p : SchV) (S : Sch) (bv : Value) (bl : List UInt8) (many : Int) (w : World) (hg : HasET w) (hS : SchIn w p S) (m0 : S.cols.length ≤ 9223372036854775807) (m1 : S.key.length ≤ 9223372036854775807) (m2 : S.uqs.length ≤ 9223372036854775807) (m3 : ∀ c ∈ S.cols, c.n.size ≤ 9223372036854775807) (m4 : ∀ l ∈ S.uqs, l.length ≤ 9223372036854775807)
    (hf : fewOk S = true) (hok : schOk S = false) (hb : BytesOf w bv bl) (hl1 : bl.length ≤ 1000) (hm0 : -9223372036854775808 ≤ many) (hm1 : many ≤ 9223372036854775807) :
    Calls Tryz.prog 5 #[.agg #[.slice p.oc S.cols.length p.cc, .slice p.ok S.key.length p.ck, .slice p.ou S.uqs.length p.cu], bv, .int .i64 many] w fun e w' => e = .returned (.bool true) ∧ Below w.heap.size w w' := by
  have HWK : Hid (∀ W, Below w.heap.size w W → Calls Tryz.prog 10 #[] W fun e w' => e = .returned (.bool true) ∧ Below W.heap.size W w') := Lib.hid (fun W hb => cworks_true W (hg.below hb hg.lt))
  have hfs := fewOk_spec hf
  have hcl : S.cols.length ≤ 1000 := by have := hfs.cols; omega
  have HFW : Hid (∀ W, Below w.heap.size w W → Calls Tryz.prog 8 #[.agg #[.slice p.oc S.cols.length p.cc, .slice p.ok S.key.length p.ck, .slice p.ou S.uqs.length p.cu]] W fun e w' => e = .returned (.bool true) ∧ Below W.heap.size W w') := Lib.hid (fun W hb => by
    have h := few4_any p S W (hS.keep hb (Nat.le_refl _)) m0 m1 m2 m3 m4
    rwa [hf] at h)
  have HRT : Hid (∀ W, Below w.heap.size w W → Calls Tryz.prog 19 #[.agg #[.slice p.oc S.cols.length p.cc, .slice p.ok S.key.length p.ck, .slice p.ou S.uqs.length p.cu]] W fun e w' => e = .returned (.bool false) ∧ Below W.heap.size W w') := Lib.hid (fun W hb => by
    have h := rRight_any p S W m3 hcl (by have := hfs.uqs; omega) (by have := hfs.key; omega) (fun l hl => by have := hfs.places l hl; omega) (hS.keep hb (Nat.le_refl _))
    rwa [hok] at h)
  have HEN := Lib.hid (fun W (hW : Below w.heap.size w W) => EachC_no p S bv W (hg.below hW hg.lt) m3 hcl hfs.uqs (hS.keep hW (Nat.le_refl _)) hok)
  obtain ⟨ob, ca, ebv⟩ : ∃ ob ca, bv = .slice ob bl.length ca := by
    rcases hb with ⟨h, h2⟩ | ⟨a, c, h, _⟩
    · exact ⟨none, 0, by rw [h, h2]; rfl⟩
    · exact ⟨_, _, h⟩
  subst ebv
  clear hg hS hf hfs hok hb m0 m1 m2 m3 m4
  refine (callsIn_wide (n := 6)).1 ?_
  refine callsIn_of_wp_marks Tryz.func5 rfl trivial ?_ rfl
  simp only [Tryz.ntmps5, List.size_toArray, List.length_cons, List.length_nil, Nat.reduceAdd, Nat.reduceSub, Array.replicate_succ, Array.replicate_zero, List.push_toArray, List.append_toArray, List.nil_append, List.cons_append]
  refine wpIn_wide.2 ?_
  go_upto_region 1 with fail
  obtain ⟨W1, hW1⟩ : ∃ W1, ((w.alloc (.cells #[.slice p.oc S.cols.length p.cc, .slice p.ok S.key.length p.ck, .slice p.ou S.uqs.length p.cu] 26)).alloc (.cells #[.int .i64 many] 3)).alloc (.cells #[.bool false] 4) = W1 := ⟨_, rfl⟩
  have hb1 : Below w.heap.size w W1 := by rw [← hW1]; exact (((Below.refl _ _).alloc (Nat.le_refl _) _).alloc (by simp) _).alloc (by simp; omega) _
  have s0 : W1.heap[w.heap.size]? = some (.cells #[.slice p.oc S.cols.length p.cc, .slice p.ok S.key.length p.ck, .slice p.ou S.uqs.length p.cu] 26 (0, 0)) := by rw [← hW1, Below.heap_alloc _ _ _ (by simp; omega), Below.heap_alloc _ _ _ (by simp)]; exact heap_alloc_at w _
  have a0 : W1.cell? ⟨w.heap.size, 0, none⟩ = some (.slice p.oc S.cols.length p.cc) := by rw [← hW1]; simp [go_sem]
  have a1 : W1.cell? ⟨w.heap.size, 1, none⟩ = some (.slice p.ok S.key.length p.ck) := by rw [← hW1]; simp [go_sem]
  have a2 : W1.cell? ⟨w.heap.size, 2, none⟩ = some (.slice p.ou S.uqs.length p.cu) := by rw [← hW1]; simp [go_sem]
  have b1 : W1.cell? ⟨w.heap.size + 1, 0, none⟩ = some (.int .i64 many) := by rw [← hW1]; simp [go_sem]
  have b2 : W1.cell? ⟨w.heap.size + 2, 0, none⟩ = some (.bool false) := by rw [← hW1]; simp [go_sem]
  have f2 : W1.frozen? ⟨w.heap.size + 2, 0, none⟩ = false := by rw [← hW1]; simp [go_sem]
  have hz1 : W1.heap.size = w.heap.size + 3 := by rw [← hW1]; simp
  rw [hW1]
  clear hW1
  have H1 := Lib.hid (And.intro hb1 (And.intro s0 (And.intro b1 (And.intro b2 f2))))
  clear s0 b1 b2 f2
  have hd1k : decide ((1000 : Int) < (bl.length : Int)) = false := decide_eq_false (by omega)
  go_wp2_with fail
  refine (HFW.out _ hb1).mono ?_
  rintro e wf ⟨rfl, hbf⟩
  have HBF := Lib.hid hbf
  have hzf := hbf.size
  clear hbf a0 a1 a2 hb1
  obtain ⟨N, hN⟩ : ∃ N, wf.heap.size = N := ⟨_, rfl⟩
  go_upto_region 5 with fail
  obtain ⟨W0, hW0⟩ : ∃ W0, (wf.alloc (.cells #[.slice none 0 0] 23)).alloc (.cells #[.slice none 0 0] 49) = W0 := ⟨_, rfl⟩
  have hbW : Below wf.heap.size wf W0 := by rw [← hW0]; exact ((Below.refl _ _).alloc (Nat.le_refl _) _).alloc (by simp) _
  have HS0 : Hid (StC w N #[.slice p.oc S.cols.length p.cc, .slice p.ok S.key.length p.ck, .slice p.ou S.uqs.length p.cu] many W0 (.slice none 0 0) (.slice none 0 0) (.slice none 0 0) (.slice none 0 0) [] [] [] []) := Lib.hid (by
    have hB := HBF.out.trans (hbW.mono HBF.out.size)
    obtain ⟨h1, h2, h3, h4, h5⟩ := H1.out
    have hl1 : w.heap.size < W1.heap.size := by omega
    exact ⟨by omega, (hB.block _ hl1).trans h2, (hB.cell (by show w.heap.size + 1 < _; omega)).trans h3, (hB.cell (by show w.heap.size + 2 < _; omega)).trans h4, (hB.frozen (by show w.heap.size + 2 < _; omega)).trans h5, by rw [← hW0, ← hN]; simp [go_sem], by rw [← hW0, ← hN]; simp [go_sem], by rw [← hW0, ← hN]; simp [go_sem], by rw [← hW0, ← hN]; simp [go_sem], World.ownsRow_nil _ _ _ _, World.ownsRow_nil _ _ _ _, h1.trans (hB.mono (by omega)), ⟨rfl, fun j h1 _ => absurd h1 (by simp)⟩⟩)
  rw [hW0]
  try rw [hN]
  clear hW0 hbW HBF H1
  have hNle : w.heap.size + 3 ≤ N := HS0.out.le
  clear hN hzf hz1
  go_wp2_with fail
  go_loopw [9] (fun x wr => x = .int .i64 0 ∧ Hid (StC w N #[.slice p.oc S.cols.length p.cc, .slice p.ok S.key.length p.ck, .slice p.ou S.uqs.length p.cu] many wr (.slice none 0 0) (.slice none 0 0) (.slice none 0 0) (.slice none 0 0) [] [] [] [])) (fun _ _ => 0)
  case atStart => exact ⟨rfl, HS0⟩
  case round =>
    obtain ⟨rfl, HS⟩ := hrel
    have x0 := (cells_sch HS.out.sb).1
    have x1 := (cells_sch HS.out.sb).2.1
    have x2 := (cells_sch HS.out.sb).2.2
    go_wp2_with fail
    refine (HRT.out _ HS.out.below).mono ?_
    rintro e w1 ⟨rfl, hb1⟩
    have HS1 := Lib.hid (HS.out.keep hb1)
    clear hb1 HS x0 x1 x2 HS0
    have x0 := (cells_sch HS1.out.sb).1
    have x1 := (cells_sch HS1.out.sb).2.1
    have x2 := (cells_sch HS1.out.sb).2.2
    go_wp2_with fail
    refine (HEN.out _ HS1.out.below).mono ?_
    rintro e w3 ⟨rfl, hb3⟩
    have HG := Lib.hid (HS1.out.keep hb3)
    have hNl := HG.out.size
    clear hb3 HS1 x0 x1 x2
    have hnf : ∀ W, (binOp .eql 51 (.func (.func 40) #[] #[]) .nilFunc).run Tryz.prog W = .ok (.bool false) W := fun W => rfl
    have h4 := HG.out.many
    obtain ⟨M, hM⟩ : ∃ M, max (1 : Int) many = M := ⟨_, rfl⟩
    have hmn : min (0 : Int) M = 0 := by omega
    go_wp2_with fail
    refine wp_loop_rounds 3 ?_
    rw [rounds_succ]
    go_wp2_with fail
    obtain ⟨W3, hW3⟩ : ∃ W3, (w3.alloc (.cells #[.int .i64 0] 3)).alloc (.cells #[.int .i64 0] 3) = W3 := ⟨_, rfl⟩
    have HB0 : Hid (Below w3.heap.size w3 W3) := Lib.hid (by rw [← hW3]; exact ((Below.refl _ _).alloc (Nat.le_refl _) _).alloc (by simp) _)
    have hz3 : W3.heap.size = w3.heap.size + 1 + 1 := by rw [← hW3]; simp
    have hzw2 : w.heap.size ≤ w3.heap.size := by have := HG.out.le; omega
    have hNle2 := HG.out.le
    have HT0 : Hid (W3.cell? ⟨w3.heap.size, 0, none⟩ = some (.int .i64 0)) := Lib.hid (by rw [← hW3]; simp [go_sem])
    have HU0 : Hid (W3.cell? ⟨w3.heap.size + 1, 0, none⟩ = some (.int .i64 0)) := Lib.hid (by rw [← hW3]; simp [go_sem])
    rw [hW3]
    clear hW3
    refine (wpIn_wide (n := 6)).1 ?_
    refine wpIn_seqNone (by decide) (gf := 40) (fb := #[]) (lb := #[]) rfl (enters_of Tryz.func40 (by kernel_rfl) rfl) (fun W y l e h => by subst e; exact cEach1_any _ W) ?_
    intro Wa hbWa hDa
    have HDa := Lib.hid hDa
    have HBa := Lib.hid hbWa
    have hzWa := hbWa.size
    have up : ∀ q : Addr, q.block < w3.heap.size → Wa.cell? q = w3.cell? q := fun q hq => (hbWa.cell (by omega)).trans (HB0.out.cell hq)
    have g4 : Wa.cell? ⟨w.heap.size + 1, 0, none⟩ = some (.int .i64 many) := (up _ (by simp; omega)).trans HG.out.many
    have g6 : Wa.cell? ⟨N + 1, 0, none⟩ = some (.slice none 0 0) := (up _ (by simp; omega)).trans HG.out.at6
    have g12 : Wa.cell? ⟨w3.heap.size, 0, none⟩ = some (.int .i64 0) := (hbWa.cell (by simp; omega)).trans HT0.out
    have g13 : Wa.cell? ⟨w3.heap.size + 1, 0, none⟩ = some (.int .i64 0) := (hbWa.cell (by simp; omega)).trans HU0.out
    clear up hbWa hDa
    go_wp2_with fail
    rw [rounds_succ]
    go_wp2_with fail
    obtain ⟨W4, hW4⟩ : ∃ W4, (Wa.alloc (.cells #[.int .i64 1] 3)).alloc (.cells #[.int .i64 0] 3) = W4 := ⟨_, rfl⟩
    have hb34 : Below W3.heap.size W3 W4 := by rw [← hW4]; exact (HBa.out.alloc hzWa _).alloc (by simp; omega) _
    have HB1 : Hid (Below w3.heap.size w3 W4) := Lib.hid (HB0.out.trans (hb34.mono HB0.out.size))
    have hz4 : W4.heap.size = Wa.heap.size + 1 + 1 := by rw [← hW4]; simp
    have HT1 : Hid (W4.cell? ⟨Wa.heap.size, 0, none⟩ = some (.int .i64 1)) := Lib.hid (by rw [← hW4]; simp [go_sem])
    have HU1 : Hid (W4.cell? ⟨Wa.heap.size + 1, 0, none⟩ = some (.int .i64 0)) := Lib.hid (by rw [← hW4]; simp [go_sem])
    have HD4 : Hid (W4.heap[W3.heap.size]? = some (.deferred (some []))) := Lib.hid (by rw [← hW4, Below.heap_alloc _ _ _ (by have := (Array.getElem?_eq_some_iff.1 HDa.out).1; simp; omega), Below.heap_alloc _ _ _ (Array.getElem?_eq_some_iff.1 HDa.out).1]; exact HDa.out)
    clear hb34 g4 g6 g12 g13
    try rw [hW4]
    clear hW4
    refine (wpIn_wide (n := 6)).1 ?_
    refine wpIn_seqNone (by decide) (gf := 40) (fb := #[]) (lb := #[]) rfl (enters_of Tryz.func40 (by kernel_rfl) rfl) (fun W y l e h => by subst e; exact cEach1_any _ W) ?_
    intro Wb hbWb hDb
    have HDb := Lib.hid hDb
    have HBb := Lib.hid hbWb
    have hzWb := hbWb.size
    have up : ∀ q : Addr, q.block < w3.heap.size → Wb.cell? q = w3.cell? q := fun q hq => (hbWb.cell (by omega)).trans (HB1.out.cell hq)
    have g4 : Wb.cell? ⟨w.heap.size + 1, 0, none⟩ = some (.int .i64 many) := (up _ (by simp; omega)).trans HG.out.many
    have g6 : Wb.cell? ⟨N + 1, 0, none⟩ = some (.slice none 0 0) := (up _ (by simp; omega)).trans HG.out.at6
    have g12 : Wb.cell? ⟨Wa.heap.size, 0, none⟩ = some (.int .i64 1) := (hbWb.cell (by simp; omega)).trans HT1.out
    have g13 : Wb.cell? ⟨Wa.heap.size + 1, 0, none⟩ = some (.int .i64 0) := (hbWb.cell (by simp; omega)).trans HU1.out
    clear up hbWb hDb
    go_wp2_with fail
    rw [rounds_succ]
    go_wp2_with fail
    have hbw3b : Below w3.heap.size w3 Wb := HB1.out.trans (HBb.out.mono HB1.out.size)
    have HUPb := Lib.hid hbw3b
    have hsw := hbw3b.size
    refine (HWK.out (Wb.alloc (.cells #[.int .i64 2] 3)) ((HG.out.below.trans (hbw3b.mono hzw2)).alloc (by omega) _)).mono ?_
    rintro e w9 ⟨rfl, hb9⟩
    have HB9 := Lib.hid ((HUPb.out.alloc HUPb.out.size (.cells #[.int .i64 2] 3)).trans (hb9.mono (by have := HUPb.out.size; simp; omega)))
    have r0 : w9.cell? ⟨w.heap.size + 2, 0, none⟩ = some (.bool false) := by rw [HB9.out.cell (by simp; omega)]; exact HG.out.res
    have r0F : w9.frozen? ⟨w.heap.size + 2, 0, none⟩ = false := by rw [HB9.out.frozen (by simp; omega)]; exact HG.out.resF
    have hlb := (Array.getElem?_eq_some_iff.1 HDb.out).1
    have hla := (Array.getElem?_eq_some_iff.1 HD4.out).1
    have hl3 := (Array.getElem?_eq_some_iff.1 HDa.out).1
    have D1 : w9.heap[W4.heap.size]? = some (.deferred (some [])) := (hb9.block _ (by simp; omega)).trans ((Below.heap_alloc _ _ _ hlb).trans HDb.out)
    have D0 : w9.heap[W3.heap.size]? = some (.deferred (some [])) := (hb9.block _ (by simp; omega)).trans ((Below.heap_alloc _ _ _ (by omega)).trans ((HBb.out.block _ hla).trans HD4.out))
    have HD1 := Lib.hid D1
    have HD0 := Lib.hid D0
    clear hb9 D1 D0
    go_wp2_with fail
    have e1 : (w9.setCell ⟨w.heap.size + 2, 0, none⟩ (.bool true)).heap[W4.heap.size]? = some (.deferred (some [])) := (Below.heap_setCell _ _ _ _ (by simp; omega)).trans HD1.out
    have e0 : (w9.setCell ⟨w.heap.size + 2, 0, none⟩ (.bool true)).heap[W3.heap.size]? = some (.deferred (some [])) := (Below.heap_setCell _ _ _ _ (by simp; omega)).trans HD0.out
    have hz43 : W4.heap.size ≠ W3.heap.size := by omega
    try (rw [hz4] at e1)
    try (rw [hz3] at e0)
    refine ⟨by simp, .inl ⟨_, _, rfl, run_takeDeferred e1, ?_⟩⟩
    have e2 : ((w9.setCell ⟨w.heap.size + 2, 0, none⟩ (.bool true)).putObj (Wa.heap.size + 1 + 1) (.deferred none)).heap[w3.heap.size + 1 + 1]? = some (.deferred (some [])) := (World.putObj_heap_other (by omega)).trans e0
    refine ⟨by simp, .inl ⟨_, _, rfl, run_takeDeferred e2, ?_⟩⟩
    have hcell : (((w9.setCell ⟨w.heap.size + 2, 0, none⟩ (.bool true)).putObj (Wa.heap.size + 1 + 1) (.deferred none)).putObj (w3.heap.size + 1 + 1) (.deferred none)).cell? ⟨w.heap.size + 2, 0, none⟩ = some (.bool true) := cell_put (cell_put (World.cell?_setCell_same' _ _ _ (by rw [r0]; rfl)) e1 _) e2 _
    exact ⟨.bool true, by simp [results, Tryz.results5, go_sem, hcell], rfl, below_putC (below_putC ((HG.out.below.trans (HB9.out.mono hzw2)).setCell (p := ⟨w.heap.size + 2, 0, none⟩) (by simp) _) (by omega) _) (by omega) _⟩
set_option maxRecDepth 100000 in
set_option maxHeartbeats 8000000 in
theorem ceach_much (p : SchV) (S : Sch) (ob : Option Addr) (ca : Nat) (bl : List UInt8) (many : Int) (w : World) (hg : HasET w) (hS : SchIn w p S) (m0 : S.cols.length ≤ 9223372036854775807) (m1 : S.key.length ≤ 9223372036854775807) (m2 : S.uqs.length ≤ 9223372036854775807) (m3 : ∀ c ∈ S.cols, c.n.size ≤ 9223372036854775807) (m4 : ∀ l ∈ S.uqs, l.length ≤ 9223372036854775807)
    (hno : fewOk S = false ∨ (fewOk S = true ∧ 1000 < bl.length)) (n0 : bl.length ≤ 9223372036854775807) :
    Calls Tryz.prog 5 #[.agg #[.slice p.oc S.cols.length p.cc, .slice p.ok S.key.length p.ck, .slice p.ou S.uqs.length p.cu], .slice ob bl.length ca, .int .i64 many] w fun e w' => e = .returned (.bool true) ∧ Below w.heap.size w w' := by
  have HWK : Hid (∀ W, Below w.heap.size w W → Calls Tryz.prog 10 #[] W fun e w' => e = .returned (.bool true) ∧ Below W.heap.size W w') := Lib.hid (fun W hb => cworks_true W (hg.below hb hg.lt))
  have HFW : Hid (∀ W, Below w.heap.size w W → Calls Tryz.prog 8 #[.agg #[.slice p.oc S.cols.length p.cc, .slice p.ok S.key.length p.ck, .slice p.ou S.uqs.length p.cu]] W fun e w' => e = .returned (.bool (fewOk S)) ∧ Below W.heap.size W w') := Lib.hid (fun W hb => few4_any p S W (hS.keep hb (Nat.le_refl _)) m0 m1 m2 m3 m4)
  clear hg hS m0 m1 m2 m3 m4
  refine (callsIn_wide (n := 6)).1 ?_
  refine callsIn_of_wp_marks Tryz.func5 rfl trivial ?_ rfl
  simp only [Tryz.ntmps5, List.size_toArray, List.length_cons, List.length_nil, Nat.reduceAdd, Nat.reduceSub, Array.replicate_succ, Array.replicate_zero, List.push_toArray, List.append_toArray, List.nil_append, List.cons_append]
  refine wpIn_wide.2 ?_
  go_upto_region 1 with fail
  obtain ⟨W1, hW1⟩ : ∃ W1, ((w.alloc (.cells #[.slice p.oc S.cols.length p.cc, .slice p.ok S.key.length p.ck, .slice p.ou S.uqs.length p.cu] 26)).alloc (.cells #[.int .i64 many] 3)).alloc (.cells #[.bool false] 4) = W1 := ⟨_, rfl⟩
  have hb1 : Below w.heap.size w W1 := by rw [← hW1]; exact (((Below.refl _ _).alloc (Nat.le_refl _) _).alloc (by simp) _).alloc (by simp; omega) _
  have a0 : W1.cell? ⟨w.heap.size, 0, none⟩ = some (.slice p.oc S.cols.length p.cc) := by rw [← hW1]; simp [go_sem]
  have a1 : W1.cell? ⟨w.heap.size, 1, none⟩ = some (.slice p.ok S.key.length p.ck) := by rw [← hW1]; simp [go_sem]
  have a2 : W1.cell? ⟨w.heap.size, 2, none⟩ = some (.slice p.ou S.uqs.length p.cu) := by rw [← hW1]; simp [go_sem]
  have b2 : W1.cell? ⟨w.heap.size + 2, 0, none⟩ = some (.bool false) := by rw [← hW1]; simp [go_sem]
  have f2 : W1.frozen? ⟨w.heap.size + 2, 0, none⟩ = false := by rw [← hW1]; simp [go_sem]
  have hz1 : W1.heap.size = w.heap.size + 3 := by rw [← hW1]; simp
  rw [hW1]
  clear hW1
  go_wp2_with fail
  refine (HFW.out _ hb1).mono ?_
  rintro e wf ⟨rfl, hbf⟩
  have HB := Lib.hid (hb1.trans (hbf.mono hb1.size))
  have b2 := cell_old b2 hbf
  have f2 : wf.frozen? ⟨w.heap.size + 2, 0, none⟩ = false := by rw [hbf.frozen (by show w.heap.size + 2 < _; omega)]; exact f2
  have hzf := hbf.size
  clear hbf a0 a1 a2 hb1
  have fin : ∀ w9, Below wf.heap.size wf w9 → w9.cell? ⟨w.heap.size + 2, 0, none⟩ = some (.bool false) ∧ w9.frozen? ⟨w.heap.size + 2, 0, none⟩ = false ∧ Below w.heap.size w w9 := fun w9 h => ⟨cell_old b2 h, by rw [h.frozen (by show w.heap.size + 2 < _; omega)]; exact f2, HB.out.trans (h.mono HB.out.size)⟩
  have FIN := Lib.hid fin
  clear fin b2 f2
  rcases hno with hf | ⟨hf, hl⟩
  · rw [hf]
    go_wp2_with fail
    refine (HWK.out _ HB.out).mono ?_
    rintro e w9 ⟨rfl, hb9⟩
    obtain ⟨r0, r0F, hb99⟩ := FIN.out _ hb9
    clear hb9
    go_wp2_with fail
    have hcell : (w9.setCell ⟨w.heap.size + 2, 0, none⟩ (.bool true)).cell? ⟨w.heap.size + 2, 0, none⟩ = some (.bool true) := World.cell?_setCell_same' _ _ _ (by rw [r0]; rfl)
    exact ⟨.bool true, by simp [results, Tryz.results5, go_sem, hcell], rfl, hb99.setCell (p := ⟨w.heap.size + 2, 0, none⟩) (by simp) _⟩
  · rw [hf]
    have hd : decide ((1000 : Int) < (bl.length : Int)) = true := decide_eq_true (by omega)
    go_wp2_with fail
    refine (HWK.out _ HB.out).mono ?_
    rintro e w9 ⟨rfl, hb9⟩
    obtain ⟨r0, r0F, hb99⟩ := FIN.out _ hb9
    clear hb9
    go_wp2_with fail
    have hcell : (w9.setCell ⟨w.heap.size + 2, 0, none⟩ (.bool true)).cell? ⟨w.heap.size + 2, 0, none⟩ = some (.bool true) := World.cell?_setCell_same' _ _ _ (by rw [r0]; rfl)
    exact ⟨.bool true, by simp [results, Tryz.results5, go_sem, hcell], rfl, hb99.setCell (p := ⟨w.heap.size + 2, 0, none⟩) (by simp) _⟩
theorem lawCEach_true (p : SchV) (S : Sch) (bv : Value) (bl : List UInt8) (many : Int) (w : World) (hg : HasET w) (hS : SchIn w p S) (m0 : S.cols.length ≤ 9223372036854775807) (m1 : S.key.length ≤ 9223372036854775807) (m2 : S.uqs.length ≤ 9223372036854775807) (m3 : ∀ c ∈ S.cols, c.n.size ≤ 9223372036854775807) (m4 : ∀ l ∈ S.uqs, l.length ≤ 9223372036854775807)
    (hb : BytesOf w bv bl) (n0 : bl.length ≤ 9223372036854775807) (hm0 : -9223372036854775808 ≤ many) (hm1 : many ≤ 9223372036854775807) :
    Calls Tryz.prog 5 #[.agg #[.slice p.oc S.cols.length p.cc, .slice p.ok S.key.length p.ck, .slice p.ou S.uqs.length p.cu], bv, .int .i64 many] w fun e w' => e = .returned (.bool true) ∧ Below w.heap.size w w' := by
  obtain ⟨ob, ca, ebv⟩ : ∃ ob ca, bv = .slice ob bl.length ca := by
    rcases hb with ⟨h, h2⟩ | ⟨a, c, h, _⟩
    · exact ⟨none, 0, by rw [h, h2]; rfl⟩
    · exact ⟨_, _, h⟩
  by_cases hf : fewOk S = true
  · by_cases hl : bl.length ≤ 1000
    · by_cases hok : schOk S = true
      · subst ebv
        exact ceach_deep p S ob ca bl many w hg hS m0 m1 m2 m3 m4 hf hok hb hl hm0 hm1
      · exact ceach_none p S bv bl many w hg hS m0 m1 m2 m3 m4 hf (by simpa using hok) hb hl hm0 hm1
    · subst ebv
      exact ceach_much p S ob ca bl many w hg hS m0 m1 m2 m3 m4 (.inr ⟨hf, by omega⟩) n0
  · subst ebv
    exact ceach_much p S ob ca bl many w hg hS m0 m1 m2 m3 m4 (.inl (by simpa using hf)) n0
end Go.Proofs.YtocmjlnhcloccaaGreatDoor
