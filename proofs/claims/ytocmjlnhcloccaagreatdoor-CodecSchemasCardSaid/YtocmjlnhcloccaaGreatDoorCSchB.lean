/-
  swingbridgeref04.EncodeSchema.
-/
import Derived.Test.YtocmjlnhcloccaaGreatDoorCSchA
import Derived.Test.YtocmjlnhcloccaaGreatDoorWaitX
import Derived.Test.YtocmjlnhcloccaaGreatDoorSSch
namespace Go.Proofs.YtocmjlnhcloccaaGreatDoor
open Go.RowKit

theorem typed_ne {W : World} {B e z n g : Nat} {v : Value} {xs cs : List Value} {ca : Array Value} {T : TypeId} (h : W.ownsRow B e z v n xs) (hg : W.heap[g]? = some (.cells ca T (0, 0))) (hT : T ≠ e) : some g ≠ v.ownBlock := fun he => by
  rcases h.2 with ⟨rfl, _⟩ | ⟨g', cap, cur, rfl, _, hgc, _⟩
  · cases he
  · have e' : g = g' := Option.some.inj he
    subst e'
    rw [hgc] at hg
    simp only [Option.some.injEq, Obj.cells.injEq] at hg
    exact hT hg.2.1.symm
structure EncF (w : World) (sc : Array Value) (W : World) (CB : Nat) (bc : Array Value) (T : TypeId) (v : Value) (M : List UInt8) : Prop where
  own : W.ownsRow (w.heap.size + 1) 5 1 v M.length (u8s M)
  below : Below w.heap.size w W
  sb : W.heap[w.heap.size]? = some (.cells sc 26 (0, 0))
  box : W.heap[CB]? = some (.cells bc T (0, 0))
  ty : T ≠ 5
theorem EncF.size {w W : World} {sc : Array Value} {CB : Nat} {bc : Array Value} {T : TypeId} {v : Value} {M : List UInt8} (h : EncF w sc W CB bc T v M) : w.heap.size + 1 ≤ W.heap.size := (Array.getElem?_eq_some_iff.1 h.sb).1
theorem EncF.keep {w W W' : World} {sc : Array Value} {CB : Nat} {bc : Array Value} {T : TypeId} {v : Value} {M : List UInt8} (h : EncF w sc W CB bc T v M) (hb : Below W.heap.size W W') : EncF w sc W' CB bc T v M := by
  have hc := h.box
  have hT := h.ty
  exact ⟨own_keep h.own hb, h.below.trans (hb.mono h.below.size), (hb.block _ (Array.getElem?_eq_some_iff.1 h.sb).1).trans h.sb, (hb.block _ (Array.getElem?_eq_some_iff.1 hc).1).trans hc, hT⟩
theorem EncF.drew {w W : World} {sc : Array Value} {CB : Nat} {bc : Array Value} {T : TypeId} {v : Value} {M : List UInt8} (h : EncF w sc W CB bc T v M) : EncF w sc W.drew CB bc T v M := h.keep (Below.refl _ _).drew
theorem EncF.app {w W W' : World} {sc : Array Value} {CB : Nat} {bc : Array Value} {T : TypeId} {v v1 : Value} {M L : List UInt8} (h : EncF w sc W CB bc T v M) (hown : W'.ownsRow (w.heap.size + 1) 5 1 v1 (M ++ L).length (u8s (M ++ L))) (hg : W.grownBy W' v.ownBlock) : EncF w sc W' CB bc T v1 (M ++ L) := by
  have hc := h.box
  have hT := h.ty
  exact ⟨hown, h.below.grown hg h.below.size (fun k hk => by have := (h.own.lt k hk).1; omega), (hg.block _ (Array.getElem?_eq_some_iff.1 h.sb).1 (typed_ne (cs := []) h.own h.sb (by decide))).trans h.sb, (hg.block _ (Array.getElem?_eq_some_iff.1 hc).1 (typed_ne (cs := []) h.own hc hT)).trans hc, hT⟩
theorem EncF.cell {w W W' : World} {sc : Array Value} {CB i : Nat} {bc : Array Value} {T : TypeId} {v x : Value} {M : List UInt8} (h : EncF w sc W CB bc T v M) (hg : W.grownBy W' v.ownBlock) (hx : W.cell? ⟨CB, i, none⟩ = some x) : W'.cell? ⟨CB, i, none⟩ = some x := by
  have hc := h.box
  have hT := h.ty
  exact (World.cell?_of_block (a := ⟨CB, i, none⟩) (hg.block _ (Array.getElem?_eq_some_iff.1 hc).1 (typed_ne (cs := []) h.own hc hT))).trans hx
theorem own_apart2 {W W2 : World} {B n m : Nat} {v u : Value} {xs ys : List Value} (h : W.ownsRow B 5 1 v n xs) (hr : W2.ownsRow W.heap.size 5 1 u m ys) : u.ownBlock = none ∨ u.ownBlock ≠ v.ownBlock := by
  cases hu : u.ownBlock with
  | none => exact .inl rfl
  | some g =>
    refine .inr (fun he => ?_)
    have h1 := (hr.lt g hu).1
    have h2 := (h.lt g he.symm).2
    omega
theorem own_mono {W : World} {B B' e z n : Nat} {v : Value} {xs : List Value} (h : W.ownsRow B e z v n xs) (hb : B' ≤ B) : W.ownsRow B' e z v n xs := by
  refine ⟨h.1, ?_⟩
  rcases h.2 with h' | ⟨g, cap, cur, h1, h2, h3⟩
  · exact .inl h'
  · exact .inr ⟨g, cap, cur, h1, Nat.le_trans hb h2, h3⟩
theorem cells3 {W : World} {b : Nat} {x y z : Value} {t : TypeId} (h : W.heap[b]? = some (.cells #[x, y, z] t (0, 0))) : W.cell? ⟨b, 0, none⟩ = some x ∧ W.cell? ⟨b, 1, none⟩ = some y ∧ W.cell? ⟨b, 2, none⟩ = some z := by
  refine ⟨?_, ?_, ?_⟩ <;> simp only [World.cell?] <;> rw [h] <;> rfl
theorem cells4 {W : World} {b : Nat} {x y z u : Value} {t : TypeId} (h : W.heap[b]? = some (.cells #[x, y, z, u] t (0, 0))) : W.cell? ⟨b, 0, none⟩ = some x ∧ W.cell? ⟨b, 1, none⟩ = some y ∧ W.cell? ⟨b, 2, none⟩ = some z ∧ W.cell? ⟨b, 3, none⟩ = some u := by
  refine ⟨?_, ?_, ?_, ?_⟩ <;> simp only [World.cell?] <;> rw [h] <;> rfl
theorem txt24 (n : ByteArray) (h : n.size ≤ 24) : (txtL n.data.toList).length ≤ 33 := by
  have hl : n.data.toList.length ≤ 24 := by rw [Array.length_toList]; exact h
  have h1 := txt_len n.data.toList (by omega)
  omega
theorem encCol_len (c : Col) (h : ColB c) : (encCol c).length ≤ 70 := by
  have h1 := txt24 c.n h.1
  have h2 := numB_le9 c.t.toNat (by have := h.2.2.1; omega)
  have h3 := numB_le9 c.z.toNat (by have := h.2.2.2.2; omega)
  have h4 := numB_le9 (if c.u = true then 1 else 0) (by split <;> omega)
  unfold encCol
  rw [List.length_append, List.length_append, List.length_append]
  omega
theorem enc_len (cs : List Col) (k : Nat) (h : ∀ c ∈ cs, ColB c) : ((cs.take k).flatMap encCol).length ≤ 70 * cs.length := by
  have : ∀ l : List Col, (∀ c ∈ l, ColB c) → (l.flatMap encCol).length ≤ 70 * l.length := by
    intro l
    induction l with
    | nil => intro _; exact Nat.le_refl _
    | cons x l ih =>
      intro h
      have h1 := encCol_len x (h x (by simp))
      have h2 := ih (fun c hc => h c (by simp [hc]))
      rw [List.flatMap_cons, List.length_append, List.length_cons]
      omega
  have h1 := this (cs.take k) (fun c hc => h c (List.mem_of_mem_take hc))
  have h2 : (cs.take k).length ≤ cs.length := by rw [List.length_take]; omega
  omega
theorem encI_len (l : List Int) (h : IntB l) : (encI l).length ≤ 90 := by
  have h1 := nsB_len l (fun x hx => by have := (h.2 x hx).2; omega)
  have h2 := numB_le9 l.length (by have := h.1; omega)
  have h3 := h.1
  unfold encI
  unfold nsB at h1
  rw [List.length_append]
  omega
end Go.Proofs.YtocmjlnhcloccaaGreatDoor
namespace Go.Proofs.YtocmjlnhcloccaaGreatDoor
open Go.RowKit

theorem schOk_len2 {S : Sch} (h : schOk S = true) : 0 < S.cols.length := by
  unfold schOk at h
  simp only [Bool.and_eq_true, decide_eq_true_eq] at h
  omega
set_option maxRecDepth 100000 in
set_option maxHeartbeats 8000000 in
theorem rEncS_ok (p : SchV) (S : Sch) (w : World) (hS : SchIn w p S) (hok : schOk S = true) (m3 : ∀ c ∈ S.cols, c.n.size ≤ 9223372036854775807) :
    Calls Tryz.prog 23 #[.agg #[.slice p.oc S.cols.length p.cc, .slice p.ok S.key.length p.ck, .slice p.ou S.uqs.length p.cu]] w fun e w' => ∃ v, e = .returned (.tuple #[v, .int .i64 0]) ∧ BytesOf w' v (schL S) ∧ Below w.heap.size w w' := by
  have hbd := schOk_bd hok
  have HRT : Hid (∀ W, Below w.heap.size w W → Calls Tryz.prog 19 #[.agg #[.slice p.oc S.cols.length p.cc, .slice p.ok S.key.length p.ck, .slice p.ou S.uqs.length p.cu]] W fun e w' => e = .returned (.bool true) ∧ Below W.heap.size W w') := Lib.hid (fun W hb => by
    have h := rRight_any p S W m3 (by have := hbd.cols; omega) (by have := hbd.uqs; omega) (by have := hbd.key.1; omega) (fun l hl => by have := (hbd.uq l hl).1; omega) (hS.keep hb (Nat.le_refl _))
    rwa [hok] at h)
  have HS := Lib.hid hS
  have HBD := Lib.hid hbd
  have h8 := hbd.cols
  have h3 := hbd.uqs
  have HN := Lib.hid (fun W n (h : n < 18446744073709551616) => rNumber_any n h W)
  have HT := Lib.hid (fun W s (h : s.size ≤ 1000000) => rText_any s W h)
  have HNS := Lib.hid (fun W oa cap l hi hl hb => rnumbers_any oa cap l W hi hl hb)
  obtain ⟨oa, hoa⟩ : ∃ oa, p.oc = some oa := by obtain ⟨a, h, _⟩ := hS.cols 0 (schOk_len2 hok); exact ⟨a, h⟩
  clear hS hok m3 hbd
  obtain ⟨oc, cc, ok, ck, ou, cu⟩ := p
  simp only at *
  subst hoa
  go_enter Tryz.func23, Tryz.ntmps23
  go_wp2_with fail
  have hB0 := (Below.refl w.heap.size w).alloc (Nat.le_refl _) (.cells #[.slice (some oa) S.cols.length cc, .slice ok S.key.length ck, .slice ou S.uqs.length cu] 26)
  refine (HRT.out _ hB0).mono ?_
  rintro e w1 ⟨rfl, hb1⟩
  have s1 : w1.heap[w.heap.size]? = some (.cells #[.slice (some oa) S.cols.length cc, .slice ok S.key.length ck, .slice ou S.uqs.length cu] 26 (0, 0)) := (hb1.block _ (by simp)).trans (heap_alloc_at w _)
  have hB1 := hB0.trans (hb1.mono (by simp))
  have x0 := (cells3 s1).1
  have x1 := (cells3 s1).2.1
  have x2 := (cells3 s1).2.2
  have hz1 := (Array.getElem?_eq_some_iff.1 s1).1
  have H1 := Lib.hid (And.intro s1 hB1)
  clear hb1 s1 hB0 hB1
  have hcv : IntKind.u64.wrap (S.cols.length : Int) = (S.cols.length : Int) := by rw [u64_nn (by omega) (by omega)]; simp
  go_wp2_with fail
  try rw [hcv]
  refine (HN.out _ S.cols.length (by omega)).mono ?_
  rintro e w2 ⟨v0, rfl, ho2, hb2⟩
  have HF0 : Hid (EncF w #[.slice (some oa) S.cols.length cc, .slice ok S.key.length ck, .slice ou S.uqs.length cu] w2 w.heap.size #[.slice (some oa) S.cols.length cc, .slice ok S.key.length ck, .slice ou S.uqs.length cu] 26 v0 (numB S.cols.length)) := Lib.hid ⟨own_mono ho2 (by omega), H1.out.2.trans (hb2.mono H1.out.2.size), (hb2.block _ hz1).trans H1.out.1, (hb2.block _ hz1).trans H1.out.1, by decide⟩
  clear ho2 hb2 H1 x0 x1 x2 hz1 hcv
  go_wp2_with fail
  go_loopw [4, 5, 6, 7] (fun o i _ _ wr => ∃ (k : Nat) (M : List UInt8), k ≤ S.cols.length ∧ i = .int .i64 k ∧ Hid (M = numB S.cols.length ++ (S.cols.take k).flatMap encCol) ∧ Hid (EncF w #[.slice (some oa) S.cols.length cc, .slice ok S.key.length ck, .slice ou S.uqs.length cu] wr w.heap.size #[.slice (some oa) S.cols.length cc, .slice ok S.key.length ck, .slice ou S.uqs.length cu] 26 o M)) (fun _ i _ _ _ => S.cols.length - (intOf i).toNat)
  case atStart => exact ⟨0, _, Nat.zero_le _, rfl, Lib.hid (by simp), HF0⟩
  case round =>
    obtain ⟨k, M, hk, rfl, HM, HFr⟩ := hrel
    have x0 := (cells3 HFr.out.sb).1
    have x1 := (cells3 HFr.out.sb).2.1
    have x2 := (cells3 HFr.out.sb).2.2
    by_cases hlt : k < S.cols.length
    · obtain ⟨c, hc⟩ : ∃ c, S.cols[k] = c := ⟨_, rfl⟩
      obtain ⟨a, ea, hat⟩ := HS.out.cols.keep HFr.out.below (Nat.le_refl _) k hlt
      have ea2 := Option.some.inj ea
      rw [← ea2, hc] at hat
      clear ea ea2
      have hcb := HBD.out.col c (hc ▸ List.getElem_mem hlt)
      obtain ⟨cn, ctI, czI, cu'⟩ := c
      obtain ⟨hn24, ht0, ht4, hz0, hz200⟩ := hcb
      simp only at hn24 ht0 ht4 hz0 hz200
      obtain ⟨ct, rfl⟩ := Int.eq_ofNat_of_zero_le ht0
      obtain ⟨cz, rfl⟩ := Int.eq_ofNat_of_zero_le hz0
      obtain ⟨q0, q1, q2, q3⟩ := hat
      have hk2 : (k : Int) < (S.cols.length : Int) := by omega
      have HML := Lib.hid (enc_len S.cols k (fun c hc => HBD.out.col c hc))
      have hMl : M.length ≤ 1000 := by have h := HML.out; have h2 := numB_le9 S.cols.length (by omega); rw [HM.out, List.length_append]; omega
      have HM2 := Lib.hid (show M ++ encCol ⟨cn, ct, cz, cu'⟩ = numB S.cols.length ++ (S.cols.take (k + 1)).flatMap encCol by rw [HM.out, List.take_succ_eq_append_getElem hlt, hc, List.flatMap_append]; simp)
      have hcv1 : IntKind.u64.wrap (ct : Int) = (ct : Int) := by rw [u64_nn (by omega) (by omega)]; simp
      have hcv2 : IntKind.u64.wrap (cz : Int) = (cz : Int) := by rw [u64_nn (by omega) (by omega)]; simp
      clear hc
      go_upto_region 9 with fail
      obtain ⟨wq, hwq⟩ : ∃ wq, wr.alloc (.cells #[.string cn, .int .i64 (ct : Int), .int .i64 (cz : Int), .bool cu'] 64) = wq := ⟨_, rfl⟩
      obtain ⟨CB, hCB⟩ : ∃ CB, wr.heap.size = CB := ⟨_, rfl⟩
      have HFq : Hid (EncF w #[.slice (some oa) S.cols.length cc, .slice ok S.key.length ck, .slice ou S.uqs.length cu] wq CB #[.string cn, .int .i64 (ct : Int), .int .i64 (cz : Int), .bool cu'] 64 u4 M) := Lib.hid (by
        have hb := (Below.refl wr.heap.size wr).alloc (Nat.le_refl _) (.cells #[.string cn, .int .i64 (ct : Int), .int .i64 (cz : Int), .bool cu'] 64)
        have h := HFr.out.keep hb
        rw [← hwq, ← hCB]
        exact ⟨h.own, h.below, h.sb, heap_alloc_at wr _, by decide⟩)
      have c0 : wq.cell? ⟨CB, 0, none⟩ = some (.string cn) := by rw [← hwq, ← hCB]; simp [go_sem]
      have c1 : wq.cell? ⟨CB, 1, none⟩ = some (.int .i64 (ct : Int)) := by rw [← hwq, ← hCB]; simp [go_sem]
      have c2 : wq.cell? ⟨CB, 2, none⟩ = some (.int .i64 (cz : Int)) := by rw [← hwq, ← hCB]; simp [go_sem]
      have c3 : wq.cell? ⟨CB, 3, none⟩ = some (.bool cu') := by rw [← hwq, ← hCB]; simp [go_sem]
      rw [hwq]
      try rw [hCB]
      clear hwq hCB q0 q1 q2 q3 x0 x1 x2 HFr
      have HTX := Lib.hid (fun W => HT.out W cn (by omega))
      have HNT := Lib.hid (fun W => HN.out W ct (by omega))
      have hlT := txt24 cn hn24
      have hlN := numB_le9 ct (by omega)
      have hneT : txtL cn.data.toList ≠ [] := by unfold txtL numB; simp
      have hneN : numB ct ≠ [] := by unfold numB; simp
      cases cu' with
      | false =>
        go_upto_region 11 with fail
        obtain ⟨o, ho⟩ : ∃ o, u4 = o := ⟨_, rfl⟩
        rw [ho] at HFq
        rw [ho]
        clear ho
        go_cut [4, 5, 6, 7] from 17 to 49 (fun s4 s5 s6 s7 wx => ∃ v2, s4 = v2 ∧ s5 = .int .i64 k ∧ s6 = .pointer (some ⟨CB, 0, none⟩) ∧ s7 = .int .u64 0 ∧ Hid (EncF w #[.slice (some oa) S.cols.length cc, .slice ok S.key.length ck, .slice ou S.uqs.length cu] wx CB #[.string cn, .int .i64 (ct : Int), .int .i64 (cz : Int), .bool false] 64 v2 (M ++ txtL cn.data.toList ++ numB ct)))
        case first =>
          have hS0 := And.intro (show wq.drew.cell? ⟨CB, 0, none⟩ = some (.string cn) from c0) (show wq.drew.cell? ⟨CB, 1, none⟩ = some (.int .i64 (ct : Int)) from c1)
          have HF := HFq
          clear c0 c1 c2 c3 HFq
          refine wp_region_noPanic ?_
          obtain ⟨W, hW⟩ : ∃ W, wq.drew = W := ⟨_, rfl⟩
          have hf := HF.out.drew
          have hS : (fun W => W.cell? ⟨CB, 0, none⟩ = some (.string cn) ∧ W.cell? ⟨CB, 1, none⟩ = some (.int .i64 (ct : Int))) wq.drew := hS0
          rw [hW] at hf hS
          refine wp_region_X (S := fun W => W.cell? ⟨CB, 0, none⟩ = some (.string cn) ∧ W.cell? ⟨CB, 1, none⟩ = some (.int .i64 (ct : Int))) (X := [9, 10]) (by kernel_rfl) ?_
          rw [hW]
          clear hW HF hS0
          have HCL := Region.closed_none (md := .any) (ops := #[{ dst := some 31, op := Go.Op.move (Go.Operand.tmp 4), type := 31, pos := "ref.go:157", after := #[], guard := none }, { dst := some 32, op := Go.Op.fieldAddr 64 (Go.Operand.tmp 6) 0, type := 0, pos := "ref.go:157", after := #[], guard := none }, { dst := some 33, op := Go.Op.load 9 (Go.Operand.tmp 32), type := 9, pos := "ref.go:157", after := #[{ on := 1, ground := Go.Ground.data }], guard := none }, { dst := some 34, op := Go.Op.call { callee := Go.Callee.value (Go.Operand.func 50), args := #[Go.Operand.tmp 33], argTypes := #[9] }, type := 31, pos := "ref.go:157", after := #[{ on := 2, ground := Go.Ground.data }], guard := none }, { dst := some 35, op := Go.Op.call { callee := Go.Callee.builtin Go.Builtin.append, args := #[Go.Operand.tmp 31, Go.Operand.tmp 34], argTypes := #[31, 31] }, type := 31, pos := "ref.go:157", after := #[{ on := 0, ground := Go.Ground.data }, { on := 3, ground := Go.Ground.data }, { on := 3, ground := Go.Ground.chain }], guard := none }, { dst := some 36, op := Go.Op.fieldAddr 64 (Go.Operand.tmp 6) 1, type := 0, pos := "ref.go:157", after := #[], guard := none }, { dst := some 37, op := Go.Op.load 62 (Go.Operand.tmp 36), type := 62, pos := "ref.go:157", after := #[{ on := 5, ground := Go.Ground.data }], guard := none }, { dst := some 38, op := Go.Op.convert 3 66 (Go.Operand.tmp 37), type := 66, pos := "ref.go:157", after := #[{ on := 6, ground := Go.Ground.data }], guard := none }, { dst := some 39, op := Go.Op.call { callee := Go.Callee.value (Go.Operand.func 49), args := #[Go.Operand.tmp 38], argTypes := #[66] }, type := 31, pos := "ref.go:157", after := #[{ on := 7, ground := Go.Ground.data }, { on := 4, ground := Go.Ground.chain }], guard := none }, { dst := some 40, op := Go.Op.call { callee := Go.Callee.builtin Go.Builtin.append, args := #[Go.Operand.tmp 35, Go.Operand.tmp 39], argTypes := #[31, 31] }, type := 31, pos := "ref.go:157", after := #[{ on := 4, ground := Go.Ground.data }, { on := 8, ground := Go.Ground.data }, { on := 8, ground := Go.Ground.chain }], guard := none }, { dst := some 4, op := Go.Op.assign (Go.Operand.tmp 40), type := 31, pos := "ref.go:157", after := #[{ on := 9, ground := Go.Ground.data }, { on := 9, ground := Go.Ground.chain }, { on := 0, ground := Go.Ground.phase }, { on := 1, ground := Go.Ground.phase }, { on := 2, ground := Go.Ground.phase }, { on := 3, ground := Go.Ground.phase }, { on := 4, ground := Go.Ground.phase }, { on := 5, ground := Go.Ground.phase }, { on := 6, ground := Go.Ground.phase }, { on := 7, ground := Go.Ground.phase }, { on := 8, ground := Go.Ground.phase }, { on := 9, ground := Go.Ground.phase }], guard := none }]) 11
          refine wpAnyX_take (i := 0) (oi := { dst := some 31, op := Go.Op.move (Go.Operand.tmp 4), type := 31, pos := "ref.go:157", after := #[], guard := none }) (v := o) rfl (by kernel_rfl) (by kernel_rfl) (by kernel_rfl) (fun _ _ _ h => h) (Region.waits_all (by kernel_rfl)) HCL (Or.inl ⟨by rfl, ?hy0q1⟩) hS (fun HCL2 => ?rest0q1)
          case hy0q1 => (rintro W ⟨e5, e6⟩; go_simp; try with_reducible rfl)
          clear HCL
          have HCL := HCL2
          clear HCL2
          try simp only [Act.put, List.setIfInBounds_toArray, List.set_cons_zero, List.set_cons_succ]
          refine wpAnyX_take (i := 1) (oi := { dst := some 32, op := Go.Op.fieldAddr 64 (Go.Operand.tmp 6) 0, type := 0, pos := "ref.go:157", after := #[], guard := none }) (v := .pointer (some ⟨CB, 0, none⟩)) rfl (by kernel_rfl) (by kernel_rfl) (by kernel_rfl) (fun _ _ _ h => h) (Region.waits_all (by kernel_rfl)) HCL (Or.inl ⟨by rfl, ?hy1q1⟩) hS (fun HCL2 => ?rest1q1)
          case hy1q1 => (rintro W ⟨e5, e6⟩; go_simp; try with_reducible rfl)
          clear HCL
          have HCL := HCL2
          clear HCL2
          try simp only [Act.put, List.setIfInBounds_toArray, List.set_cons_zero, List.set_cons_succ]
          refine wpAnyX_take (i := 2) (oi := { dst := some 33, op := Go.Op.load 9 (Go.Operand.tmp 32), type := 9, pos := "ref.go:157", after := #[{ on := 1, ground := Go.Ground.data }], guard := none }) (v := .string cn) rfl (by kernel_rfl) (by kernel_rfl) (by kernel_rfl) (fun _ _ _ h => h) (Region.waits_all (by kernel_rfl)) HCL (Or.inl ⟨by rfl, ?hy2q1⟩) hS (fun HCL2 => ?rest2q1)
          case hy2q1 => (rintro W ⟨e5, e6⟩; go_simp; try with_reducible rfl)
          clear HCL
          have HCL := HCL2
          clear HCL2
          try simp only [Act.put, List.setIfInBounds_toArray, List.set_cons_zero, List.set_cons_succ]
          refine wpAnyX_take (i := 5) (oi := { dst := some 36, op := Go.Op.fieldAddr 64 (Go.Operand.tmp 6) 1, type := 0, pos := "ref.go:157", after := #[], guard := none }) (v := .pointer (some ⟨CB, 1, none⟩)) rfl (by kernel_rfl) (by kernel_rfl) (by kernel_rfl) (fun _ _ _ h => h) (Region.waits_all (by kernel_rfl)) HCL (Or.inl ⟨by rfl, ?hy5q1⟩) hS (fun HCL2 => ?rest5q1)
          case hy5q1 => (rintro W ⟨e5, e6⟩; go_simp; try with_reducible rfl)
          clear HCL
          have HCL := HCL2
          clear HCL2
          try simp only [Act.put, List.setIfInBounds_toArray, List.set_cons_zero, List.set_cons_succ]
          refine wpAnyX_take (i := 6) (oi := { dst := some 37, op := Go.Op.load 62 (Go.Operand.tmp 36), type := 62, pos := "ref.go:157", after := #[{ on := 5, ground := Go.Ground.data }], guard := none }) (v := .int .i64 (ct : Int)) rfl (by kernel_rfl) (by kernel_rfl) (by kernel_rfl) (fun _ _ _ h => h) (Region.waits_all (by kernel_rfl)) HCL (Or.inl ⟨by rfl, ?hy6q1⟩) hS (fun HCL2 => ?rest6q1)
          case hy6q1 => (rintro W ⟨e5, e6⟩; go_simp; try with_reducible rfl)
          clear HCL
          have HCL := HCL2
          clear HCL2
          try simp only [Act.put, List.setIfInBounds_toArray, List.set_cons_zero, List.set_cons_succ]
          refine wpAnyX_take (i := 7) (oi := { dst := some 38, op := Go.Op.convert 3 66 (Go.Operand.tmp 37), type := 66, pos := "ref.go:157", after := #[{ on := 6, ground := Go.Ground.data }], guard := none }) (v := .int .u64 (ct : Int)) rfl (by kernel_rfl) (by kernel_rfl) (by kernel_rfl) (fun _ _ _ h => h) (Region.waits_all (by kernel_rfl)) HCL (Or.inl ⟨by rfl, ?hy7q1⟩) hS (fun HCL2 => ?rest7q1)
          case hy7q1 => (rintro W ⟨e5, e6⟩; go_simp; try with_reducible rfl)
          clear HCL
          have HCL := HCL2
          clear HCL2
          try simp only [Act.put, List.setIfInBounds_toArray, List.set_cons_zero, List.set_cons_succ]
          clear HCL
          refine wpAnyX_single (i := 3) (o := { dst := some 34, op := Go.Op.call { callee := Go.Callee.value (Go.Operand.func 50), args := #[Go.Operand.tmp 33], argTypes := #[9] }, type := 31, pos := "ref.go:157", after := #[{ on := 2, ground := Go.Ground.data }], guard := none }) (by kernel_rfl) rfl (fun K hK => ?_)
          go_simp
          go_at_call 50
          refine (HTX.out _).mono ?_
          rintro e W2 ⟨uT, rfl, rT, hb2⟩
          have hf2 := hf.keep hb2
          have hS2 := And.intro (cell_old hS.1 hb2) (cell_old hS.2 hb2)
          refine hK.out _ _ (fun _ => hS2) ?_
          clear hK K
          try simp only [Act.put, List.setIfInBounds_toArray, List.set_cons_zero, List.set_cons_succ]
          have dT := own_apart2 hf.own rT
          clear hf hS hb2
          have hf := hf2
          have hS := hS2
          clear hf2 hS2
          refine wpAnyX_single (i := 4) (o := { dst := some 35, op := Go.Op.call { callee := Go.Callee.builtin Go.Builtin.append, args := #[Go.Operand.tmp 31, Go.Operand.tmp 34], argTypes := #[31, 31] }, type := 31, pos := "ref.go:157", after := #[{ on := 0, ground := Go.Ground.data }, { on := 3, ground := Go.Ground.data }, { on := 3, ground := Go.Ground.chain }], guard := none }) (by kernel_rfl) rfl (fun K hK => ?_)
          refine step_append_bytes rfl (.tmp 31) (.tmp 34) rfl (w.heap.size + 1) o uT M.length M (txtL cn.data.toList) ?hsq1 ?hxq1 hf.own rfl (BytesOf.own rT) hneT (by omega) hf.size ?_
          case hxq1 => (simp [Act.eval]; done)
          case hsq1 => (simp [Act.eval]; done)
          intro v1 W2 hown hg
          have hf2 := hf.app hown hg
          have hS2 := And.intro (hf.cell hg hS.1) (hf.cell hg hS.2)
          refine hK.out _ _ (fun _ => hS2) ?_
          clear hK K
          try simp only [Act.put, List.setIfInBounds_toArray, List.set_cons_zero, List.set_cons_succ]
          clear hf hS hown hg rT dT
          have hf := hf2
          have hS := hS2
          clear hf2 hS2
          refine wpAnyX_single (i := 8) (o := { dst := some 39, op := Go.Op.call { callee := Go.Callee.value (Go.Operand.func 49), args := #[Go.Operand.tmp 38], argTypes := #[66] }, type := 31, pos := "ref.go:157", after := #[{ on := 7, ground := Go.Ground.data }, { on := 4, ground := Go.Ground.chain }], guard := none }) (by kernel_rfl) rfl (fun K hK => ?_)
          go_simp
          go_at_call 49
          refine (HNT.out _).mono ?_
          rintro e W2 ⟨uN, rfl, rN, hb2⟩
          have hf2 := hf.keep hb2
          have hS2 := And.intro (cell_old hS.1 hb2) (cell_old hS.2 hb2)
          refine hK.out _ _ (fun _ => hS2) ?_
          clear hK K
          try simp only [Act.put, List.setIfInBounds_toArray, List.set_cons_zero, List.set_cons_succ]
          have dN := own_apart2 hf.own rN
          clear hf hS hb2
          have hf := hf2
          have hS := hS2
          clear hf2 hS2
          refine wpAnyX_single (i := 9) (o := { dst := some 40, op := Go.Op.call { callee := Go.Callee.builtin Go.Builtin.append, args := #[Go.Operand.tmp 35, Go.Operand.tmp 39], argTypes := #[31, 31] }, type := 31, pos := "ref.go:157", after := #[{ on := 4, ground := Go.Ground.data }, { on := 8, ground := Go.Ground.data }, { on := 8, ground := Go.Ground.chain }], guard := none }) (by kernel_rfl) rfl (fun K hK => ?_)
          refine step_append_bytes rfl (.tmp 35) (.tmp 39) rfl (w.heap.size + 1) v1 uN (M ++ txtL cn.data.toList).length (M ++ txtL cn.data.toList) (numB ct) ?hs2q1 ?hx2q1 hf.own rfl (BytesOf.own rN) hneN (by rw [List.length_append]; omega) hf.size ?_
          case hx2q1 => (simp [Act.eval]; done)
          case hs2q1 => (simp [Act.eval]; done)
          intro v2 W2 hown hg
          have hf2 := hf.app hown hg
          refine hK.out _ _ (fun h => absurd (by decide) h) ?_
          clear hK K hown hg hf hS
          try simp only [Act.put, List.setIfInBounds_toArray, List.set_cons_zero, List.set_cons_succ]
          refine wpAnyX_single (i := 10) (o := { dst := some 4, op := Go.Op.assign (Go.Operand.tmp 40), type := 31, pos := "ref.go:157", after := #[{ on := 9, ground := Go.Ground.data }, { on := 9, ground := Go.Ground.chain }, { on := 0, ground := Go.Ground.phase }, { on := 1, ground := Go.Ground.phase }, { on := 2, ground := Go.Ground.phase }, { on := 3, ground := Go.Ground.phase }, { on := 4, ground := Go.Ground.phase }, { on := 5, ground := Go.Ground.phase }, { on := 6, ground := Go.Ground.phase }, { on := 7, ground := Go.Ground.phase }, { on := 8, ground := Go.Ground.phase }, { on := 9, ground := Go.Ground.phase }], guard := none }) (by kernel_rfl) rfl (fun K hK => ?_)
          go_simp
          refine hK.out _ _ (fun h => absurd (by decide) h) ?_
          clear hK K
          try simp only [Act.put, List.setIfInBounds_toArray, List.set_cons_zero, List.set_cons_succ]
          refine wpAnyX_done (by kernel_rfl) ?_ _
          refine NoPanic.normal ?_
          go_wp2_with fail
          go_meet
          exact ⟨v2, rfl, rfl, rfl, rfl, Lib.hid hf2⟩
        case rest =>
          obtain ⟨v2, rfl, rfl, rfl, rfl, HF2⟩ := hcut
          clear c0 c1 c2 c3 HFq HTX HNT
          have c2 := (cells4 HF2.out.box).2.2.1
          have hb2z := HF2.out.size
          go_wp2_with fail
          try rw [hcv2]
          refine (HN.out _ cz (by omega)).mono ?_
          rintro e w3 ⟨v3, rfl, ho3, hb3⟩
          have HF3 := Lib.hid (HF2.out.keep hb3)
          have HS3 := Lib.hid (BytesOf.own ho3)
          clear ho3 hb3 c2
          have h3z := HF3.out.size
          have h9z := numB_le9 cz (by omega)
          have h9u := numB_le9 0 (by omega)
          go_wp2_with (at_builtin; refine wpList_append_bytes rfl _ _ rfl (w.heap.size + 1) _ _ _ (M ++ txtL cn.data.toList ++ numB ct) (numB cz) rfl rfl HF3.out.own rfl HS3.out ?c1q1 ?c2q1 ?_)
          case c1q1 => simp only [List.length_append]; omega
          case c2q1 => exact h3z
          intro v4 w4 hown4 hg4
          have HF4 := Lib.hid (HF3.out.app (L := numB cz) (by simpa only [List.length_append, List.append_assoc, Nat.add_assoc] using hown4) hg4)
          clear hown4 hg4
          have h4z := HF4.out.size
          go_wp2_with fail
          refine (HN.out _ 0 (by omega)).mono ?_
          rintro e w5 ⟨v5, rfl, ho5, hb5⟩
          have HF5 := Lib.hid (HF4.out.keep hb5)
          have HS5 := Lib.hid (BytesOf.own ho5)
          clear ho5 hb5
          have h5z := HF5.out.size
          go_wp2_with (at_builtin; refine wpList_append_bytes rfl _ _ rfl (w.heap.size + 1) _ _ _ (M ++ txtL cn.data.toList ++ numB ct ++ numB cz) (numB 0) rfl rfl HF5.out.own rfl HS5.out ?c5q1 ?c6q1 ?_)
          case c5q1 => simp only [List.length_append]; omega
          case c6q1 => exact h5z
          intro v6 w6 hown6 hg6
          have HF6 := Lib.hid (HF5.out.app (L := numB 0) (by simpa only [List.length_append, List.append_assoc, Nat.add_assoc] using hown6) hg6)
          clear hown6 hg6
          go_wp2_with fail
          go_roundw
          case rel => exact ⟨k + 1, M ++ encCol ⟨cn, ct, cz, false⟩, by omega, by go_num, HM2, Lib.hid (by
              have h := HF6.out
              have e : M ++ txtL cn.data.toList ++ numB ct ++ numB cz ++ numB 0 = M ++ encCol ⟨cn, ct, cz, false⟩ := by unfold encCol; simp
              rw [e] at h
              exact ⟨h.own, h.below, h.sb, h.sb, by decide⟩)⟩
          case measure => simp [intOf]; omega
      | true =>
        go_upto_region 11 with fail
        obtain ⟨o, ho⟩ : ∃ o, u4 = o := ⟨_, rfl⟩
        rw [ho] at HFq
        rw [ho]
        clear ho
        go_cut [4, 5, 6, 7] from 17 to 49 (fun s4 s5 s6 s7 wx => ∃ v2, s4 = v2 ∧ s5 = .int .i64 k ∧ s6 = .pointer (some ⟨CB, 0, none⟩) ∧ s7 = .int .u64 1 ∧ Hid (EncF w #[.slice (some oa) S.cols.length cc, .slice ok S.key.length ck, .slice ou S.uqs.length cu] wx CB #[.string cn, .int .i64 (ct : Int), .int .i64 (cz : Int), .bool true] 64 v2 (M ++ txtL cn.data.toList ++ numB ct)))
        case first =>
          have hS0 := And.intro (show wq.drew.cell? ⟨CB, 0, none⟩ = some (.string cn) from c0) (show wq.drew.cell? ⟨CB, 1, none⟩ = some (.int .i64 (ct : Int)) from c1)
          have HF := HFq
          clear c0 c1 c2 c3 HFq
          refine wp_region_noPanic ?_
          obtain ⟨W, hW⟩ : ∃ W, wq.drew = W := ⟨_, rfl⟩
          have hf := HF.out.drew
          have hS : (fun W => W.cell? ⟨CB, 0, none⟩ = some (.string cn) ∧ W.cell? ⟨CB, 1, none⟩ = some (.int .i64 (ct : Int))) wq.drew := hS0
          rw [hW] at hf hS
          refine wp_region_X (S := fun W => W.cell? ⟨CB, 0, none⟩ = some (.string cn) ∧ W.cell? ⟨CB, 1, none⟩ = some (.int .i64 (ct : Int))) (X := [9, 10]) (by kernel_rfl) ?_
          rw [hW]
          clear hW HF hS0
          have HCL := Region.closed_none (md := .any) (ops := #[{ dst := some 31, op := Go.Op.move (Go.Operand.tmp 4), type := 31, pos := "ref.go:157", after := #[], guard := none }, { dst := some 32, op := Go.Op.fieldAddr 64 (Go.Operand.tmp 6) 0, type := 0, pos := "ref.go:157", after := #[], guard := none }, { dst := some 33, op := Go.Op.load 9 (Go.Operand.tmp 32), type := 9, pos := "ref.go:157", after := #[{ on := 1, ground := Go.Ground.data }], guard := none }, { dst := some 34, op := Go.Op.call { callee := Go.Callee.value (Go.Operand.func 50), args := #[Go.Operand.tmp 33], argTypes := #[9] }, type := 31, pos := "ref.go:157", after := #[{ on := 2, ground := Go.Ground.data }], guard := none }, { dst := some 35, op := Go.Op.call { callee := Go.Callee.builtin Go.Builtin.append, args := #[Go.Operand.tmp 31, Go.Operand.tmp 34], argTypes := #[31, 31] }, type := 31, pos := "ref.go:157", after := #[{ on := 0, ground := Go.Ground.data }, { on := 3, ground := Go.Ground.data }, { on := 3, ground := Go.Ground.chain }], guard := none }, { dst := some 36, op := Go.Op.fieldAddr 64 (Go.Operand.tmp 6) 1, type := 0, pos := "ref.go:157", after := #[], guard := none }, { dst := some 37, op := Go.Op.load 62 (Go.Operand.tmp 36), type := 62, pos := "ref.go:157", after := #[{ on := 5, ground := Go.Ground.data }], guard := none }, { dst := some 38, op := Go.Op.convert 3 66 (Go.Operand.tmp 37), type := 66, pos := "ref.go:157", after := #[{ on := 6, ground := Go.Ground.data }], guard := none }, { dst := some 39, op := Go.Op.call { callee := Go.Callee.value (Go.Operand.func 49), args := #[Go.Operand.tmp 38], argTypes := #[66] }, type := 31, pos := "ref.go:157", after := #[{ on := 7, ground := Go.Ground.data }, { on := 4, ground := Go.Ground.chain }], guard := none }, { dst := some 40, op := Go.Op.call { callee := Go.Callee.builtin Go.Builtin.append, args := #[Go.Operand.tmp 35, Go.Operand.tmp 39], argTypes := #[31, 31] }, type := 31, pos := "ref.go:157", after := #[{ on := 4, ground := Go.Ground.data }, { on := 8, ground := Go.Ground.data }, { on := 8, ground := Go.Ground.chain }], guard := none }, { dst := some 4, op := Go.Op.assign (Go.Operand.tmp 40), type := 31, pos := "ref.go:157", after := #[{ on := 9, ground := Go.Ground.data }, { on := 9, ground := Go.Ground.chain }, { on := 0, ground := Go.Ground.phase }, { on := 1, ground := Go.Ground.phase }, { on := 2, ground := Go.Ground.phase }, { on := 3, ground := Go.Ground.phase }, { on := 4, ground := Go.Ground.phase }, { on := 5, ground := Go.Ground.phase }, { on := 6, ground := Go.Ground.phase }, { on := 7, ground := Go.Ground.phase }, { on := 8, ground := Go.Ground.phase }, { on := 9, ground := Go.Ground.phase }], guard := none }]) 11
          refine wpAnyX_take (i := 0) (oi := { dst := some 31, op := Go.Op.move (Go.Operand.tmp 4), type := 31, pos := "ref.go:157", after := #[], guard := none }) (v := o) rfl (by kernel_rfl) (by kernel_rfl) (by kernel_rfl) (fun _ _ _ h => h) (Region.waits_all (by kernel_rfl)) HCL (Or.inl ⟨by rfl, ?hy0q2⟩) hS (fun HCL2 => ?rest0q2)
          case hy0q2 => (rintro W ⟨e5, e6⟩; go_simp; try with_reducible rfl)
          clear HCL
          have HCL := HCL2
          clear HCL2
          try simp only [Act.put, List.setIfInBounds_toArray, List.set_cons_zero, List.set_cons_succ]
          refine wpAnyX_take (i := 1) (oi := { dst := some 32, op := Go.Op.fieldAddr 64 (Go.Operand.tmp 6) 0, type := 0, pos := "ref.go:157", after := #[], guard := none }) (v := .pointer (some ⟨CB, 0, none⟩)) rfl (by kernel_rfl) (by kernel_rfl) (by kernel_rfl) (fun _ _ _ h => h) (Region.waits_all (by kernel_rfl)) HCL (Or.inl ⟨by rfl, ?hy1q2⟩) hS (fun HCL2 => ?rest1q2)
          case hy1q2 => (rintro W ⟨e5, e6⟩; go_simp; try with_reducible rfl)
          clear HCL
          have HCL := HCL2
          clear HCL2
          try simp only [Act.put, List.setIfInBounds_toArray, List.set_cons_zero, List.set_cons_succ]
          refine wpAnyX_take (i := 2) (oi := { dst := some 33, op := Go.Op.load 9 (Go.Operand.tmp 32), type := 9, pos := "ref.go:157", after := #[{ on := 1, ground := Go.Ground.data }], guard := none }) (v := .string cn) rfl (by kernel_rfl) (by kernel_rfl) (by kernel_rfl) (fun _ _ _ h => h) (Region.waits_all (by kernel_rfl)) HCL (Or.inl ⟨by rfl, ?hy2q2⟩) hS (fun HCL2 => ?rest2q2)
          case hy2q2 => (rintro W ⟨e5, e6⟩; go_simp; try with_reducible rfl)
          clear HCL
          have HCL := HCL2
          clear HCL2
          try simp only [Act.put, List.setIfInBounds_toArray, List.set_cons_zero, List.set_cons_succ]
          refine wpAnyX_take (i := 5) (oi := { dst := some 36, op := Go.Op.fieldAddr 64 (Go.Operand.tmp 6) 1, type := 0, pos := "ref.go:157", after := #[], guard := none }) (v := .pointer (some ⟨CB, 1, none⟩)) rfl (by kernel_rfl) (by kernel_rfl) (by kernel_rfl) (fun _ _ _ h => h) (Region.waits_all (by kernel_rfl)) HCL (Or.inl ⟨by rfl, ?hy5q2⟩) hS (fun HCL2 => ?rest5q2)
          case hy5q2 => (rintro W ⟨e5, e6⟩; go_simp; try with_reducible rfl)
          clear HCL
          have HCL := HCL2
          clear HCL2
          try simp only [Act.put, List.setIfInBounds_toArray, List.set_cons_zero, List.set_cons_succ]
          refine wpAnyX_take (i := 6) (oi := { dst := some 37, op := Go.Op.load 62 (Go.Operand.tmp 36), type := 62, pos := "ref.go:157", after := #[{ on := 5, ground := Go.Ground.data }], guard := none }) (v := .int .i64 (ct : Int)) rfl (by kernel_rfl) (by kernel_rfl) (by kernel_rfl) (fun _ _ _ h => h) (Region.waits_all (by kernel_rfl)) HCL (Or.inl ⟨by rfl, ?hy6q2⟩) hS (fun HCL2 => ?rest6q2)
          case hy6q2 => (rintro W ⟨e5, e6⟩; go_simp; try with_reducible rfl)
          clear HCL
          have HCL := HCL2
          clear HCL2
          try simp only [Act.put, List.setIfInBounds_toArray, List.set_cons_zero, List.set_cons_succ]
          refine wpAnyX_take (i := 7) (oi := { dst := some 38, op := Go.Op.convert 3 66 (Go.Operand.tmp 37), type := 66, pos := "ref.go:157", after := #[{ on := 6, ground := Go.Ground.data }], guard := none }) (v := .int .u64 (ct : Int)) rfl (by kernel_rfl) (by kernel_rfl) (by kernel_rfl) (fun _ _ _ h => h) (Region.waits_all (by kernel_rfl)) HCL (Or.inl ⟨by rfl, ?hy7q2⟩) hS (fun HCL2 => ?rest7q2)
          case hy7q2 => (rintro W ⟨e5, e6⟩; go_simp; try with_reducible rfl)
          clear HCL
          have HCL := HCL2
          clear HCL2
          try simp only [Act.put, List.setIfInBounds_toArray, List.set_cons_zero, List.set_cons_succ]
          clear HCL
          refine wpAnyX_single (i := 3) (o := { dst := some 34, op := Go.Op.call { callee := Go.Callee.value (Go.Operand.func 50), args := #[Go.Operand.tmp 33], argTypes := #[9] }, type := 31, pos := "ref.go:157", after := #[{ on := 2, ground := Go.Ground.data }], guard := none }) (by kernel_rfl) rfl (fun K hK => ?_)
          go_simp
          go_at_call 50
          refine (HTX.out _).mono ?_
          rintro e W2 ⟨uT, rfl, rT, hb2⟩
          have hf2 := hf.keep hb2
          have hS2 := And.intro (cell_old hS.1 hb2) (cell_old hS.2 hb2)
          refine hK.out _ _ (fun _ => hS2) ?_
          clear hK K
          try simp only [Act.put, List.setIfInBounds_toArray, List.set_cons_zero, List.set_cons_succ]
          have dT := own_apart2 hf.own rT
          clear hf hS hb2
          have hf := hf2
          have hS := hS2
          clear hf2 hS2
          refine wpAnyX_single (i := 4) (o := { dst := some 35, op := Go.Op.call { callee := Go.Callee.builtin Go.Builtin.append, args := #[Go.Operand.tmp 31, Go.Operand.tmp 34], argTypes := #[31, 31] }, type := 31, pos := "ref.go:157", after := #[{ on := 0, ground := Go.Ground.data }, { on := 3, ground := Go.Ground.data }, { on := 3, ground := Go.Ground.chain }], guard := none }) (by kernel_rfl) rfl (fun K hK => ?_)
          refine step_append_bytes rfl (.tmp 31) (.tmp 34) rfl (w.heap.size + 1) o uT M.length M (txtL cn.data.toList) ?hsq2 ?hxq2 hf.own rfl (BytesOf.own rT) hneT (by omega) hf.size ?_
          case hxq2 => (simp [Act.eval]; done)
          case hsq2 => (simp [Act.eval]; done)
          intro v1 W2 hown hg
          have hf2 := hf.app hown hg
          have hS2 := And.intro (hf.cell hg hS.1) (hf.cell hg hS.2)
          refine hK.out _ _ (fun _ => hS2) ?_
          clear hK K
          try simp only [Act.put, List.setIfInBounds_toArray, List.set_cons_zero, List.set_cons_succ]
          clear hf hS hown hg rT dT
          have hf := hf2
          have hS := hS2
          clear hf2 hS2
          refine wpAnyX_single (i := 8) (o := { dst := some 39, op := Go.Op.call { callee := Go.Callee.value (Go.Operand.func 49), args := #[Go.Operand.tmp 38], argTypes := #[66] }, type := 31, pos := "ref.go:157", after := #[{ on := 7, ground := Go.Ground.data }, { on := 4, ground := Go.Ground.chain }], guard := none }) (by kernel_rfl) rfl (fun K hK => ?_)
          go_simp
          go_at_call 49
          refine (HNT.out _).mono ?_
          rintro e W2 ⟨uN, rfl, rN, hb2⟩
          have hf2 := hf.keep hb2
          have hS2 := And.intro (cell_old hS.1 hb2) (cell_old hS.2 hb2)
          refine hK.out _ _ (fun _ => hS2) ?_
          clear hK K
          try simp only [Act.put, List.setIfInBounds_toArray, List.set_cons_zero, List.set_cons_succ]
          have dN := own_apart2 hf.own rN
          clear hf hS hb2
          have hf := hf2
          have hS := hS2
          clear hf2 hS2
          refine wpAnyX_single (i := 9) (o := { dst := some 40, op := Go.Op.call { callee := Go.Callee.builtin Go.Builtin.append, args := #[Go.Operand.tmp 35, Go.Operand.tmp 39], argTypes := #[31, 31] }, type := 31, pos := "ref.go:157", after := #[{ on := 4, ground := Go.Ground.data }, { on := 8, ground := Go.Ground.data }, { on := 8, ground := Go.Ground.chain }], guard := none }) (by kernel_rfl) rfl (fun K hK => ?_)
          refine step_append_bytes rfl (.tmp 35) (.tmp 39) rfl (w.heap.size + 1) v1 uN (M ++ txtL cn.data.toList).length (M ++ txtL cn.data.toList) (numB ct) ?hs2q2 ?hx2q2 hf.own rfl (BytesOf.own rN) hneN (by rw [List.length_append]; omega) hf.size ?_
          case hx2q2 => (simp [Act.eval]; done)
          case hs2q2 => (simp [Act.eval]; done)
          intro v2 W2 hown hg
          have hf2 := hf.app hown hg
          refine hK.out _ _ (fun h => absurd (by decide) h) ?_
          clear hK K hown hg hf hS
          try simp only [Act.put, List.setIfInBounds_toArray, List.set_cons_zero, List.set_cons_succ]
          refine wpAnyX_single (i := 10) (o := { dst := some 4, op := Go.Op.assign (Go.Operand.tmp 40), type := 31, pos := "ref.go:157", after := #[{ on := 9, ground := Go.Ground.data }, { on := 9, ground := Go.Ground.chain }, { on := 0, ground := Go.Ground.phase }, { on := 1, ground := Go.Ground.phase }, { on := 2, ground := Go.Ground.phase }, { on := 3, ground := Go.Ground.phase }, { on := 4, ground := Go.Ground.phase }, { on := 5, ground := Go.Ground.phase }, { on := 6, ground := Go.Ground.phase }, { on := 7, ground := Go.Ground.phase }, { on := 8, ground := Go.Ground.phase }, { on := 9, ground := Go.Ground.phase }], guard := none }) (by kernel_rfl) rfl (fun K hK => ?_)
          go_simp
          refine hK.out _ _ (fun h => absurd (by decide) h) ?_
          clear hK K
          try simp only [Act.put, List.setIfInBounds_toArray, List.set_cons_zero, List.set_cons_succ]
          refine wpAnyX_done (by kernel_rfl) ?_ _
          refine NoPanic.normal ?_
          go_wp2_with fail
          go_meet
          exact ⟨v2, rfl, rfl, rfl, rfl, Lib.hid hf2⟩
        case rest =>
          obtain ⟨v2, rfl, rfl, rfl, rfl, HF2⟩ := hcut
          clear c0 c1 c2 c3 HFq HTX HNT
          have c2 := (cells4 HF2.out.box).2.2.1
          have hb2z := HF2.out.size
          go_wp2_with fail
          try rw [hcv2]
          refine (HN.out _ cz (by omega)).mono ?_
          rintro e w3 ⟨v3, rfl, ho3, hb3⟩
          have HF3 := Lib.hid (HF2.out.keep hb3)
          have HS3 := Lib.hid (BytesOf.own ho3)
          clear ho3 hb3 c2
          have h3z := HF3.out.size
          have h9z := numB_le9 cz (by omega)
          have h9u := numB_le9 1 (by omega)
          go_wp2_with (at_builtin; refine wpList_append_bytes rfl _ _ rfl (w.heap.size + 1) _ _ _ (M ++ txtL cn.data.toList ++ numB ct) (numB cz) rfl rfl HF3.out.own rfl HS3.out ?c1q2 ?c2q2 ?_)
          case c1q2 => simp only [List.length_append]; omega
          case c2q2 => exact h3z
          intro v4 w4 hown4 hg4
          have HF4 := Lib.hid (HF3.out.app (L := numB cz) (by simpa only [List.length_append, List.append_assoc, Nat.add_assoc] using hown4) hg4)
          clear hown4 hg4
          have h4z := HF4.out.size
          go_wp2_with fail
          refine (HN.out _ 1 (by omega)).mono ?_
          rintro e w5 ⟨v5, rfl, ho5, hb5⟩
          have HF5 := Lib.hid (HF4.out.keep hb5)
          have HS5 := Lib.hid (BytesOf.own ho5)
          clear ho5 hb5
          have h5z := HF5.out.size
          go_wp2_with (at_builtin; refine wpList_append_bytes rfl _ _ rfl (w.heap.size + 1) _ _ _ (M ++ txtL cn.data.toList ++ numB ct ++ numB cz) (numB 1) rfl rfl HF5.out.own rfl HS5.out ?c5q2 ?c6q2 ?_)
          case c5q2 => simp only [List.length_append]; omega
          case c6q2 => exact h5z
          intro v6 w6 hown6 hg6
          have HF6 := Lib.hid (HF5.out.app (L := numB 1) (by simpa only [List.length_append, List.append_assoc, Nat.add_assoc] using hown6) hg6)
          clear hown6 hg6
          go_wp2_with fail
          go_roundw
          case rel => exact ⟨k + 1, M ++ encCol ⟨cn, ct, cz, true⟩, by omega, by go_num, HM2, Lib.hid (by
              have h := HF6.out
              have e : M ++ txtL cn.data.toList ++ numB ct ++ numB cz ++ numB 1 = M ++ encCol ⟨cn, ct, cz, true⟩ := by unfold encCol; simp
              rw [e] at h
              exact ⟨h.own, h.below, h.sb, h.sb, by decide⟩)⟩
          case measure => simp [intOf]; omega
    · obtain rfl : k = S.cols.length := by omega
      have HML := Lib.hid (enc_len S.cols S.cols.length (fun c hc => HBD.out.col c hc))
      have hMl : M.length ≤ 1000 := by have h := HML.out; have h2 := numB_le9 S.cols.length (by omega); rw [HM.out, List.length_append]; rw [List.take_length] at *; omega
      have hM0 : M = numB S.cols.length ++ S.cols.flatMap encCol := by rw [HM.out, List.take_length]
      have HM0 := Lib.hid hM0
      have hkb : ∀ x ∈ S.key, 0 ≤ x ∧ x ≤ 9223372036854775807 := fun x hx => by have := HBD.out.key.2 x hx; omega
      have hk8 := HBD.out.key.1
      have hlK := encI_len S.key HBD.out.key
      have hlN := numB_le9 S.uqs.length (by omega)
      have hneT : encI S.key ≠ [] := by unfold encI numB; simp
      have hneN : numB S.uqs.length ≠ [] := by unfold numB; simp
      have hcvu : IntKind.u64.wrap (S.uqs.length : Int) = (S.uqs.length : Int) := by rw [u64_nn (by omega) (by omega)]; simp
      clear hM0
      obtain ⟨o, ho⟩ : ∃ o, u4 = o := ⟨_, rfl⟩
      rw [ho] at HFr
      rw [ho]
      clear ho
      go_upto_region 13 with fail
      obtain ⟨wq, hwq⟩ : ∃ wq, wr = wq := ⟨_, rfl⟩
      subst hwq
      go_cut [4] from 50 to 60 (fun s4 wx => ∃ v2, s4 = v2 ∧ Hid (EncF w #[.slice (some oa) S.cols.length cc, .slice ok S.key.length ck, .slice ou S.uqs.length cu] wx w.heap.size #[.slice (some oa) S.cols.length cc, .slice ok S.key.length ck, .slice ou S.uqs.length cu] 26 v2 (M ++ encI S.key ++ numB S.uqs.length)))
      case first =>
        have hS0 := And.intro (show wr.drew.cell? ⟨w.heap.size, 1, none⟩ = some (.slice ok S.key.length ck) from x1) (show wr.drew.cell? ⟨w.heap.size, 2, none⟩ = some (.slice ou S.uqs.length cu) from x2)
        have HF := HFr
        clear x0 x1 x2 HFr
        refine wp_region_noPanic ?_
        obtain ⟨W, hW⟩ : ∃ W, wr.drew = W := ⟨_, rfl⟩
        have hf := HF.out.drew
        have hS : (fun W => W.cell? ⟨w.heap.size, 1, none⟩ = some (.slice ok S.key.length ck) ∧ W.cell? ⟨w.heap.size, 2, none⟩ = some (.slice ou S.uqs.length cu)) wr.drew := hS0
        rw [hW] at hf hS
        refine wp_region_X (S := fun W => W.cell? ⟨w.heap.size, 1, none⟩ = some (.slice ok S.key.length ck) ∧ W.cell? ⟨w.heap.size, 2, none⟩ = some (.slice ou S.uqs.length cu)) (X := [10, 11]) (by kernel_rfl) ?_
        rw [hW]
        clear hW HF hS0
        have HCL := Region.closed_none (md := .any) (ops := #[{ dst := some 50, op := Go.Op.move (Go.Operand.tmp 4), type := 31, pos := "ref.go:160", after := #[], guard := none }, { dst := some 51, op := Go.Op.fieldAddr 26 (Go.Operand.tmp 1) 1, type := 0, pos := "ref.go:160", after := #[], guard := none }, { dst := some 52, op := Go.Op.load 23 (Go.Operand.tmp 51), type := 23, pos := "ref.go:160", after := #[{ on := 1, ground := Go.Ground.data }], guard := none }, { dst := some 53, op := Go.Op.call { callee := Go.Callee.value (Go.Operand.func 51), args := #[Go.Operand.tmp 52], argTypes := #[23] }, type := 31, pos := "ref.go:160", after := #[{ on := 2, ground := Go.Ground.data }], guard := none }, { dst := some 54, op := Go.Op.call { callee := Go.Callee.builtin Go.Builtin.append, args := #[Go.Operand.tmp 50, Go.Operand.tmp 53], argTypes := #[31, 31] }, type := 31, pos := "ref.go:160", after := #[{ on := 0, ground := Go.Ground.data }, { on := 3, ground := Go.Ground.data }, { on := 3, ground := Go.Ground.chain }], guard := none }, { dst := some 55, op := Go.Op.fieldAddr 26 (Go.Operand.tmp 1) 2, type := 0, pos := "ref.go:160", after := #[], guard := none }, { dst := some 56, op := Go.Op.load 24 (Go.Operand.tmp 55), type := 24, pos := "ref.go:160", after := #[{ on := 5, ground := Go.Ground.data }], guard := none }, { dst := some 57, op := Go.Op.call { callee := Go.Callee.builtin Go.Builtin.len, args := #[Go.Operand.tmp 56], argTypes := #[24] }, type := 3, pos := "ref.go:160", after := #[{ on := 6, ground := Go.Ground.data }], guard := none }, { dst := some 58, op := Go.Op.convert 3 66 (Go.Operand.tmp 57), type := 66, pos := "ref.go:160", after := #[{ on := 7, ground := Go.Ground.data }], guard := none }, { dst := some 59, op := Go.Op.call { callee := Go.Callee.value (Go.Operand.func 49), args := #[Go.Operand.tmp 58], argTypes := #[66] }, type := 31, pos := "ref.go:160", after := #[{ on := 8, ground := Go.Ground.data }, { on := 4, ground := Go.Ground.chain }], guard := none }, { dst := some 60, op := Go.Op.call { callee := Go.Callee.builtin Go.Builtin.append, args := #[Go.Operand.tmp 54, Go.Operand.tmp 59], argTypes := #[31, 31] }, type := 31, pos := "ref.go:160", after := #[{ on := 4, ground := Go.Ground.data }, { on := 9, ground := Go.Ground.data }, { on := 9, ground := Go.Ground.chain }], guard := none }, { dst := some 4, op := Go.Op.assign (Go.Operand.tmp 60), type := 31, pos := "ref.go:160", after := #[{ on := 10, ground := Go.Ground.data }, { on := 10, ground := Go.Ground.chain }, { on := 0, ground := Go.Ground.phase }, { on := 1, ground := Go.Ground.phase }, { on := 2, ground := Go.Ground.phase }, { on := 3, ground := Go.Ground.phase }, { on := 4, ground := Go.Ground.phase }, { on := 5, ground := Go.Ground.phase }, { on := 6, ground := Go.Ground.phase }, { on := 7, ground := Go.Ground.phase }, { on := 8, ground := Go.Ground.phase }, { on := 9, ground := Go.Ground.phase }, { on := 10, ground := Go.Ground.phase }], guard := none }]) 12
        refine wpAnyX_take (i := 0) (oi := { dst := some 50, op := Go.Op.move (Go.Operand.tmp 4), type := 31, pos := "ref.go:160", after := #[], guard := none }) (v := o) rfl (by kernel_rfl) (by kernel_rfl) (by kernel_rfl) (fun _ _ _ h => h) (Region.waits_all (by kernel_rfl)) HCL (Or.inl ⟨by rfl, ?hy0q3⟩) hS (fun HCL2 => ?rest0q3)
        case hy0q3 => (rintro W ⟨e5, e6⟩; go_simp; try with_reducible rfl)
        clear HCL
        have HCL := HCL2
        clear HCL2
        try simp only [Act.put, List.setIfInBounds_toArray, List.set_cons_zero, List.set_cons_succ]
        refine wpAnyX_take (i := 1) (oi := { dst := some 51, op := Go.Op.fieldAddr 26 (Go.Operand.tmp 1) 1, type := 0, pos := "ref.go:160", after := #[], guard := none }) (v := .pointer (some ⟨w.heap.size, 1, none⟩)) rfl (by kernel_rfl) (by kernel_rfl) (by kernel_rfl) (fun _ _ _ h => h) (Region.waits_all (by kernel_rfl)) HCL (Or.inl ⟨by rfl, ?hy1q3⟩) hS (fun HCL2 => ?rest1q3)
        case hy1q3 => (rintro W ⟨e5, e6⟩; go_simp; try with_reducible rfl)
        clear HCL
        have HCL := HCL2
        clear HCL2
        try simp only [Act.put, List.setIfInBounds_toArray, List.set_cons_zero, List.set_cons_succ]
        refine wpAnyX_take (i := 2) (oi := { dst := some 52, op := Go.Op.load 23 (Go.Operand.tmp 51), type := 23, pos := "ref.go:160", after := #[{ on := 1, ground := Go.Ground.data }], guard := none }) (v := .slice ok S.key.length ck) rfl (by kernel_rfl) (by kernel_rfl) (by kernel_rfl) (fun _ _ _ h => h) (Region.waits_all (by kernel_rfl)) HCL (Or.inl ⟨by rfl, ?hy2q3⟩) hS (fun HCL2 => ?rest2q3)
        case hy2q3 => (rintro W ⟨e5, e6⟩; go_simp; try with_reducible rfl)
        clear HCL
        have HCL := HCL2
        clear HCL2
        try simp only [Act.put, List.setIfInBounds_toArray, List.set_cons_zero, List.set_cons_succ]
        refine wpAnyX_take (i := 5) (oi := { dst := some 55, op := Go.Op.fieldAddr 26 (Go.Operand.tmp 1) 2, type := 0, pos := "ref.go:160", after := #[], guard := none }) (v := .pointer (some ⟨w.heap.size, 2, none⟩)) rfl (by kernel_rfl) (by kernel_rfl) (by kernel_rfl) (fun _ _ _ h => h) (Region.waits_all (by kernel_rfl)) HCL (Or.inl ⟨by rfl, ?hy5q3⟩) hS (fun HCL2 => ?rest5q3)
        case hy5q3 => (rintro W ⟨e5, e6⟩; go_simp; try with_reducible rfl)
        clear HCL
        have HCL := HCL2
        clear HCL2
        try simp only [Act.put, List.setIfInBounds_toArray, List.set_cons_zero, List.set_cons_succ]
        refine wpAnyX_take (i := 6) (oi := { dst := some 56, op := Go.Op.load 24 (Go.Operand.tmp 55), type := 24, pos := "ref.go:160", after := #[{ on := 5, ground := Go.Ground.data }], guard := none }) (v := .slice ou S.uqs.length cu) rfl (by kernel_rfl) (by kernel_rfl) (by kernel_rfl) (fun _ _ _ h => h) (Region.waits_all (by kernel_rfl)) HCL (Or.inl ⟨by rfl, ?hy6q3⟩) hS (fun HCL2 => ?rest6q3)
        case hy6q3 => (rintro W ⟨e5, e6⟩; go_simp; try with_reducible rfl)
        clear HCL
        have HCL := HCL2
        clear HCL2
        try simp only [Act.put, List.setIfInBounds_toArray, List.set_cons_zero, List.set_cons_succ]
        refine wpAnyX_take (i := 7) (oi := { dst := some 57, op := Go.Op.call { callee := Go.Callee.builtin Go.Builtin.len, args := #[Go.Operand.tmp 56], argTypes := #[24] }, type := 3, pos := "ref.go:160", after := #[{ on := 6, ground := Go.Ground.data }], guard := none }) (v := .int .i64 (S.uqs.length : Int)) rfl (by kernel_rfl) (by kernel_rfl) (by kernel_rfl) (fun _ _ _ h => h) (Region.waits_all (by kernel_rfl)) HCL (Or.inl ⟨by rfl, ?hy7q3⟩) hS (fun HCL2 => ?rest7q3)
        case hy7q3 => (rintro W ⟨e5, e6⟩; go_simp; try with_reducible rfl)
        clear HCL
        have HCL := HCL2
        clear HCL2
        try simp only [Act.put, List.setIfInBounds_toArray, List.set_cons_zero, List.set_cons_succ]
        refine wpAnyX_take (i := 8) (oi := { dst := some 58, op := Go.Op.convert 3 66 (Go.Operand.tmp 57), type := 66, pos := "ref.go:160", after := #[{ on := 7, ground := Go.Ground.data }], guard := none }) (v := .int .u64 (S.uqs.length : Int)) rfl (by kernel_rfl) (by kernel_rfl) (by kernel_rfl) (fun _ _ _ h => h) (Region.waits_all (by kernel_rfl)) HCL (Or.inl ⟨by rfl, ?hy8q3⟩) hS (fun HCL2 => ?rest8q3)
        case hy8q3 => (rintro W ⟨e5, e6⟩; go_simp; try with_reducible rfl)
        clear HCL
        have HCL := HCL2
        clear HCL2
        try simp only [Act.put, List.setIfInBounds_toArray, List.set_cons_zero, List.set_cons_succ]
        clear HCL
        refine wpAnyX_single (i := 3) (o := { dst := some 53, op := Go.Op.call { callee := Go.Callee.value (Go.Operand.func 51), args := #[Go.Operand.tmp 52], argTypes := #[23] }, type := 31, pos := "ref.go:160", after := #[{ on := 2, ground := Go.Ground.data }], guard := none }) (by kernel_rfl) rfl (fun K hK => ?_)
        go_simp
        go_at_call 51
        refine (HNS.out _ ok ck S.key (HS.out.key.keep hf.below (Nat.le_refl _)) (by omega) hkb).mono ?_
        rintro e W2 ⟨uT, rfl, rT, hb2⟩
        have hf2 := hf.keep hb2
        have hS2 := And.intro (cell_old hS.1 hb2) (cell_old hS.2 hb2)
        refine hK.out _ _ (fun _ => hS2) ?_
        clear hK K
        try simp only [Act.put, List.setIfInBounds_toArray, List.set_cons_zero, List.set_cons_succ]
        have dT := own_apart2 hf.own rT
        clear hf hS hb2
        have hf := hf2
        have hS := hS2
        clear hf2 hS2
        refine wpAnyX_single (i := 4) (o := { dst := some 54, op := Go.Op.call { callee := Go.Callee.builtin Go.Builtin.append, args := #[Go.Operand.tmp 50, Go.Operand.tmp 53], argTypes := #[31, 31] }, type := 31, pos := "ref.go:160", after := #[{ on := 0, ground := Go.Ground.data }, { on := 3, ground := Go.Ground.data }, { on := 3, ground := Go.Ground.chain }], guard := none }) (by kernel_rfl) rfl (fun K hK => ?_)
        refine step_append_bytes rfl (.tmp 50) (.tmp 53) rfl (w.heap.size + 1) o uT M.length M (encI S.key) ?hsq3 ?hxq3 hf.own rfl (BytesOf.own rT) hneT (by omega) hf.size ?_
        case hxq3 => (simp [Act.eval]; done)
        case hsq3 => (simp [Act.eval]; done)
        intro v1 W2 hown hg
        have hf2 := hf.app hown hg
        have hS2 := And.intro (hf.cell hg hS.1) (hf.cell hg hS.2)
        refine hK.out _ _ (fun _ => hS2) ?_
        clear hK K
        try simp only [Act.put, List.setIfInBounds_toArray, List.set_cons_zero, List.set_cons_succ]
        clear hf hS hown hg rT dT
        have hf := hf2
        have hS := hS2
        clear hf2 hS2
        refine wpAnyX_single (i := 9) (o := { dst := some 59, op := Go.Op.call { callee := Go.Callee.value (Go.Operand.func 49), args := #[Go.Operand.tmp 58], argTypes := #[66] }, type := 31, pos := "ref.go:160", after := #[{ on := 8, ground := Go.Ground.data }, { on := 4, ground := Go.Ground.chain }], guard := none }) (by kernel_rfl) rfl (fun K hK => ?_)
        go_simp
        go_at_call 49
        refine (HN.out _ S.uqs.length (by omega)).mono ?_
        rintro e W2 ⟨uN, rfl, rN, hb2⟩
        have hf2 := hf.keep hb2
        have hS2 := And.intro (cell_old hS.1 hb2) (cell_old hS.2 hb2)
        refine hK.out _ _ (fun _ => hS2) ?_
        clear hK K
        try simp only [Act.put, List.setIfInBounds_toArray, List.set_cons_zero, List.set_cons_succ]
        have dN := own_apart2 hf.own rN
        clear hf hS hb2
        have hf := hf2
        have hS := hS2
        clear hf2 hS2
        refine wpAnyX_single (i := 10) (o := { dst := some 60, op := Go.Op.call { callee := Go.Callee.builtin Go.Builtin.append, args := #[Go.Operand.tmp 54, Go.Operand.tmp 59], argTypes := #[31, 31] }, type := 31, pos := "ref.go:160", after := #[{ on := 4, ground := Go.Ground.data }, { on := 9, ground := Go.Ground.data }, { on := 9, ground := Go.Ground.chain }], guard := none }) (by kernel_rfl) rfl (fun K hK => ?_)
        refine step_append_bytes rfl (.tmp 54) (.tmp 59) rfl (w.heap.size + 1) v1 uN (M ++ encI S.key).length (M ++ encI S.key) (numB S.uqs.length) ?hs2q3 ?hx2q3 hf.own rfl (BytesOf.own rN) hneN (by rw [List.length_append]; omega) hf.size ?_
        case hx2q3 => (simp [Act.eval]; done)
        case hs2q3 => (simp [Act.eval]; done)
        intro v2 W2 hown hg
        have hf2 := hf.app hown hg
        refine hK.out _ _ (fun h => absurd (by decide) h) ?_
        clear hK K hown hg hf hS
        try simp only [Act.put, List.setIfInBounds_toArray, List.set_cons_zero, List.set_cons_succ]
        refine wpAnyX_single (i := 11) (o := { dst := some 4, op := Go.Op.assign (Go.Operand.tmp 60), type := 31, pos := "ref.go:160", after := #[{ on := 10, ground := Go.Ground.data }, { on := 10, ground := Go.Ground.chain }, { on := 0, ground := Go.Ground.phase }, { on := 1, ground := Go.Ground.phase }, { on := 2, ground := Go.Ground.phase }, { on := 3, ground := Go.Ground.phase }, { on := 4, ground := Go.Ground.phase }, { on := 5, ground := Go.Ground.phase }, { on := 6, ground := Go.Ground.phase }, { on := 7, ground := Go.Ground.phase }, { on := 8, ground := Go.Ground.phase }, { on := 9, ground := Go.Ground.phase }, { on := 10, ground := Go.Ground.phase }], guard := none }) (by kernel_rfl) rfl (fun K hK => ?_)
        go_simp
        refine hK.out _ _ (fun h => absurd (by decide) h) ?_
        clear hK K
        try simp only [Act.put, List.setIfInBounds_toArray, List.set_cons_zero, List.set_cons_succ]
        refine wpAnyX_done (by kernel_rfl) ?_ _
        refine NoPanic.normal ?_
        go_wp2_with fail
        go_meet
        exact ⟨v2, rfl, Lib.hid hf2⟩
      case rest =>
        obtain ⟨v2, rfl, HF2⟩ := hcut
        clear x0 x1 x2 HFr HML
        go_wp2_with fail
        go_loopw [4, 8] (fun o i wr => ∃ (j : Nat) (L : List UInt8), j ≤ S.uqs.length ∧ i = .int .i64 j ∧ Hid (L = (M ++ encI S.key ++ numB S.uqs.length) ++ (S.uqs.take j).flatMap encI) ∧ L.length ≤ 1100 + 90 * j ∧ Hid (EncF w #[.slice (some oa) S.cols.length cc, .slice ok S.key.length ck, .slice ou S.uqs.length cu] wr w.heap.size #[.slice (some oa) S.cols.length cc, .slice ok S.key.length ck, .slice ou S.uqs.length cu] 26 o L)) (fun _ i _ => S.uqs.length - (intOf i).toNat)
        case atStart => exact ⟨0, _, Nat.zero_le _, rfl, Lib.hid (by simp), by simp only [List.length_append]; omega, HF2⟩
        case round =>
          obtain ⟨j, L, hj, rfl, HL, hLl, HFj⟩ := hrel
          have x0 := (cells3 HFj.out.sb).1
          have x1 := (cells3 HFj.out.sb).2.1
          have x2 := (cells3 HFj.out.sb).2.2
          by_cases hjt : j < S.uqs.length
          · obtain ⟨u, hu⟩ : ∃ u, S.uqs[j] = u := ⟨_, rfl⟩
            obtain ⟨au, ou2, cu2, eau, hcell, hcapu, hints⟩ := HS.out.uqs.keep HFj.out.below (Nat.le_refl _) j hjt
            simp only at eau
            subst eau
            rw [hu] at hcell hints hcapu
            have hub := HBD.out.uq u (hu ▸ List.getElem_mem hjt)
            have hlU := encI_len u hub
            have hub1 := hub.1
            have HCN := Lib.hid (rnumbers_any ou2 cu2 u wr hints (by omega) (fun x hx => by have := hub.2 x hx; omega))
            have HL2 := Lib.hid (show L ++ encI u = (M ++ encI S.key ++ numB S.uqs.length) ++ (S.uqs.take (j + 1)).flatMap encI by rw [HL.out, List.take_succ_eq_append_getElem hjt, hu, List.flatMap_append]; simp)
            have hj2 : (j : Int) < (S.uqs.length : Int) := by omega
            clear hu hints hub hcapu HF2 HM HM0
            go_wp2_with fail
            refine HCN.out.mono ?_
            rintro e w3 ⟨v3, rfl, ho3, hb3⟩
            have HF3 := Lib.hid (HFj.out.keep hb3)
            have HS3 := Lib.hid (BytesOf.own ho3)
            clear ho3 hb3 x0 x1 x2 hcell
            have h3z := HF3.out.size
            go_wp2_with (at_builtin; refine wpList_append_bytes rfl _ _ rfl (w.heap.size + 1) _ _ _ L (encI u) rfl rfl HF3.out.own rfl HS3.out ?c1q3 ?c2q3 ?_)
            case c1q3 => omega
            case c2q3 => exact h3z
            intro v4 w4 hown4 hg4
            have HF4 := Lib.hid (HF3.out.app (L := encI u) (by simpa only [List.length_append, List.append_assoc, Nat.add_assoc] using hown4) hg4)
            clear hown4 hg4
            go_wp2_with fail
            go_roundw
            case rel => exact ⟨j + 1, L ++ encI u, by omega, by go_num, HL2, by simp only [List.length_append]; omega, HF4⟩
            case measure => simp [intOf]; omega
          · obtain rfl : j = S.uqs.length := by omega
            go_wp2_with fail
            go_ret2
            have e : L = schL S := by rw [HL.out, List.take_length, HM0.out]; unfold schL; simp
            rw [← e]
            exact ⟨_, rfl, BytesOf.own HFj.out.own, HFj.out.below⟩
end Go.Proofs.YtocmjlnhcloccaaGreatDoor
