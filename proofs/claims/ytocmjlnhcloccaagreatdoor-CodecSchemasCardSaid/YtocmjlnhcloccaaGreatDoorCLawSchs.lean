/-
  swingbridgelaw04.CodecSchemas: true.
-/
import Derived.Test.YtocmjlnhcloccaaGreatDoorCSchC
import Derived.Test.YtocmjlnhcloccaaGreatDoorCRDz
import Derived.Test.YtocmjlnhcloccaaGreatDoorCLawHolds
import Derived.Test.YtocmjlnhcloccaaGreatDoorSSam
namespace Go.Proofs.YtocmjlnhcloccaaGreatDoor
open Go.RowKit

theorem flat_len {α : Type} {f : α → List UInt8} {K : Nat} : ∀ l : List α, (∀ x ∈ l, (f x).length ≤ K) → (l.flatMap f).length ≤ K * l.length
  | [], _ => by simp
  | x :: l, h => by
    have h1 := flat_len l (fun y hy => h y (by simp [hy]))
    have h2 := h x (by simp)
    rw [List.flatMap_cons, List.length_append, List.length_cons, Nat.mul_succ]
    omega
theorem schL_len {S : Sch} (h : schOk S = true) : (schL S).length ≤ 2000 := by
  have hb := schOk_bd h
  have h1 := enc_len S.cols S.cols.length hb.col
  rw [List.take_length] at h1
  have h2 := numB_le9 S.cols.length (by have := hb.cols; omega)
  have h3 := encI_len S.key hb.key
  have h4 := flat_len (f := encI) (K := 90) S.uqs (fun l hl => encI_len l (hb.uq l hl))
  have h5 := numB_le9 S.uqs.length (by have := hb.uqs; omega)
  have h6 := hb.cols
  have h7 := hb.uqs
  unfold schL
  simp only [List.length_append]
  omega
/-- a schema's box -/
def BoxS (W : World) (b : Nat) (p : SchV) (S : Sch) : Prop := W.heap[b]? = some (.cells #[.slice p.oc S.cols.length p.cc, .slice p.ok S.key.length p.ck, .slice p.ou S.uqs.length p.cu] 26 (0, 0))
theorem BoxS.below {W W' : World} {b : Nat} {p : SchV} {S : Sch} (h : BoxS W b p S) (hb : Below W.heap.size W W') : BoxS W' b p S := (hb.block _ (Array.getElem?_eq_some_iff.1 h).1).trans h
theorem boxS_new (W : World) (p : SchV) (S : Sch) : BoxS (W.alloc (.cells #[.slice p.oc S.cols.length p.cc, .slice p.ok S.key.length p.ck, .slice p.ou S.uqs.length p.cu] 26)) W.heap.size p S := heap_alloc_at W _
theorem BoxS.lt {W : World} {b : Nat} {p : SchV} {S : Sch} (h : BoxS W b p S) : b < W.heap.size := (Array.getElem?_eq_some_iff.1 h).1
def pN0 : SchV := ⟨none, 0, none, 0, none, 0⟩
def sN0 : Sch := ⟨[], [], []⟩
theorem schIn0 (W : World) : SchIn W pN0 sN0 := ⟨fun j hj => absurd hj (Nat.not_lt_zero j), fun j hj => absurd hj (Nat.not_lt_zero j), fun j hj => absurd hj (Nat.not_lt_zero j), Nat.le_refl _⟩
theorem same_small (p q : SchV) (S : Sch) (W : World) (c : S.cols.length ≤ 1000) (k : S.key.length ≤ 1000) (u : S.uqs.length ≤ 1000) (l : ∀ x ∈ S.uqs, x.length ≤ 1000) (h1 : SchIn W p S) (h2 : SchIn W q S) :
    Calls Tryz.prog 26 #[.agg #[.slice p.oc S.cols.length p.cc, .slice p.ok S.key.length p.ck, .slice p.ou S.uqs.length p.cu], .agg #[.slice q.oc S.cols.length q.cc, .slice q.ok S.key.length q.ck, .slice q.ou S.uqs.length q.cu]] W fun e w' => e = .returned (.bool true) ∧ Below W.heap.size W w' := by
  have h := rSame3_any p q S S W c c k k u u l l h1 h2
  rwa [sameB_refl] at h
set_option maxRecDepth 100000 in
set_option maxHeartbeats 8000000 in
theorem lawCSchs_true (p : SchV) (S : Sch) (oa : Option Addr) (ca : Nat) (bl : List UInt8) (w : World) (hg : HasET w) (hS : SchIn w p S) (m0 : S.cols.length ≤ 9223372036854775807) (m1 : S.key.length ≤ 9223372036854775807) (m2 : S.uqs.length ≤ 9223372036854775807) (m3 : ∀ c ∈ S.cols, c.n.size ≤ 9223372036854775807) (m4 : ∀ l ∈ S.uqs, l.length ≤ 9223372036854775807)
    (hb : BytesAt w (.slice oa bl.length ca) bl) (n0 : bl.length ≤ 9223372036854775807) :
    Calls Tryz.prog 6 #[.agg #[.slice p.oc S.cols.length p.cc, .slice p.ok S.key.length p.ck, .slice p.ou S.uqs.length p.cu], .slice oa bl.length ca] w fun e w' => e = .returned (.bool true) ∧ Below w.heap.size w w' := by
  have HW : Hid (∀ W, Below w.heap.size w W → Calls Tryz.prog 10 #[] W fun e w' => e = .returned (.bool true) ∧ Below W.heap.size W w') := Lib.hid (fun W hb => cworks_true W (hg.below hb hg.lt))
  have HFW : Hid (∀ W, Below w.heap.size w W → Calls Tryz.prog 8 #[.agg #[.slice p.oc S.cols.length p.cc, .slice p.ok S.key.length p.ck, .slice p.ou S.uqs.length p.cu]] W fun e w' => e = .returned (.bool (fewOk S)) ∧ Below W.heap.size W w') := Lib.hid (fun W hb => few4_any p S W (hS.keep hb (Nat.le_refl _)) m0 m1 m2 m3 m4)
  cases hf : fewOk S
  · have HQ := Lib.hid hf
    clear hf hg hS m0 m1 m2 m3 m4 hb
    go_enter Tryz.func6, Tryz.ntmps6
    go_wp2_with (first | (go_at_call 8; refine (HFW.out _ ((Below.refl _ _).alloc (Nat.le_refl _) _)).mono ?_; rintro e w1 ⟨he, hb1⟩; rw [HQ.out] at he; subst he; have hb := ((Below.refl w.heap.size w).alloc (Nat.le_refl _) (.cells #[.slice p.oc S.cols.length p.cc, .slice p.ok S.key.length p.ck, .slice p.ou S.uqs.length p.cu] 26)).trans (hb1.mono (by simp))) | (go_at_call 10; refine (HW.out _ hb).mono ?_; rintro e w2 ⟨rfl, hb2⟩))
    go_ret
    exact ⟨rfl, hb.trans (hb2.mono hb.size)⟩
  by_cases h2 : 600 < bl.length
  · have HQ := Lib.hid hf
    clear hf hg hS m0 m1 m2 m3 m4 hb
    go_enter Tryz.func6, Tryz.ntmps6
    go_wp2_with (first | (go_at_call 8; refine (HFW.out _ ((Below.refl _ _).alloc (Nat.le_refl _) _)).mono ?_; rintro e w1 ⟨he, hb1⟩; rw [HQ.out] at he; subst he; have hb := ((Below.refl w.heap.size w).alloc (Nat.le_refl _) (.cells #[.slice p.oc S.cols.length p.cc, .slice p.ok S.key.length p.ck, .slice p.ou S.uqs.length p.cu] 26)).trans (hb1.mono (by simp))) | (go_at_call 10; refine (HW.out _ hb).mono ?_; rintro e w2 ⟨rfl, hb2⟩))
    go_ret
    exact ⟨rfl, hb.trans (hb2.mono hb.size)⟩
  have hfs := fewOk_spec hf
  have hcl : S.cols.length ≤ 1000 := by have := hfs.cols; omega
  have hul : S.uqs.length ≤ 1000 := by have := hfs.uqs; omega
  have hkl : S.key.length ≤ 1000 := by have := hfs.key; omega
  have hpl : ∀ l ∈ S.uqs, l.length ≤ 1000 := fun l hl => by have := hfs.places l hl; omega
  have h3 : ((bl.length : Nat) : Int) ≤ 600 := by omega
  have HQ := Lib.hid hf
  have HE1 := Lib.hid (fun W (hW : Below w.heap.size w W) => EncodeS_any p S W (hg.below hW hg.lt) (hS.keep hW (Nat.le_refl _)) m3 hcl hfs.uqs)
  have HE2 := Lib.hid (fun W (hW : Below w.heap.size w W) => rEncS_any p S W (hS.keep hW (Nat.le_refl _)) m3 hcl hul hkl hpl)
  have HD1 := Lib.hid (fun W (hW : Below w.heap.size w W) => DecodeS_any oa ca bl W (hg.below hW hg.lt) (hb.keep hW (Nat.le_refl _)) (by omega))
  have HD2 := Lib.hid (fun W (hW : Below w.heap.size w W) => rDecS_any oa ca bl W (hb.keep hW (Nat.le_refl _)) (by omega))
  rw [refS_decS] at HD2
  have HSS := Lib.hid (fun W q (hW : Below w.heap.size w W) (h : SchIn W q S) => same_small q p S W hcl hkl hul hpl h (hS.keep hW (Nat.le_refl _)))
  have HBY := Lib.hid (fun W (hW : Below w.heap.size w W) => bytes_string (hb.keep hW (Nat.le_refl _)))
  have HDE := Lib.hid (fun W oz cz (l : List UInt8) (hW : Below w.heap.size w W) (hl : l.length ≤ 1000000) (h : BytesAt W (.slice oz l.length cz) l) => DecodeS_any oz cz l W (hg.below hW hg.lt) h hl)
  have HGT := Lib.hid hg
  cases hd : decS bl with
  | none =>
    rw [hd] at HD1 HD2
    replace HD1 : Hid (∀ W, Below w.heap.size w W → Calls Tryz.prog 24 #[.slice oa bl.length ca] W fun e w' => e = .returned (.tuple #[.agg #[.slice none 0 0, .slice none 0 0, .slice none 0 0], .int .i64 140]) ∧ Below W.heap.size W w') := HD1
    replace HD2 : Hid (∀ W, Below w.heap.size w W → Calls Tryz.prog 25 #[.slice oa bl.length ca] W fun e w' => e = .returned (.tuple #[.agg #[.slice none 0 0, .slice none 0 0, .slice none 0 0], .int .i64 140]) ∧ Below W.heap.size W w') := HD2
    cases hok : schOk S with
    | true =>
      have HDS := Lib.hid (decS_some.2 ⟨hok, rfl⟩ : decS (schL S) = some S)
      have HLN := Lib.hid (schL_len hok)
      clear hg hS m0 m1 m2 m3 m4 hb n0 h2 hfs hcl hul hkl hpl hf hd
      go_enter Tryz.func6, Tryz.ntmps6
      go_wp2_with (first | (go_at_call 8; refine (HFW.out _ ((Below.refl _ _).alloc (Nat.le_refl _) _)).mono ?_; rintro e w1 ⟨he, hb1⟩; rw [HQ.out] at he; subst he; have hb := ((Below.refl w.heap.size w).alloc (Nat.le_refl _) (.cells #[.slice p.oc S.cols.length p.cc, .slice p.ok S.key.length p.ck, .slice p.ou S.uqs.length p.cu] 26)).trans (hb1.mono (by simp)); have hx := (boxS_new w p S).below hb1; have x0 := (cells3 hx).1; have x1 := (cells3 hx).2.1; have x2 := (cells3 hx).2.2))
      refine (HE1.out _ hb).mono ?_
      rintro e w2 (⟨_, v1, rfl, hv1, hb2⟩ | ⟨hno, _⟩)
      case inr => rw [hok] at hno; cases hno
      have HB2 := Lib.hid (hb.trans (hb2.mono hb.size))
      have hx2 := hx.below hb2
      have x0 := (cells3 hx2).1
      have x1 := (cells3 hx2).2.1
      have x2 := (cells3 hx2).2.2
      have HV1 := Lib.hid hv1.at
      clear hv1
      clear hb2 hb1 hb hx
      go_wp2_with fail
      refine (HE2.out _ HB2.out).mono ?_
      rintro e w3 (⟨_, v2, rfl, hv2, hb3⟩ | ⟨hno, _⟩)
      case inr => rw [hok] at hno; cases hno
      have HB3 := Lib.hid (HB2.out.trans (hb3.mono HB2.out.size))
      have hx3 := hx2.below hb3
      have HV1 := Lib.hid (HV1.out.keep hb3 (Nat.le_refl _))
      have HV2 := Lib.hid hv2.at
      clear hv2
      clear hb3 hx2 x0 x1 x2
      go_wp2_with fail
      refine (HD1.out _ HB3.out).mono ?_
      rintro e w4 ⟨rfl, hb4⟩
      have ha4 : Below w4.heap.size w4 (w4.alloc (.cells #[.slice none 0 0, .slice none 0 0, .slice none 0 0] 26)) := (Below.refl _ _).alloc (Nat.le_refl _) _
      have HB4 := Lib.hid ((HB3.out.trans (hb4.mono HB3.out.size)).trans (ha4.mono (HB3.out.trans (hb4.mono HB3.out.size)).size))
      have hx4 := (hx3.below hb4).below ha4
      have hy4 : BoxS (w4.alloc (.cells #[.slice none 0 0, .slice none 0 0, .slice none 0 0] 26)) w4.heap.size pN0 sN0 := boxS_new w4 pN0 sN0
      have HV1 := Lib.hid ((HV1.out.keep hb4 (Nat.le_refl _)).keep ha4 (Nat.le_refl _))
      have HV2 := Lib.hid ((HV2.out.keep hb4 (Nat.le_refl _)).keep ha4 (Nat.le_refl _))
      clear hb4 hx3 ha4
      go_upto_region 6 with fail
      generalize hv4 : w4.alloc (.cells #[.slice none 0 0, .slice none 0 0, .slice none 0 0] 26) = v4 at HB4 hx4 hy4 HV1 HV2 ⊢
      clear hv4
      go_wp2_with fail
      refine (HD2.out _ HB4.out).mono ?_
      rintro e w5 ⟨rfl, hb5⟩
      have ha5 : Below w5.heap.size w5 (w5.alloc (.cells #[.slice none 0 0, .slice none 0 0, .slice none 0 0] 26)) := (Below.refl _ _).alloc (Nat.le_refl _) _
      have HB5 := Lib.hid ((HB4.out.trans (hb5.mono HB4.out.size)).trans (ha5.mono (HB4.out.trans (hb5.mono HB4.out.size)).size))
      have hx5 := (hx4.below hb5).below ha5
      have hy5 := (hy4.below hb5).below ha5
      have hz5 : BoxS (w5.alloc (.cells #[.slice none 0 0, .slice none 0 0, .slice none 0 0] 26)) w5.heap.size pN0 sN0 := boxS_new w5 pN0 sN0
      have HV1 := Lib.hid ((HV1.out.keep hb5 (Nat.le_refl _)).keep ha5 (Nat.le_refl _))
      have HV2 := Lib.hid ((HV2.out.keep hb5 (Nat.le_refl _)).keep ha5 (Nat.le_refl _))
      clear hb5 hx4 hy4 ha5
      go_upto_region 7 with fail
      generalize hv5 : w5.alloc (.cells #[.slice none 0 0, .slice none 0 0, .slice none 0 0] 26) = v5 at HB5 hx5 hy5 hz5 HV1 HV2 ⊢
      clear hv5
      have cA := bytes_string HV1.out
      have cB := bytes_string HV2.out
      generalize (⟨(schL S).toArray⟩ : ByteArray) = sA at cA cB
      have hss : (sA.toList == sA.toList) = true := by simp
      have y0 := (cells3 hy5).1
      have y1 := (cells3 hy5).2.1
      have y2 := (cells3 hy5).2.2
      have z0 := (cells3 hz5).1
      have z1 := (cells3 hz5).2.1
      have z2 := (cells3 hz5).2.2
      simp only [pN0, sN0, List.length_nil] at y0 y1 y2 z0 z1 z2
      have HSM := Lib.hid (show Calls Tryz.prog 26 #[.agg #[.slice none 0 0, .slice none 0 0, .slice none 0 0], .agg #[.slice none 0 0, .slice none 0 0, .slice none 0 0]] v5 (fun e w' => e = .returned (.bool true) ∧ Below v5.heap.size v5 w') from same_small pN0 pN0 sN0 v5 (Nat.zero_le _) (Nat.zero_le _) (Nat.zero_le _) (fun x hx => by cases hx) (schIn0 _) (schIn0 _))
      go_wp2_with (first | (go_at_call 15; refine (l4num_any _ _).mono ?_; rintro e w' ⟨rfl, rfl⟩))
      refine HSM.out.mono ?_
      rintro e w6 ⟨rfl, hb6⟩
      have HB6 := Lib.hid (HB5.out.trans (hb6.mono HB5.out.size))
      have hx6 := hx5.below hb6
      have hy6 := hy5.below hb6
      have HV1 := Lib.hid (HV1.out.keep hb6 (Nat.le_refl _))
      clear hb6 hx5 hy5 hz5 y0 y1 y2 z0 z1 z2 cA cB HV2
      clear hy6
      obtain ⟨oz, cz, hvz, _, _⟩ := id HV1.out
      subst hvz
      go_wp2_with (first | (go_at_call 15; refine (l4num_any _ _).mono ?_; rintro e w' ⟨rfl, rfl⟩))
      refine (HDE.out _ oz cz (schL S) HB6.out (by have := HLN.out; omega) HV1.out).mono ?_
      rw [HDS.out]
      rintro e w8 ⟨t, rfl, ht, hb8⟩
      have ht := ht.sch
      have ha8 : Below w8.heap.size w8 (w8.alloc (.cells #[.slice t.oc S.cols.length t.cc, .slice t.ok S.key.length t.ck, .slice t.ou S.uqs.length t.cu] 26)) := (Below.refl _ _).alloc (Nat.le_refl _) _
      have HB8 := Lib.hid ((HB6.out.trans (hb8.mono HB6.out.size)).trans (ha8.mono (HB6.out.trans (hb8.mono HB6.out.size)).size))
      have hx8 := (hx6.below hb8).below ha8
      have hy8 := boxS_new w8 t S
      have ht := ht.keep ha8 (Nat.le_refl _)
      clear hb8 ha8 hx6
      go_upto_region 16 with fail
      generalize hv8 : w8.alloc (.cells #[.slice t.oc S.cols.length t.cc, .slice t.ok S.key.length t.ck, .slice t.ou S.uqs.length t.cu] 26) = v8 at HB8 hx8 hy8 ht ⊢
      clear hv8
      have x0 := (cells3 hx8).1
      have x1 := (cells3 hx8).2.1
      have x2 := (cells3 hx8).2.2
      have y0 := (cells3 hy8).1
      have y1 := (cells3 hy8).2.1
      have y2 := (cells3 hy8).2.2
      have HSZ := Lib.hid (HSS.out v8 t HB8.out ht)
      clear hx8 hy8 ht
      go_wp2_with fail
      refine HSZ.out.mono ?_
      rintro e w9 ⟨rfl, hb9⟩
      have HB9 := Lib.hid (HB8.out.trans (hb9.mono HB8.out.size))
      clear hb9
      go_wp2_with (first | (go_at_call 15; refine (l4num_any _ _).mono ?_; rintro e w' ⟨rfl, rfl⟩) | (go_at_call 10; refine (HW.out _ HB9.out).mono ?_; rintro e wz ⟨rfl, hbz⟩))
      go_ret
      exact ⟨rfl, HB9.out.trans (hbz.mono HB9.out.size)⟩
    | false =>
      clear hg hS m0 m1 m2 m3 m4 hb n0 h2 hfs hcl hul hkl hpl hf hd
      go_enter Tryz.func6, Tryz.ntmps6
      go_wp2_with (first | (go_at_call 8; refine (HFW.out _ ((Below.refl _ _).alloc (Nat.le_refl _) _)).mono ?_; rintro e w1 ⟨he, hb1⟩; rw [HQ.out] at he; subst he; have hb := ((Below.refl w.heap.size w).alloc (Nat.le_refl _) (.cells #[.slice p.oc S.cols.length p.cc, .slice p.ok S.key.length p.ck, .slice p.ou S.uqs.length p.cu] 26)).trans (hb1.mono (by simp)); have hx := (boxS_new w p S).below hb1; have x0 := (cells3 hx).1; have x1 := (cells3 hx).2.1; have x2 := (cells3 hx).2.2))
      refine (HE1.out _ hb).mono ?_
      rintro e w2 (⟨hno, _⟩ | ⟨_, rfl, hb2⟩)
      case inl => rw [hok] at hno; cases hno
      have HB2 := Lib.hid (hb.trans (hb2.mono hb.size))
      have hx2 := hx.below hb2
      have x0 := (cells3 hx2).1
      have x1 := (cells3 hx2).2.1
      have x2 := (cells3 hx2).2.2
      clear hb2 hb1 hb hx
      go_wp2_with fail
      refine (HE2.out _ HB2.out).mono ?_
      rintro e w3 (⟨hno, _⟩ | ⟨_, rfl, hb3⟩)
      case inl => rw [hok] at hno; cases hno
      have HB3 := Lib.hid (HB2.out.trans (hb3.mono HB2.out.size))
      have hx3 := hx2.below hb3
      clear hb3 hx2 x0 x1 x2
      go_wp2_with fail
      refine (HD1.out _ HB3.out).mono ?_
      rintro e w4 ⟨rfl, hb4⟩
      have ha4 : Below w4.heap.size w4 (w4.alloc (.cells #[.slice none 0 0, .slice none 0 0, .slice none 0 0] 26)) := (Below.refl _ _).alloc (Nat.le_refl _) _
      have HB4 := Lib.hid ((HB3.out.trans (hb4.mono HB3.out.size)).trans (ha4.mono (HB3.out.trans (hb4.mono HB3.out.size)).size))
      have hx4 := (hx3.below hb4).below ha4
      have hy4 : BoxS (w4.alloc (.cells #[.slice none 0 0, .slice none 0 0, .slice none 0 0] 26)) w4.heap.size pN0 sN0 := boxS_new w4 pN0 sN0
      clear hb4 hx3 ha4
      go_upto_region 6 with fail
      generalize hv4 : w4.alloc (.cells #[.slice none 0 0, .slice none 0 0, .slice none 0 0] 26) = v4 at HB4 hx4 hy4 ⊢
      clear hv4
      go_wp2_with fail
      refine (HD2.out _ HB4.out).mono ?_
      rintro e w5 ⟨rfl, hb5⟩
      have ha5 : Below w5.heap.size w5 (w5.alloc (.cells #[.slice none 0 0, .slice none 0 0, .slice none 0 0] 26)) := (Below.refl _ _).alloc (Nat.le_refl _) _
      have HB5 := Lib.hid ((HB4.out.trans (hb5.mono HB4.out.size)).trans (ha5.mono (HB4.out.trans (hb5.mono HB4.out.size)).size))
      have hx5 := (hx4.below hb5).below ha5
      have hy5 := (hy4.below hb5).below ha5
      have hz5 : BoxS (w5.alloc (.cells #[.slice none 0 0, .slice none 0 0, .slice none 0 0] 26)) w5.heap.size pN0 sN0 := boxS_new w5 pN0 sN0
      clear hb5 hx4 hy4 ha5
      go_upto_region 7 with fail
      generalize hv5 : w5.alloc (.cells #[.slice none 0 0, .slice none 0 0, .slice none 0 0] 26) = v5 at HB5 hx5 hy5 hz5 ⊢
      clear hv5
      have cA : (convert 31 9 (.slice none 0 0)).run Tryz.prog v5 = .ok (.string ⟨#[]⟩) v5 := bytes_string (l := []) ⟨none, 0, rfl, Nat.le_refl _, fun j hj => absurd hj (Nat.not_lt_zero j)⟩
      obtain ⟨sA, hsA⟩ : ∃ sA : ByteArray, (⟨#[]⟩ : ByteArray) = sA := ⟨_, rfl⟩
      rw [hsA] at cA
      clear hsA
      have hss : (sA.toList == sA.toList) = true := by simp
      have y0 := (cells3 hy5).1
      have y1 := (cells3 hy5).2.1
      have y2 := (cells3 hy5).2.2
      have z0 := (cells3 hz5).1
      have z1 := (cells3 hz5).2.1
      have z2 := (cells3 hz5).2.2
      simp only [pN0, sN0, List.length_nil] at y0 y1 y2 z0 z1 z2
      have HSM := Lib.hid (show Calls Tryz.prog 26 #[.agg #[.slice none 0 0, .slice none 0 0, .slice none 0 0], .agg #[.slice none 0 0, .slice none 0 0, .slice none 0 0]] v5 (fun e w' => e = .returned (.bool true) ∧ Below v5.heap.size v5 w') from same_small pN0 pN0 sN0 v5 (Nat.zero_le _) (Nat.zero_le _) (Nat.zero_le _) (fun x hx => by cases hx) (schIn0 _) (schIn0 _))
      go_wp2_with (first | (go_at_call 15; refine (l4num_any _ _).mono ?_; rintro e w' ⟨rfl, rfl⟩))
      refine HSM.out.mono ?_
      rintro e w6 ⟨rfl, hb6⟩
      have HB6 := Lib.hid (HB5.out.trans (hb6.mono HB5.out.size))
      have hx6 := hx5.below hb6
      have hy6 := hy5.below hb6
      clear hb6 hx5 hy5 hz5 y0 y1 y2 z0 z1 z2 cA
      clear hy6
      go_wp2_with (first | (go_at_call 15; refine (l4num_any _ _).mono ?_; rintro e w' ⟨rfl, rfl⟩) | (go_at_call 10; refine (HW.out _ HB6.out).mono ?_; rintro e w8 ⟨rfl, hb8⟩))
      go_ret
      exact ⟨rfl, HB6.out.trans (hb8.mono HB6.out.size)⟩
  | some T =>
    rw [hd] at HD1 HD2
    obtain ⟨hTo, hTl⟩ := decS_some.1 hd
    have HTO := Lib.hid hTo
    have HTL := Lib.hid hTl
    have hTb := schOk_bd hTo
    have HT : Hid (T.cols.length ≤ 1000 ∧ T.key.length ≤ 1000 ∧ T.uqs.length ≤ 1000 ∧ ∀ x ∈ T.uqs, x.length ≤ 1000) := Lib.hid ⟨by have := hTb.cols; omega, by have := hTb.key.1; omega, by have := hTb.uqs; omega, fun x hx => by have := (hTb.uq x hx).1; omega⟩
    have HTN : Hid (∀ c ∈ T.cols, c.n.size ≤ 9223372036854775807) := Lib.hid (fun c hc => by have := (hTb.col c hc).1; omega)
    have HTU : Hid (T.uqs.length ≤ 6) := Lib.hid (by have := hTb.uqs; omega)
    clear hTo hTl hTb
    replace HD1 : Hid (∀ W, Below w.heap.size w W → Calls Tryz.prog 24 #[.slice oa bl.length ca] W fun e w' => ∃ q : SchV, e = .returned (.tuple #[.agg #[.slice q.oc T.cols.length q.cc, .slice q.ok T.key.length q.ck, .slice q.ou T.uqs.length q.cu], .int .i64 0]) ∧ SchF W.heap.size w' q T ∧ Below W.heap.size W w') := HD1
    replace HD2 : Hid (∀ W, Below w.heap.size w W → Calls Tryz.prog 25 #[.slice oa bl.length ca] W fun e w' => ∃ q : SchV, e = .returned (.tuple #[.agg #[.slice q.oc T.cols.length q.cc, .slice q.ok T.key.length q.ck, .slice q.ou T.uqs.length q.cu], .int .i64 0]) ∧ SchIn w' q T ∧ Below W.heap.size W w') := HD2
    cases hok : schOk S with
    | true =>
      have HDS := Lib.hid (decS_some.2 ⟨hok, rfl⟩ : decS (schL S) = some S)
      have HLN := Lib.hid (schL_len hok)
      clear hg hS m0 m1 m2 m3 m4 hb n0 h2 hfs hcl hul hkl hpl hf hd
      go_enter Tryz.func6, Tryz.ntmps6
      go_wp2_with (first | (go_at_call 8; refine (HFW.out _ ((Below.refl _ _).alloc (Nat.le_refl _) _)).mono ?_; rintro e w1 ⟨he, hb1⟩; rw [HQ.out] at he; subst he; have hb := ((Below.refl w.heap.size w).alloc (Nat.le_refl _) (.cells #[.slice p.oc S.cols.length p.cc, .slice p.ok S.key.length p.ck, .slice p.ou S.uqs.length p.cu] 26)).trans (hb1.mono (by simp)); have hx := (boxS_new w p S).below hb1; have x0 := (cells3 hx).1; have x1 := (cells3 hx).2.1; have x2 := (cells3 hx).2.2))
      refine (HE1.out _ hb).mono ?_
      rintro e w2 (⟨_, v1, rfl, hv1, hb2⟩ | ⟨hno, _⟩)
      case inr => rw [hok] at hno; cases hno
      have HB2 := Lib.hid (hb.trans (hb2.mono hb.size))
      have hx2 := hx.below hb2
      have x0 := (cells3 hx2).1
      have x1 := (cells3 hx2).2.1
      have x2 := (cells3 hx2).2.2
      have HV1 := Lib.hid hv1.at
      clear hv1
      clear hb2 hb1 hb hx
      go_wp2_with fail
      refine (HE2.out _ HB2.out).mono ?_
      rintro e w3 (⟨_, v2, rfl, hv2, hb3⟩ | ⟨hno, _⟩)
      case inr => rw [hok] at hno; cases hno
      have HB3 := Lib.hid (HB2.out.trans (hb3.mono HB2.out.size))
      have hx3 := hx2.below hb3
      have HV1 := Lib.hid (HV1.out.keep hb3 (Nat.le_refl _))
      have HV2 := Lib.hid hv2.at
      clear hv2
      clear hb3 hx2 x0 x1 x2
      go_wp2_with fail
      refine (HD1.out _ HB3.out).mono ?_
      rintro e w4 ⟨q, rfl, hq, hb4⟩
      have hq := hq.sch
      have ha4 : Below w4.heap.size w4 (w4.alloc (.cells #[.slice q.oc T.cols.length q.cc, .slice q.ok T.key.length q.ck, .slice q.ou T.uqs.length q.cu] 26)) := (Below.refl _ _).alloc (Nat.le_refl _) _
      have HB4 := Lib.hid ((HB3.out.trans (hb4.mono HB3.out.size)).trans (ha4.mono (HB3.out.trans (hb4.mono HB3.out.size)).size))
      have hx4 := (hx3.below hb4).below ha4
      have hy4 : BoxS (w4.alloc (.cells #[.slice q.oc T.cols.length q.cc, .slice q.ok T.key.length q.ck, .slice q.ou T.uqs.length q.cu] 26)) w4.heap.size q T := boxS_new w4 q T
      have HV1 := Lib.hid ((HV1.out.keep hb4 (Nat.le_refl _)).keep ha4 (Nat.le_refl _))
      have HV2 := Lib.hid ((HV2.out.keep hb4 (Nat.le_refl _)).keep ha4 (Nat.le_refl _))
      have hq := hq.keep ha4 (Nat.le_refl _)
      clear hb4 hx3 ha4
      go_upto_region 6 with fail
      generalize hv4 : w4.alloc (.cells #[.slice q.oc T.cols.length q.cc, .slice q.ok T.key.length q.ck, .slice q.ou T.uqs.length q.cu] 26) = v4 at HB4 hx4 hy4 HV1 HV2 hq ⊢
      clear hv4
      go_wp2_with fail
      refine (HD2.out _ HB4.out).mono ?_
      rintro e w5 ⟨r, rfl, hr, hb5⟩
      have ha5 : Below w5.heap.size w5 (w5.alloc (.cells #[.slice r.oc T.cols.length r.cc, .slice r.ok T.key.length r.ck, .slice r.ou T.uqs.length r.cu] 26)) := (Below.refl _ _).alloc (Nat.le_refl _) _
      have HB5 := Lib.hid ((HB4.out.trans (hb5.mono HB4.out.size)).trans (ha5.mono (HB4.out.trans (hb5.mono HB4.out.size)).size))
      have hx5 := (hx4.below hb5).below ha5
      have hy5 := (hy4.below hb5).below ha5
      have hz5 : BoxS (w5.alloc (.cells #[.slice r.oc T.cols.length r.cc, .slice r.ok T.key.length r.ck, .slice r.ou T.uqs.length r.cu] 26)) w5.heap.size r T := boxS_new w5 r T
      have HV1 := Lib.hid ((HV1.out.keep hb5 (Nat.le_refl _)).keep ha5 (Nat.le_refl _))
      have HV2 := Lib.hid ((HV2.out.keep hb5 (Nat.le_refl _)).keep ha5 (Nat.le_refl _))
      have hq := (hq.keep hb5 (Nat.le_refl _)).keep ha5 (Nat.le_refl _)
      have hr := hr.keep ha5 (Nat.le_refl _)
      clear hb5 hx4 hy4 ha5
      go_upto_region 7 with fail
      generalize hv5 : w5.alloc (.cells #[.slice r.oc T.cols.length r.cc, .slice r.ok T.key.length r.ck, .slice r.ou T.uqs.length r.cu] 26) = v5 at HB5 hx5 hy5 hz5 HV1 HV2 hq hr ⊢
      clear hv5
      have cA := bytes_string HV1.out
      have cB := bytes_string HV2.out
      generalize (⟨(schL S).toArray⟩ : ByteArray) = sA at cA cB
      have hss : (sA.toList == sA.toList) = true := by simp
      have y0 := (cells3 hy5).1
      have y1 := (cells3 hy5).2.1
      have y2 := (cells3 hy5).2.2
      have z0 := (cells3 hz5).1
      have z1 := (cells3 hz5).2.1
      have z2 := (cells3 hz5).2.2
      have HSM := Lib.hid (same_small q r T v5 HT.out.1 HT.out.2.1 HT.out.2.2.1 HT.out.2.2.2 hq hr)
      go_wp2_with (first | (go_at_call 15; refine (l4num_any _ _).mono ?_; rintro e w' ⟨rfl, rfl⟩))
      refine HSM.out.mono ?_
      rintro e w6 ⟨rfl, hb6⟩
      have HB6 := Lib.hid (HB5.out.trans (hb6.mono HB5.out.size))
      have hx6 := hx5.below hb6
      have hy6 := hy5.below hb6
      have HV1 := Lib.hid (HV1.out.keep hb6 (Nat.le_refl _))
      have hq := hq.keep hb6 (Nat.le_refl _)
      clear hb6 hx5 hy5 hz5 y0 y1 y2 z0 z1 z2 cA cB HV2 hr
      have y0 := (cells3 hy6).1
      have y1 := (cells3 hy6).2.1
      have y2 := (cells3 hy6).2.2
      go_wp2_with (first | (go_at_call 15; refine (l4num_any _ _).mono ?_; rintro e w' ⟨rfl, rfl⟩))
      refine (EncodeS_any q T w6 (HGT.out.below HB6.out HGT.out.lt) hq HTN.out HT.out.1 HTU.out).mono ?_
      rintro e w7 (⟨_, v3, rfl, hv3, hb7⟩ | ⟨hno, _⟩)
      case inr => rw [HTO.out] at hno; cases hno
      rw [HTL.out] at hv3
      have HB7 := Lib.hid (HB6.out.trans (hb7.mono HB6.out.size))
      have hx7 := hx6.below hb7
      have cA := bytes_string hv3.at
      have cB := HBY.out w7 HB7.out
      generalize (⟨bl.toArray⟩ : ByteArray) = sB at cA cB
      have hs2 : (sB.toList == sB.toList) = true := by simp
      have HV1 := Lib.hid (HV1.out.keep hb7 (Nat.le_refl _))
      clear hb7 hx6 hy6 y0 y1 y2 hv3
      obtain ⟨oz, cz, hvz, _, _⟩ := id HV1.out
      subst hvz
      go_wp2_with (first | (go_at_call 15; refine (l4num_any _ _).mono ?_; rintro e w' ⟨rfl, rfl⟩))
      refine (HDE.out _ oz cz (schL S) HB7.out (by have := HLN.out; omega) HV1.out).mono ?_
      rw [HDS.out]
      rintro e w8 ⟨t, rfl, ht, hb8⟩
      have ht := ht.sch
      have ha8 : Below w8.heap.size w8 (w8.alloc (.cells #[.slice t.oc S.cols.length t.cc, .slice t.ok S.key.length t.ck, .slice t.ou S.uqs.length t.cu] 26)) := (Below.refl _ _).alloc (Nat.le_refl _) _
      have HB8 := Lib.hid ((HB7.out.trans (hb8.mono HB7.out.size)).trans (ha8.mono (HB7.out.trans (hb8.mono HB7.out.size)).size))
      have hx8 := (hx7.below hb8).below ha8
      have hy8 := boxS_new w8 t S
      have ht := ht.keep ha8 (Nat.le_refl _)
      clear hb8 ha8 hx7 cA cB hs2
      go_upto_region 16 with fail
      generalize hv8 : w8.alloc (.cells #[.slice t.oc S.cols.length t.cc, .slice t.ok S.key.length t.ck, .slice t.ou S.uqs.length t.cu] 26) = v8 at HB8 hx8 hy8 ht ⊢
      clear hv8
      have x0 := (cells3 hx8).1
      have x1 := (cells3 hx8).2.1
      have x2 := (cells3 hx8).2.2
      have y0 := (cells3 hy8).1
      have y1 := (cells3 hy8).2.1
      have y2 := (cells3 hy8).2.2
      have HSZ := Lib.hid (HSS.out v8 t HB8.out ht)
      clear hx8 hy8 ht
      go_wp2_with fail
      refine HSZ.out.mono ?_
      rintro e w9 ⟨rfl, hb9⟩
      have HB9 := Lib.hid (HB8.out.trans (hb9.mono HB8.out.size))
      clear hb9
      go_wp2_with (first | (go_at_call 15; refine (l4num_any _ _).mono ?_; rintro e w' ⟨rfl, rfl⟩) | (go_at_call 10; refine (HW.out _ HB9.out).mono ?_; rintro e wz ⟨rfl, hbz⟩))
      go_ret
      exact ⟨rfl, HB9.out.trans (hbz.mono HB9.out.size)⟩
    | false =>
      clear hg hS m0 m1 m2 m3 m4 hb n0 h2 hfs hcl hul hkl hpl hf hd
      go_enter Tryz.func6, Tryz.ntmps6
      go_wp2_with (first | (go_at_call 8; refine (HFW.out _ ((Below.refl _ _).alloc (Nat.le_refl _) _)).mono ?_; rintro e w1 ⟨he, hb1⟩; rw [HQ.out] at he; subst he; have hb := ((Below.refl w.heap.size w).alloc (Nat.le_refl _) (.cells #[.slice p.oc S.cols.length p.cc, .slice p.ok S.key.length p.ck, .slice p.ou S.uqs.length p.cu] 26)).trans (hb1.mono (by simp)); have hx := (boxS_new w p S).below hb1; have x0 := (cells3 hx).1; have x1 := (cells3 hx).2.1; have x2 := (cells3 hx).2.2))
      refine (HE1.out _ hb).mono ?_
      rintro e w2 (⟨hno, _⟩ | ⟨_, rfl, hb2⟩)
      case inl => rw [hok] at hno; cases hno
      have HB2 := Lib.hid (hb.trans (hb2.mono hb.size))
      have hx2 := hx.below hb2
      have x0 := (cells3 hx2).1
      have x1 := (cells3 hx2).2.1
      have x2 := (cells3 hx2).2.2
      clear hb2 hb1 hb hx
      go_wp2_with fail
      refine (HE2.out _ HB2.out).mono ?_
      rintro e w3 (⟨hno, _⟩ | ⟨_, rfl, hb3⟩)
      case inl => rw [hok] at hno; cases hno
      have HB3 := Lib.hid (HB2.out.trans (hb3.mono HB2.out.size))
      have hx3 := hx2.below hb3
      clear hb3 hx2 x0 x1 x2
      go_wp2_with fail
      refine (HD1.out _ HB3.out).mono ?_
      rintro e w4 ⟨q, rfl, hq, hb4⟩
      have hq := hq.sch
      have ha4 : Below w4.heap.size w4 (w4.alloc (.cells #[.slice q.oc T.cols.length q.cc, .slice q.ok T.key.length q.ck, .slice q.ou T.uqs.length q.cu] 26)) := (Below.refl _ _).alloc (Nat.le_refl _) _
      have HB4 := Lib.hid ((HB3.out.trans (hb4.mono HB3.out.size)).trans (ha4.mono (HB3.out.trans (hb4.mono HB3.out.size)).size))
      have hx4 := (hx3.below hb4).below ha4
      have hy4 : BoxS (w4.alloc (.cells #[.slice q.oc T.cols.length q.cc, .slice q.ok T.key.length q.ck, .slice q.ou T.uqs.length q.cu] 26)) w4.heap.size q T := boxS_new w4 q T
      have hq := hq.keep ha4 (Nat.le_refl _)
      clear hb4 hx3 ha4
      go_upto_region 6 with fail
      generalize hv4 : w4.alloc (.cells #[.slice q.oc T.cols.length q.cc, .slice q.ok T.key.length q.ck, .slice q.ou T.uqs.length q.cu] 26) = v4 at HB4 hx4 hy4 hq ⊢
      clear hv4
      go_wp2_with fail
      refine (HD2.out _ HB4.out).mono ?_
      rintro e w5 ⟨r, rfl, hr, hb5⟩
      have ha5 : Below w5.heap.size w5 (w5.alloc (.cells #[.slice r.oc T.cols.length r.cc, .slice r.ok T.key.length r.ck, .slice r.ou T.uqs.length r.cu] 26)) := (Below.refl _ _).alloc (Nat.le_refl _) _
      have HB5 := Lib.hid ((HB4.out.trans (hb5.mono HB4.out.size)).trans (ha5.mono (HB4.out.trans (hb5.mono HB4.out.size)).size))
      have hx5 := (hx4.below hb5).below ha5
      have hy5 := (hy4.below hb5).below ha5
      have hz5 : BoxS (w5.alloc (.cells #[.slice r.oc T.cols.length r.cc, .slice r.ok T.key.length r.ck, .slice r.ou T.uqs.length r.cu] 26)) w5.heap.size r T := boxS_new w5 r T
      have hq := (hq.keep hb5 (Nat.le_refl _)).keep ha5 (Nat.le_refl _)
      have hr := hr.keep ha5 (Nat.le_refl _)
      clear hb5 hx4 hy4 ha5
      go_upto_region 7 with fail
      generalize hv5 : w5.alloc (.cells #[.slice r.oc T.cols.length r.cc, .slice r.ok T.key.length r.ck, .slice r.ou T.uqs.length r.cu] 26) = v5 at HB5 hx5 hy5 hz5 hq hr ⊢
      clear hv5
      have cA : (convert 31 9 (.slice none 0 0)).run Tryz.prog v5 = .ok (.string ⟨#[]⟩) v5 := bytes_string (l := []) ⟨none, 0, rfl, Nat.le_refl _, fun j hj => absurd hj (Nat.not_lt_zero j)⟩
      obtain ⟨sA, hsA⟩ : ∃ sA : ByteArray, (⟨#[]⟩ : ByteArray) = sA := ⟨_, rfl⟩
      rw [hsA] at cA
      clear hsA
      have hss : (sA.toList == sA.toList) = true := by simp
      have y0 := (cells3 hy5).1
      have y1 := (cells3 hy5).2.1
      have y2 := (cells3 hy5).2.2
      have z0 := (cells3 hz5).1
      have z1 := (cells3 hz5).2.1
      have z2 := (cells3 hz5).2.2
      have HSM := Lib.hid (same_small q r T v5 HT.out.1 HT.out.2.1 HT.out.2.2.1 HT.out.2.2.2 hq hr)
      go_wp2_with (first | (go_at_call 15; refine (l4num_any _ _).mono ?_; rintro e w' ⟨rfl, rfl⟩))
      refine HSM.out.mono ?_
      rintro e w6 ⟨rfl, hb6⟩
      have HB6 := Lib.hid (HB5.out.trans (hb6.mono HB5.out.size))
      have hx6 := hx5.below hb6
      have hy6 := hy5.below hb6
      have hq := hq.keep hb6 (Nat.le_refl _)
      clear hb6 hx5 hy5 hz5 y0 y1 y2 z0 z1 z2 cA hr
      have y0 := (cells3 hy6).1
      have y1 := (cells3 hy6).2.1
      have y2 := (cells3 hy6).2.2
      go_wp2_with (first | (go_at_call 15; refine (l4num_any _ _).mono ?_; rintro e w' ⟨rfl, rfl⟩))
      refine (EncodeS_any q T w6 (HGT.out.below HB6.out HGT.out.lt) hq HTN.out HT.out.1 HTU.out).mono ?_
      rintro e w7 (⟨_, v3, rfl, hv3, hb7⟩ | ⟨hno, _⟩)
      case inr => rw [HTO.out] at hno; cases hno
      rw [HTL.out] at hv3
      have HB7 := Lib.hid (HB6.out.trans (hb7.mono HB6.out.size))
      have hx7 := hx6.below hb7
      have cA := bytes_string hv3.at
      have cB := HBY.out w7 HB7.out
      generalize (⟨bl.toArray⟩ : ByteArray) = sB at cA cB
      have hs2 : (sB.toList == sB.toList) = true := by simp
      clear hb7 hx6 hy6 y0 y1 y2 hv3
      go_wp2_with (first | (go_at_call 15; refine (l4num_any _ _).mono ?_; rintro e w' ⟨rfl, rfl⟩) | (go_at_call 10; refine (HW.out _ HB7.out).mono ?_; rintro e w8 ⟨rfl, hb8⟩))
      go_ret
      exact ⟨rfl, HB7.out.trans (hb8.mono HB7.out.size)⟩
end Go.Proofs.YtocmjlnhcloccaaGreatDoor
