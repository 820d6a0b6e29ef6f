/-
  codec.readSchema, DecodeSchema.
-/
import Derived.Test.YtocmjlnhcloccaaGreatDoorCSvs
import Derived.Test.YtocmjlnhcloccaaGreatDoorCTry
import Derived.Test.YtocmjlnhcloccaaGreatDoorSSch
import Derived.Test.YtocmjlnhcloccaaGreatDoorCEnc
namespace Go.Proofs.YtocmjlnhcloccaaGreatDoor
open Go.RowKit

/-- what lies from block N on lies as it lay -/
def Far (N : Nat) (W W' : World) : Prop := W.heap.size ≤ W'.heap.size ∧ ∀ k, N ≤ k → k < W.heap.size → W'.heap[k]? = W.heap[k]?
theorem Far.refl (N : Nat) (W : World) : Far N W W := ⟨Nat.le_refl _, fun _ _ _ => rfl⟩
theorem Far.trans {N : Nat} {a b c : World} (h : Far N a b) (k : Far N b c) : Far N a c := ⟨Nat.le_trans h.1 k.1, fun j hj hl => (k.2 j hj (Nat.lt_of_lt_of_le hl h.1)).trans (h.2 j hj hl)⟩
theorem Far.grown {N R : Nat} {W W' : World} (hg : W.grownBy W' (some R)) (hR : R < N) : Far N W W' := ⟨hg.size, fun k hk hl => hg.block k hl (fun e => by cases e; omega)⟩
theorem Far.below {N : Nat} {W W' : World} (hb : Below W.heap.size W W') : Far N W W' := ⟨hb.size, fun k _ hl => hb.block k hl⟩
theorem Far.set {N B o : Nat} {W : World} {x : Value} (hB : B < N) : Far N W (W.setCell ⟨B, o, none⟩ x) := ⟨by simp, fun k hk _ => by
    unfold World.setCell
    simp only [Array.getElem?_modify]
    rw [if_neg (by omega)]⟩
theorem Far.cell {N : Nat} {W W' : World} (h : Far N W W') {p : Addr} {v : Value} (hN : N ≤ p.block) (hc : W.cell? p = some v) : W'.cell? p = some v := (World.cell?_of_block (h.2 _ hN (World.block_lt_of_cell? _ _ hc))).trans hc
def ColsF (N : Nat) (W : World) (oc : Option Addr) (cs : List Col) : Prop := ColsIn W oc cs ∧ ∀ a, oc = some a → N ≤ a.block
theorem ColsF.far {N : Nat} {W W' : World} {oc : Option Addr} {cs : List Col} (h : ColsF N W oc cs) (hf : Far N W W') : ColsF N W' oc cs := ⟨fun j hj => by
    obtain ⟨a, ha, h0, h1, h2, h3⟩ := h.1 j hj
    have hN := h.2 a ha
    have e : (a.add (j * 4)).block = a.block := Addr.add_block _ _
    exact ⟨a, ha, hf.cell (by omega) h0, hf.cell (by simp only; omega) h1, hf.cell (by simp only; omega) h2, hf.cell (by simp only; omega) h3⟩, h.2⟩
def IntsF (N : Nat) (W : World) (oc : Option Addr) (cs : List Int) : Prop := IntsIn W oc cs ∧ ∀ a, oc = some a → N ≤ a.block
theorem IntsF.far {N : Nat} {W W' : World} {oc : Option Addr} {cs : List Int} (h : IntsF N W oc cs) (hf : Far N W W') : IntsF N W' oc cs := ⟨fun j hj => by
    obtain ⟨a, ha, h0⟩ := h.1 j hj
    have hN := h.2 a ha
    exact ⟨a, ha, hf.cell (by rw [Addr.add_block]; exact hN) h0⟩, h.2⟩
def SetsF (N : Nat) (W : World) (oa : Option Addr) (l : List (List Int)) : Prop := ∀ (j : Nat) (h : j < l.length), ∃ a ob cb, oa = some a ∧ N ≤ a.block ∧ W.cell? (a.add j) = some (.slice ob l[j].length cb) ∧ l[j].length ≤ cb ∧ IntsF N W ob l[j]
theorem SetsF.far {N : Nat} {W W' : World} {oc : Option Addr} {cs : List (List Int)} (h : SetsF N W oc cs) (hf : Far N W W') : SetsF N W' oc cs := fun j hj => by
    obtain ⟨a, ob, cb, ha, hN, h0, h1, h2⟩ := h j hj
    exact ⟨a, ob, cb, ha, hN, hf.cell (by rw [Addr.add_block]; exact hN) h0, h1, h2.far hf⟩
theorem SetsF.sets {N : Nat} {W : World} {oc : Option Addr} {cs : List (List Int)} (h : SetsF N W oc cs) : SetsIn W oc cs := fun j hj => by
    obtain ⟨a, ob, cb, ha, hN, h0, h1, h2⟩ := h j hj
    exact ⟨a, ob, cb, ha, h0, h1, h2.1⟩
theorem own_sets {W : World} {N : Nat} {v : Value} {vals : List Value} {us : List (List Int)} (h : W.ownsRow N 23 1 v us.length vals) (hr : RowsL N W vals us) : ∃ oa cap, v = .slice oa us.length cap ∧ SetsF N W oa us := by
  have h0 := h
  rcases h.2 with ⟨e, hn⟩ | ⟨g, cap, cur, e, _, _, hnc, _⟩
  · exact ⟨none, 0, by rw [e, hn], fun j hj => by omega⟩
  · subst e
    have hlt := h.lt g rfl
    refine ⟨_, cap, rfl, fun j hj => ?_⟩
    have hjv : j < vals.length := by rw [hr.1]; exact hj
    obtain ⟨ob, cb, e1, h1, h2, h3⟩ := hr.2 j hjv hj
    refine ⟨_, ob, cb, rfl, hlt.1, ?_, h1, h2, fun a ha => (h3 a ha).1⟩
    have q := h0.cellAt j (by omega)
    rw [List.getElem?_eq_getElem hjv, e1] at q
    have ej : (⟨g, 0, none⟩ : Addr).add j = ⟨g, j, none⟩ := by
      unfold Addr.add
      split
      · rename_i h; rw [h]
      · simp
    rw [ej]
    exact q
/-- the result's box, and the schema's -/
structure TwoS (W : World) (B : Nat) (a0 a1 a2 : Value) : Prop where
  r0 : W.cell? ⟨B, 0, none⟩ = some (.slice none 0 0)
  r1 : W.cell? ⟨B, 1, none⟩ = some (.slice none 0 0)
  r2 : W.cell? ⟨B, 2, none⟩ = some (.slice none 0 0)
  rf : ∀ o, W.frozen? ⟨B, o, none⟩ = false
  c0 : W.cell? ⟨B + 1, 0, none⟩ = some a0
  c1 : W.cell? ⟨B + 1, 1, none⟩ = some a1
  c2 : W.cell? ⟨B + 1, 2, none⟩ = some a2
  cf : ∀ o, W.frozen? ⟨B + 1, o, none⟩ = false
theorem TwoS.grown {W W' : World} {B R : Nat} {a0 a1 a2 : Value} (h : TwoS W B a0 a1 a2) (hg : W.grownBy W' (some R)) (hR : R < B) : TwoS W' B a0 a1 a2 := by
  have hl := World.block_lt_of_cell? _ _ h.c0
  have hl : B + 1 < W.heap.size := hl
  have q : ∀ o, W'.cell? ⟨B, o, none⟩ = W.cell? ⟨B, o, none⟩ := fun o => hg.cell_far _ (by simp; omega) (by simp; omega)
  have q1 : ∀ o, W'.cell? ⟨B + 1, o, none⟩ = W.cell? ⟨B + 1, o, none⟩ := fun o => hg.cell_far _ (by simp; omega) (by simp; omega)
  exact ⟨by rw [q]; exact h.r0, by rw [q]; exact h.r1, by rw [q]; exact h.r2, fun o => by rw [hg.frozen_far _ (by simp; omega) (by simp; omega)]; exact h.rf o, by rw [q1]; exact h.c0, by rw [q1]; exact h.c1, by rw [q1]; exact h.c2, fun o => by rw [hg.frozen_far _ (by simp; omega) (by simp; omega)]; exact h.cf o⟩
theorem twoS_new (w : World) : TwoS ((w.alloc (.cells #[.slice none 0 0, .slice none 0 0, .slice none 0 0] 26)).alloc (.cells #[.slice none 0 0, .slice none 0 0, .slice none 0 0] 26)) w.heap.size (.slice none 0 0) (.slice none 0 0) (.slice none 0 0) := by
  refine ⟨?_, ?_, ?_, fun o => ?_, ?_, ?_, ?_, fun o => ?_⟩ <;> simp [go_sem]
theorem TwoS.set0 {W : World} {B : Nat} {a0 a1 a2 : Value} (h : TwoS W B a0 a1 a2) (x : Value) : TwoS (W.setCell ⟨B + 1, 0, none⟩ x) B x a1 a2 := by
  obtain ⟨r0, r1, r2, rf, c0, c1, c2, cf⟩ := h
  refine ⟨?_, ?_, ?_, fun o => ?_, ?_, ?_, ?_, fun o => ?_⟩ <;> simp [go_sem, *]
theorem TwoS.set1 {W : World} {B : Nat} {a0 a1 a2 : Value} (h : TwoS W B a0 a1 a2) (x : Value) : TwoS (W.setCell ⟨B + 1, 1, none⟩ x) B a0 x a2 := by
  obtain ⟨r0, r1, r2, rf, c0, c1, c2, cf⟩ := h
  refine ⟨?_, ?_, ?_, fun o => ?_, ?_, ?_, ?_, fun o => ?_⟩ <;> simp [go_sem, *]
theorem TwoS.set2 {W : World} {B : Nat} {a0 a1 a2 : Value} (h : TwoS W B a0 a1 a2) (x : Value) : TwoS (W.setCell ⟨B + 1, 2, none⟩ x) B a0 a1 x := by
  obtain ⟨r0, r1, r2, rf, c0, c1, c2, cf⟩ := h
  refine ⟨?_, ?_, ?_, fun o => ?_, ?_, ?_, ?_, fun o => ?_⟩ <;> simp [go_sem, *]
/-- a schema's lists lie from block N on -/
structure SchF (N : Nat) (W : World) (p : SchV) (S : Sch) : Prop where
  cols : ColsF N W p.oc S.cols
  key : IntsF N W p.ok S.key
  uqs : SetsF N W p.ou S.uqs
  kcap : S.key.length ≤ p.ck
theorem SchF.far {N : Nat} {W W' : World} {p : SchV} {S : Sch} (h : SchF N W p S) (hf : Far N W W') : SchF N W' p S := ⟨h.cols.far hf, h.key.far hf, h.uqs.far hf, h.kcap⟩
theorem SchF.sch {N : Nat} {W : World} {p : SchV} {S : Sch} (h : SchF N W p S) : SchIn W p S := ⟨h.cols.1, h.key.1, h.uqs.sets, h.kcap⟩
theorem SchF.mono {N M : Nat} {W : World} {p : SchV} {S : Sch} (h : SchF N W p S) (hM : M ≤ N) : SchF M W p S :=
  ⟨⟨h.cols.1, fun a ha => Nat.le_trans hM (h.cols.2 a ha)⟩, ⟨h.key.1, fun a ha => Nat.le_trans hM (h.key.2 a ha)⟩, fun j hj => by
    obtain ⟨a, ob, cb, ha, hN, h0, h1, h2⟩ := h.uqs j hj
    exact ⟨a, ob, cb, ha, Nat.le_trans hM hN, h0, h1, h2.1, fun a ha => Nat.le_trans hM (h2.2 a ha)⟩, h.kcap⟩
/-- a schema's value -/
abbrev schVal (p : SchV) (S : Sch) : Value := .agg #[.slice p.oc S.cols.length p.cc, .slice p.ok S.key.length p.ck, .slice p.ou S.uqs.length p.cu]
/-- a schema has been read, or it gave up -/
def SchPost (w : World) (R : Nat) (r : Value) (i : Nat) (o : Option (Sch × Nat)) (e : Ending) (w' : World) : Prop :=
  match o with
  | some (S, k) => ∃ p : SchV, e = .returned (.agg #[.slice p.oc S.cols.length p.cc, .slice p.ok S.key.length p.ck, .slice p.ou S.uqs.length p.cu]) ∧ SchF w.heap.size w' p S ∧ Rd w' R r (i + k) ∧ w.grownBy w' (some R)
  | none => Gone w R e w'
theorem rdCol_bd {l : List UInt8} {c : Col} {k : Nat} (h : rdCol l = some (c, k)) : c.n.size ≤ 24 := by
  unfold rdCol at h
  cases h1 : rdTxt 24 l with
  | none => rw [h1] at h; cases h
  | some y1 =>
    obtain ⟨s, a⟩ := y1
    rw [h1] at h
    simp only at h
    have hs : s.length ≤ 24 := by
      unfold rdTxt at h1
      split at h1
      · split at h1
        · rename_i hu; cases h1; exact hu
        · cases h1
      · cases h1
    split at h
    · cases h
    · split at h
      · cases h
      · split at h
        · cases h
        · cases h
          show s.toArray.size ≤ 24
          simpa using hs
theorem rdMany_all {α : Type} {rd : List UInt8 → Option (α × Nat)} {B : α → Prop} (hB : ∀ l x k, rd l = some (x, k) → B x) : ∀ (n : Nat) (l : List UInt8) (xs : List α) (k : Nat), rdMany rd n l = some (xs, k) → xs.length = n ∧ ∀ x ∈ xs, B x
  | 0, l, xs, k, h => by simp only [rdMany, Option.some.injEq, Prod.mk.injEq] at h; obtain ⟨rfl, rfl⟩ := h; exact ⟨rfl, fun x hx => by cases hx⟩
  | n + 1, l, xs, k, h => by
    simp only [rdMany] at h
    cases hr : rd l with
    | none => rw [hr] at h; cases h
    | some y =>
      obtain ⟨x, a⟩ := y
      rw [hr] at h
      simp only at h
      cases hm : rdMany rd n (l.drop a) with
      | none => rw [hm] at h; cases h
      | some z =>
        obtain ⟨ys, b⟩ := z
        rw [hm] at h
        simp only [Option.some.injEq, Prod.mk.injEq] at h
        obtain ⟨rfl, rfl⟩ := h
        obtain ⟨h1, h2⟩ := rdMany_all hB n _ _ _ hm
        refine ⟨by simp [h1], fun z hz => ?_⟩
        rcases List.mem_cons.1 hz with rfl | hz
        · exact hB _ _ _ hr
        · exact h2 z hz
theorem rdSev_all {α : Type} {most : Nat} {rd : List UInt8 → Option (α × Nat)} {B : α → Prop} (hB : ∀ l x k, rd l = some (x, k) → B x) {l : List UInt8} {xs : List α} {k : Nat} (h : rdSev most rd l = some (xs, k)) : xs.length ≤ most ∧ (∀ x ∈ xs, B x) := by
  cases hr : rdNum most l with
  | none => rw [rdSev_no hr] at h; cases h
  | some y =>
    obtain ⟨n, a⟩ := y
    rw [rdSev_eq hr] at h
    cases hm : rdMany rd n (l.drop a) with
    | none => rw [hm] at h; cases h
    | some z =>
      obtain ⟨ys, b⟩ := z
      rw [hm] at h
      simp only [Option.some.injEq, Prod.mk.injEq] at h
      obtain ⟨rfl, rfl⟩ := h
      obtain ⟨h1, h2⟩ := rdMany_all hB n _ _ _ hm
      exact ⟨by rw [h1]; exact (rdNum_bd hr).1, h2⟩
set_option maxRecDepth 100000 in
set_option maxHeartbeats 8000000 in
theorem readSchema_any (R : Nat) (oa : Option Addr) (cap i : Nat) (l : List UInt8) (w : World) (he : HasET w) (hRE : 0 < R) (hr : Rd w R (.slice oa l.length cap) i) (hb : BelowAt w R oa l) (hn : l.length ≤ 1000000) (hc : l.length ≤ cap) (hi : i ≤ l.length) :
    Calls Tryz.prog 53 #[.pointer (some ⟨R, 0, none⟩)] w (SchPost w R (.slice oa l.length cap) i (rdSch (l.drop i))) := by
  have hR := hr.lt
  have hRB : R ≠ w.heap.size + 1 := by omega
  have hRB0 : R ≠ w.heap.size := by omega
  have b2 : Below w.heap.size w ((w.alloc (.cells #[.slice none 0 0, .slice none 0 0, .slice none 0 0] 26)).alloc (.cells #[.slice none 0 0, .slice none 0 0, .slice none 0 0] 26)) := ((Below.refl _ _).alloc (Nat.le_refl _) _).alloc (by simp) _
  have HR0 := Lib.hid (hr.keep b2)
  have HBA0 := Lib.hid (hb.keep (b2.mono (by omega)))
  have HG0 := Lib.hid (grown_below b2 (some R))
  have HT0 := Lib.hid (twoS_new w)
  have HB := Lib.hid hb
  have HE := Lib.hid (fun W (hg : w.grownBy W (some R)) => hasET_grown he hg (by simp; omega))
  have H1 : Hid (∀ W, Rd W R (.slice oa l.length cap) (i) → BelowAt W R oa l → Calls Tryz.prog 80 #[.pointer (some ⟨R, 0, none⟩), .int .i64 8, .func (.func 81) #[] #[]] W (SevC W R (.slice oa l.length cap) (i) (rdSev 8 rdCol (l.drop (i))))) := Lib.hid (fun W hr hb => sevC_any R oa cap (i) l 8 W hr hb hn hc hi (by decide))
  unfold rdSch
  simp only [List.drop_drop, ← Nat.add_assoc]
  clear b2 hr hb he
  cases h1 : rdSev 8 rdCol (l.drop i) with
  | none =>
    rw [h1] at H1
    replace H1 : Hid (∀ W, Rd W R (.slice oa l.length cap) (i) → BelowAt W R oa l → Calls Tryz.prog 80 #[.pointer (some ⟨R, 0, none⟩), .int .i64 8, .func (.func 81) #[] #[]] W (Gone W R)) := H1
    show Calls _ _ _ _ (Gone _ _)
    go_enter Tryz.func53, Tryz.ntmps53
    go_wp2_with fail
    refine (H1.out _ HR0.out HBA0.out).mono ?_
    rintro e w9 ⟨⟨x, rfl, hth⟩, hg⟩
    exact ⟨rfl, ⟨_, rfl, hth⟩, HG0.out.trans hg⟩
  | some y0 =>
    obtain ⟨cs, a⟩ := y0
    rw [h1] at H1
    replace H1 : Hid (∀ W, Rd W R (.slice oa l.length cap) (i) → BelowAt W R oa l → Calls Tryz.prog 80 #[.pointer (some ⟨R, 0, none⟩), .int .i64 8, .func (.func 81) #[] #[]] W (fun e w' => ∃ v, e = .returned v ∧ w'.ownsRow W.heap.size 64 4 v cs.length (ccells cs) ∧ Rd w' R (.slice oa l.length cap) (i + a) ∧ W.grownBy w' (some R))) := H1
    have hp0 : i + a ≤ l.length := drop_len (snd_sev 8 snd_col _ _ _ h1).2 hi
    simp only
    have H2 : Hid (∀ W, Rd W R (.slice oa l.length cap) (i + a) → BelowAt W R oa l → Calls Tryz.prog 82 #[.pointer (some ⟨R, 0, none⟩)] W (SevI W R (.slice oa l.length cap) (i + a) (rdPlaces (l.drop (i + a))))) := Lib.hid (fun W hr hb => readPlaces_any R oa cap (i + a) l W hr hb hn hc hp0)
    cases h2 : rdPlaces (l.drop (i + a)) with
    | none =>
      rw [h2] at H2
      replace H2 : Hid (∀ W, Rd W R (.slice oa l.length cap) (i + a) → BelowAt W R oa l → Calls Tryz.prog 82 #[.pointer (some ⟨R, 0, none⟩)] W (Gone W R)) := H2
      show Calls _ _ _ _ (Gone _ _)
      go_enter Tryz.func53, Tryz.ntmps53
      go_wp2_with fail
      refine (H1.out _ HR0.out HBA0.out).mono ?_
      rintro e v0 ⟨vv, rfl, hown, hrd, hg⟩
      obtain ⟨oc, cc, rfl, hcin, hcb⟩ := own_cols hown
      have hsz0 : w.heap.size + 2 ≤ ((w.alloc (.cells #[.slice none 0 0, .slice none 0 0, .slice none 0 0] 26)).alloc (.cells #[.slice none 0 0, .slice none 0 0, .slice none 0 0] 26)).heap.size := by simp
      have HCF0 := Lib.hid (show ColsF (w.heap.size + 2) v0 oc cs from ⟨hcin, fun a ha => Nat.le_trans hsz0 (hcb a ha).1⟩)
      clear hcin hcb
      have hz0 : w.heap.size + 2 ≤ v0.heap.size := Nat.le_trans hsz0 hg.size
      have ht0 := HT0.out.grown hg hR
      have e0 := ht0.c0
      have f0 := ht0.cf 0
      have HR1 := Lib.hid (hrd.set (x := .slice oc cs.length cc) (o := 0) hRB)
      have HT1 := Lib.hid (ht0.set0 (.slice oc cs.length cc))
      have HG1 := Lib.hid (grown_set (x := .slice oc cs.length cc) (B := w.heap.size + 1) (o := 0) (HG0.out.trans hg) (by omega))
      clear hrd hg ht0 hown
      go_wp2_with fail
      refine (H2.out _ HR1.out (HB.out.grown HG1.out)).mono ?_
      rintro e w9 ⟨⟨x, rfl, hth⟩, hg⟩
      exact ⟨rfl, ⟨_, rfl, hth⟩, HG1.out.trans hg⟩
    | some y1 =>
      obtain ⟨ks, b⟩ := y1
      rw [h2] at H2
      replace H2 : Hid (∀ W, Rd W R (.slice oa l.length cap) (i + a) → BelowAt W R oa l → Calls Tryz.prog 82 #[.pointer (some ⟨R, 0, none⟩)] W (fun e w' => ∃ v, e = .returned v ∧ w'.ownsRow W.heap.size 3 1 v ks.length (ivs ks) ∧ Rd w' R (.slice oa l.length cap) (i + a + b) ∧ W.grownBy w' (some R))) := H2
      have hp1 : i + a + b ≤ l.length := drop_len (snd_places _ _ _ h2).2 hp0
      simp only
      have H3 : Hid (∀ W, Rd W R (.slice oa l.length cap) (i + a + b) → BelowAt W R oa l → Calls Tryz.prog 83 #[.pointer (some ⟨R, 0, none⟩), .int .i64 3, .func (.func 82) #[] #[]] W (SevL W R (.slice oa l.length cap) (i + a + b) (rdSev 3 rdPlaces (l.drop (i + a + b))))) := Lib.hid (fun W hr hb => sevL_any R oa cap (i + a + b) l 3 W hr hb hn hc hp1 (by decide))
      cases h3 : rdSev 3 rdPlaces (l.drop (i + a + b)) with
      | none =>
        rw [h3] at H3
        replace H3 : Hid (∀ W, Rd W R (.slice oa l.length cap) (i + a + b) → BelowAt W R oa l → Calls Tryz.prog 83 #[.pointer (some ⟨R, 0, none⟩), .int .i64 3, .func (.func 82) #[] #[]] W (Gone W R)) := H3
        show Calls _ _ _ _ (Gone _ _)
        go_enter Tryz.func53, Tryz.ntmps53
        go_wp2_with fail
        refine (H1.out _ HR0.out HBA0.out).mono ?_
        rintro e v0 ⟨vv, rfl, hown, hrd, hg⟩
        obtain ⟨oc, cc, rfl, hcin, hcb⟩ := own_cols hown
        have hsz0 : w.heap.size + 2 ≤ ((w.alloc (.cells #[.slice none 0 0, .slice none 0 0, .slice none 0 0] 26)).alloc (.cells #[.slice none 0 0, .slice none 0 0, .slice none 0 0] 26)).heap.size := by simp
        have HCF0 := Lib.hid (show ColsF (w.heap.size + 2) v0 oc cs from ⟨hcin, fun a ha => Nat.le_trans hsz0 (hcb a ha).1⟩)
        clear hcin hcb
        have hz0 : w.heap.size + 2 ≤ v0.heap.size := Nat.le_trans hsz0 hg.size
        have ht0 := HT0.out.grown hg hR
        have e0 := ht0.c0
        have f0 := ht0.cf 0
        have HR1 := Lib.hid (hrd.set (x := .slice oc cs.length cc) (o := 0) hRB)
        have HT1 := Lib.hid (ht0.set0 (.slice oc cs.length cc))
        have HG1 := Lib.hid (grown_set (x := .slice oc cs.length cc) (B := w.heap.size + 1) (o := 0) (HG0.out.trans hg) (by omega))
        clear hrd hg ht0 hown
        go_wp2_with fail
        refine (H2.out _ HR1.out (HB.out.grown HG1.out)).mono ?_
        rintro e v1 ⟨vv, rfl, hown, hrd, hg⟩
        obtain ⟨ok, ck, rfl, hkin, hkc, hkb, _⟩ := own_ints hown rfl
        have hsz1 : w.heap.size + 2 ≤ (v0.setCell ⟨w.heap.size + 1, 0, none⟩ (.slice oc cs.length cc)).heap.size := by have := hz0; simp; omega
        have HKF1 := Lib.hid (show IntsF (w.heap.size + 2) v1 ok ks from ⟨hkin, fun a ha => Nat.le_trans hsz1 (hkb a ha).1⟩)
        have HCF1 := Lib.hid (HCF0.out.far ((Far.set (by omega)).trans (Far.grown hg (by omega))))
        clear hkin hkb HCF0
        have hz1 : w.heap.size + 2 ≤ v1.heap.size := Nat.le_trans hsz1 hg.size
        have ht1 := HT1.out.grown hg hR
        have e1 := ht1.c1
        have f1 := ht1.cf 1
        have HR2 := Lib.hid (hrd.set (x := .slice ok ks.length ck) (o := 1) hRB)
        have HT2 := Lib.hid (ht1.set1 (.slice ok ks.length ck))
        have HG2 := Lib.hid (grown_set (x := .slice ok ks.length ck) (B := w.heap.size + 1) (o := 1) (HG1.out.trans hg) (by omega))
        clear hrd hg ht1 hown
        go_wp2_with fail
        refine (H3.out _ HR2.out (HB.out.grown HG2.out)).mono ?_
        rintro e w9 ⟨⟨x, rfl, hth⟩, hg⟩
        exact ⟨rfl, ⟨_, rfl, hth⟩, HG2.out.trans hg⟩
      | some y2 =>
        obtain ⟨us, c⟩ := y2
        rw [h3] at H3
        replace H3 : Hid (∀ W, Rd W R (.slice oa l.length cap) (i + a + b) → BelowAt W R oa l → Calls Tryz.prog 83 #[.pointer (some ⟨R, 0, none⟩), .int .i64 3, .func (.func 82) #[] #[]] W (fun e w' => ∃ v vals, e = .returned v ∧ w'.ownsRow W.heap.size 23 1 v us.length vals ∧ RowsL W.heap.size w' vals us ∧ Rd w' R (.slice oa l.length cap) (i + a + b + c) ∧ W.grownBy w' (some R))) := H3
        have hp2 : i + a + b + c ≤ l.length := drop_len (snd_sev 3 snd_places _ _ _ h3).2 hp1
        simp only
        have hbc := rdSev_all (B := fun c : Col => c.n.size ≤ 24) (fun _ _ _ h => rdCol_bd h) h1
        have hbu := rdSev_all (B := fun _ : List Int => True) (fun _ _ _ _ => trivial) h3
        have HSC : Hid (∀ W (p : SchV), w.grownBy W (some R) → SchIn W p ⟨cs, ks, us⟩ → Calls Tryz.prog 32 #[.agg #[.slice p.oc cs.length p.cc, .slice p.ok ks.length p.ck, .slice p.ou us.length p.cu]] W fun e w' => e = .returned (.int .i64 (schN ⟨cs, ks, us⟩)) ∧ Below W.heap.size W w') := Lib.hid (fun W p hg hS => SCheck_any p ⟨cs, ks, us⟩ W (HE.out W hg) (fun c hc => Nat.le_trans (hbc.2 c hc) (by decide)) (by have := hbc.1; simp only; omega) (by have := hbu.1; simp only; omega) hS)
        clear hbc hbu h1 h2 h3
        cases hok : schOk ⟨cs, ks, us⟩ with
        | true =>
          rw [if_pos rfl]
          rw [show schN ⟨cs, ks, us⟩ = 0 by unfold schN; rw [hok]; rfl] at HSC
          clear hok
          go_enter Tryz.func53, Tryz.ntmps53
          go_wp2_with fail
          refine (H1.out _ HR0.out HBA0.out).mono ?_
          rintro e v0 ⟨vv, rfl, hown, hrd, hg⟩
          obtain ⟨oc, cc, rfl, hcin, hcb⟩ := own_cols hown
          have hsz0 : w.heap.size + 2 ≤ ((w.alloc (.cells #[.slice none 0 0, .slice none 0 0, .slice none 0 0] 26)).alloc (.cells #[.slice none 0 0, .slice none 0 0, .slice none 0 0] 26)).heap.size := by simp
          have HCF0 := Lib.hid (show ColsF (w.heap.size + 2) v0 oc cs from ⟨hcin, fun a ha => Nat.le_trans hsz0 (hcb a ha).1⟩)
          clear hcin hcb
          have hz0 : w.heap.size + 2 ≤ v0.heap.size := Nat.le_trans hsz0 hg.size
          have ht0 := HT0.out.grown hg hR
          have e0 := ht0.c0
          have f0 := ht0.cf 0
          have HR1 := Lib.hid (hrd.set (x := .slice oc cs.length cc) (o := 0) hRB)
          have HT1 := Lib.hid (ht0.set0 (.slice oc cs.length cc))
          have HG1 := Lib.hid (grown_set (x := .slice oc cs.length cc) (B := w.heap.size + 1) (o := 0) (HG0.out.trans hg) (by omega))
          clear hrd hg ht0 hown
          go_wp2_with fail
          refine (H2.out _ HR1.out (HB.out.grown HG1.out)).mono ?_
          rintro e v1 ⟨vv, rfl, hown, hrd, hg⟩
          obtain ⟨ok, ck, rfl, hkin, hkc, hkb, _⟩ := own_ints hown rfl
          have hsz1 : w.heap.size + 2 ≤ (v0.setCell ⟨w.heap.size + 1, 0, none⟩ (.slice oc cs.length cc)).heap.size := by have := hz0; simp; omega
          have HKF1 := Lib.hid (show IntsF (w.heap.size + 2) v1 ok ks from ⟨hkin, fun a ha => Nat.le_trans hsz1 (hkb a ha).1⟩)
          have HCF1 := Lib.hid (HCF0.out.far ((Far.set (by omega)).trans (Far.grown hg (by omega))))
          clear hkin hkb HCF0
          have hz1 : w.heap.size + 2 ≤ v1.heap.size := Nat.le_trans hsz1 hg.size
          have ht1 := HT1.out.grown hg hR
          have e1 := ht1.c1
          have f1 := ht1.cf 1
          have HR2 := Lib.hid (hrd.set (x := .slice ok ks.length ck) (o := 1) hRB)
          have HT2 := Lib.hid (ht1.set1 (.slice ok ks.length ck))
          have HG2 := Lib.hid (grown_set (x := .slice ok ks.length ck) (B := w.heap.size + 1) (o := 1) (HG1.out.trans hg) (by omega))
          clear hrd hg ht1 hown
          go_wp2_with fail
          refine (H3.out _ HR2.out (HB.out.grown HG2.out)).mono ?_
          rintro e v2 ⟨vv, vals, rfl, hown, hrl, hrd, hg⟩
          obtain ⟨ou, cu, rfl, huin⟩ := own_sets hown hrl
          have hsz2 : w.heap.size + 2 ≤ (v1.setCell ⟨w.heap.size + 1, 1, none⟩ (.slice ok ks.length ck)).heap.size := by have := hz1; simp; omega
          have HUF2 := Lib.hid (show SetsF (w.heap.size + 2) v2 ou us from fun j hj => by
          obtain ⟨a, ob, cb, ha, hN, h0, h1, h2⟩ := huin j hj
          exact ⟨a, ob, cb, ha, Nat.le_trans hsz2 hN, h0, h1, h2.1, fun a ha => Nat.le_trans hsz2 (h2.2 a ha)⟩)
          have HCF2 := Lib.hid (HCF1.out.far ((Far.set (by omega)).trans (Far.grown hg (by omega))))
          have HKF2 := Lib.hid (HKF1.out.far ((Far.set (by omega)).trans (Far.grown hg (by omega))))
          clear huin HCF1 HKF1 hrl
          have hz2 : w.heap.size + 2 ≤ v2.heap.size := Nat.le_trans hsz2 hg.size
          have ht2 := HT2.out.grown hg hR
          have e2 := ht2.c2
          have f2 := ht2.cf 2
          have HR3 := Lib.hid (hrd.set (x := .slice ou us.length cu) (o := 2) hRB)
          have HT3 := Lib.hid (ht2.set2 (.slice ou us.length cu))
          have HG3 := Lib.hid (grown_set (x := .slice ou us.length cu) (B := w.heap.size + 1) (o := 2) (HG2.out.trans hg) (by omega))
          clear hrd hg ht2 hown
          have hscf := HSC.out (v2.setCell ⟨w.heap.size + 1, 2, none⟩ (.slice ou us.length cu)) ⟨oc, cc, ok, ck, ou, cu⟩ HG3.out ⟨(HCF2.out.far (Far.set (by omega))).1, (HKF2.out.far (Far.set (by omega))).1, (HUF2.out.far (Far.set (by omega))).sets, hkc⟩
          have HCK := Lib.hid hscf
          clear hscf
          obtain ⟨r0, r1, r2, rf, g0, g1, g2, cf⟩ := HT3.out
          go_wp2_with fail
          refine HCK.out.mono ?_
          rintro e v3 ⟨rfl, hb3⟩
          have hb3g := grown_below hb3 (some R)
          have ht3 := HT3.out.grown hb3g hR
          have HG4 := Lib.hid (HG3.out.trans hb3g)
          have HF4 := Lib.hid ((Far.set (N := w.heap.size + 2) (W := v2) (B := w.heap.size + 1) (o := 2) (x := .slice ou us.length cu) (by omega)).trans (Far.below hb3))
          have HR4 := Lib.hid (HR3.out.keep hb3)
          rw [show i + a + b + c = i + (a + b + c) by omega] at HR4
          clear r0 r1 r2 rf g0 g1 g2 cf
          obtain ⟨r0, r1, r2, rf, g0, g1, g2, cf⟩ := ht3
          have rf0 := rf 0
          have rf1 := rf 1
          have rf2 := rf 2
          clear hb3 hb3g rf cf
          go_wp2_with fail
          refine (Grant_ok _ _).mono ?_
          rintro e w9 ⟨rfl, rfl⟩
          go_wp2_with fail
          have HF5 := Lib.hid (HF4.out.trans ((Far.set (N := w.heap.size + 2) (W := v3) (B := w.heap.size) (o := 0) (x := .slice oc cs.length cc) (by omega)).trans ((Far.set (B := w.heap.size) (o := 1) (x := .slice ok ks.length ck) (by omega)).trans (Far.set (B := w.heap.size) (o := 2) (x := .slice ou us.length cu) (by omega)))))
          exact bodyPost_ret (v := .agg #[.slice oc cs.length cc, .slice ok ks.length ck, .slice ou us.length cu]) (by simp [results, Tryz.results53, go_sem, r0, r1, r2]) rfl ⟨⟨oc, cc, ok, ck, ou, cu⟩, rfl, SchF.mono (N := w.heap.size + 2) ⟨HCF2.out.far HF5.out, HKF2.out.far HF5.out, HUF2.out.far HF5.out, hkc⟩ (by omega), ((HR4.out.set hRB0).set hRB0).set hRB0, grown_set (grown_set (grown_set HG4.out (Nat.le_refl _)) (Nat.le_refl _)) (Nat.le_refl _)⟩
        | false =>
          rw [if_neg (by decide)]
          rw [show schN ⟨cs, ks, us⟩ = 2 by unfold schN; rw [hok]; rfl] at HSC
          show Calls _ _ _ _ (Gone _ _)
          clear hok
          go_enter Tryz.func53, Tryz.ntmps53
          go_wp2_with fail
          refine (H1.out _ HR0.out HBA0.out).mono ?_
          rintro e v0 ⟨vv, rfl, hown, hrd, hg⟩
          obtain ⟨oc, cc, rfl, hcin, hcb⟩ := own_cols hown
          have hsz0 : w.heap.size + 2 ≤ ((w.alloc (.cells #[.slice none 0 0, .slice none 0 0, .slice none 0 0] 26)).alloc (.cells #[.slice none 0 0, .slice none 0 0, .slice none 0 0] 26)).heap.size := by simp
          have HCF0 := Lib.hid (show ColsF (w.heap.size + 2) v0 oc cs from ⟨hcin, fun a ha => Nat.le_trans hsz0 (hcb a ha).1⟩)
          clear hcin hcb
          have hz0 : w.heap.size + 2 ≤ v0.heap.size := Nat.le_trans hsz0 hg.size
          have ht0 := HT0.out.grown hg hR
          have e0 := ht0.c0
          have f0 := ht0.cf 0
          have HR1 := Lib.hid (hrd.set (x := .slice oc cs.length cc) (o := 0) hRB)
          have HT1 := Lib.hid (ht0.set0 (.slice oc cs.length cc))
          have HG1 := Lib.hid (grown_set (x := .slice oc cs.length cc) (B := w.heap.size + 1) (o := 0) (HG0.out.trans hg) (by omega))
          clear hrd hg ht0 hown
          go_wp2_with fail
          refine (H2.out _ HR1.out (HB.out.grown HG1.out)).mono ?_
          rintro e v1 ⟨vv, rfl, hown, hrd, hg⟩
          obtain ⟨ok, ck, rfl, hkin, hkc, hkb, _⟩ := own_ints hown rfl
          have hsz1 : w.heap.size + 2 ≤ (v0.setCell ⟨w.heap.size + 1, 0, none⟩ (.slice oc cs.length cc)).heap.size := by have := hz0; simp; omega
          have HKF1 := Lib.hid (show IntsF (w.heap.size + 2) v1 ok ks from ⟨hkin, fun a ha => Nat.le_trans hsz1 (hkb a ha).1⟩)
          have HCF1 := Lib.hid (HCF0.out.far ((Far.set (by omega)).trans (Far.grown hg (by omega))))
          clear hkin hkb HCF0
          have hz1 : w.heap.size + 2 ≤ v1.heap.size := Nat.le_trans hsz1 hg.size
          have ht1 := HT1.out.grown hg hR
          have e1 := ht1.c1
          have f1 := ht1.cf 1
          have HR2 := Lib.hid (hrd.set (x := .slice ok ks.length ck) (o := 1) hRB)
          have HT2 := Lib.hid (ht1.set1 (.slice ok ks.length ck))
          have HG2 := Lib.hid (grown_set (x := .slice ok ks.length ck) (B := w.heap.size + 1) (o := 1) (HG1.out.trans hg) (by omega))
          clear hrd hg ht1 hown
          go_wp2_with fail
          refine (H3.out _ HR2.out (HB.out.grown HG2.out)).mono ?_
          rintro e v2 ⟨vv, vals, rfl, hown, hrl, hrd, hg⟩
          obtain ⟨ou, cu, rfl, huin⟩ := own_sets hown hrl
          have hsz2 : w.heap.size + 2 ≤ (v1.setCell ⟨w.heap.size + 1, 1, none⟩ (.slice ok ks.length ck)).heap.size := by have := hz1; simp; omega
          have HUF2 := Lib.hid (show SetsF (w.heap.size + 2) v2 ou us from fun j hj => by
          obtain ⟨a, ob, cb, ha, hN, h0, h1, h2⟩ := huin j hj
          exact ⟨a, ob, cb, ha, Nat.le_trans hsz2 hN, h0, h1, h2.1, fun a ha => Nat.le_trans hsz2 (h2.2 a ha)⟩)
          have HCF2 := Lib.hid (HCF1.out.far ((Far.set (by omega)).trans (Far.grown hg (by omega))))
          have HKF2 := Lib.hid (HKF1.out.far ((Far.set (by omega)).trans (Far.grown hg (by omega))))
          clear huin HCF1 HKF1 hrl
          have hz2 : w.heap.size + 2 ≤ v2.heap.size := Nat.le_trans hsz2 hg.size
          have ht2 := HT2.out.grown hg hR
          have e2 := ht2.c2
          have f2 := ht2.cf 2
          have HR3 := Lib.hid (hrd.set (x := .slice ou us.length cu) (o := 2) hRB)
          have HT3 := Lib.hid (ht2.set2 (.slice ou us.length cu))
          have HG3 := Lib.hid (grown_set (x := .slice ou us.length cu) (B := w.heap.size + 1) (o := 2) (HG2.out.trans hg) (by omega))
          clear hrd hg ht2 hown
          have hscf := HSC.out (v2.setCell ⟨w.heap.size + 1, 2, none⟩ (.slice ou us.length cu)) ⟨oc, cc, ok, ck, ou, cu⟩ HG3.out ⟨(HCF2.out.far (Far.set (by omega))).1, (HKF2.out.far (Far.set (by omega))).1, (HUF2.out.far (Far.set (by omega))).sets, hkc⟩
          have HCK := Lib.hid hscf
          clear hscf
          obtain ⟨r0, r1, r2, rf, g0, g1, g2, cf⟩ := HT3.out
          go_wp2_with fail
          refine HCK.out.mono ?_
          rintro e v3 ⟨rfl, hb3⟩
          have hb3g := grown_below hb3 (some R)
          have ht3 := HT3.out.grown hb3g hR
          have HG4 := Lib.hid (HG3.out.trans hb3g)
          clear hb3 hb3g ht3
          go_wp2_with fail
          refine (Grant_bad _ 2 (by decide) _).mono ?_
          rintro e w9 ⟨⟨x, rfl, hth⟩, hb9⟩
          exact ⟨rfl, ⟨_, rfl, hth⟩, HG4.out.trans (grown_below hb9 _)⟩
end Go.Proofs.YtocmjlnhcloccaaGreatDoor
namespace Go.Proofs.YtocmjlnhcloccaaGreatDoor
open Go.RowKit

set_option maxRecDepth 100000 in
set_option maxHeartbeats 1000000 in
theorem attC_panicking (p : Addr) (y : Int) (x : Value) (w : World) (hg : HasET w) (hx : Thrown w x) (hc : w.cell? p = some (.int .i64 y)) (hz : w.frozen? p = false) :
    CallsD Tryz.prog 115 #[.pointer (some p)] (.panicking [{ v := x, recovered := false }]) w fun e u' w' =>
      e = .returned (.tuple #[]) ∧ u' = .panicking [{ v := x, recovered := true }] ∧ ∃ n w1, n ≠ (0 : Int) ∧ Below w.heap.size w w1 ∧ w1.setCell p (.int .i64 n) = w' := by
  obtain ⟨b, n, rfl, hn0, hb⟩ := hx
  have HE := Lib.hid (errno_err b n w hg hb)
  have hpl : p.block < w.heap.size := World.block_lt_of_cell? _ _ hc
  refine callsD_of_wpS Tryz.func115 rfl fun c₀ cs hu => ?_
  apply wpS_seq
  apply wpS_region
  simp [wpOpsS, go_sem, recoverD, hu, Tryz.ntmps115, Exit.thenS]
  refine wpS_of_wp ?_
  rw [show (#[Value.pointer (some p)] ++ ((Array.replicate 18 undef).setIfInBounds 3 (Value.iface 138 (Value.pointer (some ⟨b, 0, none⟩)))).setIfInBounds 0 (Value.iface 138 (Value.pointer (some ⟨b, 0, none⟩))) : Array Value) = #[.pointer (some p), .iface 138 (.pointer (some ⟨b, 0, none⟩)), undef, undef, .iface 138 (.pointer (some ⟨b, 0, none⟩)), undef, undef, undef, undef, undef, undef, undef, undef, undef, undef, undef, undef, undef, undef] from rfl]
  have HU := Lib.hid hu
  clear hu
  have hTA := asRef (.pointer (some ⟨b, 0, none⟩))
  go_wp2_with (go_at_call 58; refine HE.out.mono ?_; rintro e w1 ⟨rfl, hb1⟩; have hc1 : w1.cell? p = some (.int .i64 y) := (hb1.cell hpl).trans hc; have hz1 : w1.frozen? p = false := (hb1.frozen hpl).trans hz)
  have hu := HU.out
  cases c₀
  simp_all [bodyPostS, results, Tryz.results115, go_sem]
  exact ⟨n, hn0, w1, hb1, rfl⟩
set_option maxRecDepth 100000 in
set_option maxHeartbeats 1000000 in
theorem attC_idle (p : Addr) (w : World) :
    CallsD Tryz.prog 115 #[.pointer (some p)] .returning w fun e u' w' => e = .returned (.tuple #[]) ∧ u' = .returning ∧ w = w' := by
  refine callsD_of_wpS Tryz.func115 rfl fun c₀ cs hu => ?_
  apply wpS_seq
  apply wpS_region
  simp [wpOpsS, go_sem, recoverD, hu, Tryz.ntmps115, Exit.thenS]
  refine wpS_of_wp ?_
  rw [show (#[Value.pointer (some p)] ++ ((Array.replicate 18 undef).setIfInBounds 3 Value.nilIface).setIfInBounds 0 Value.nilIface : Array Value) = #[.pointer (some p), .nilIface, undef, undef, .nilIface, undef, undef, undef, undef, undef, undef, undef, undef, undef, undef, undef, undef, undef, undef] from rfl]
  have HU := Lib.hid hu
  clear hu
  have hTA := asRefNil
  go_wp2
  have hu := HU.out
  cases c₀
  simp_all [bodyPostS, results, Tryz.results115, go_sem]
/-- the boxes of what is told: the schema's, the number's -/
structure Bx (W : World) (B : Nat) : Prop where
  r0 : W.cell? ⟨B, 0, none⟩ = some (.slice none 0 0)
  r1 : W.cell? ⟨B, 1, none⟩ = some (.slice none 0 0)
  r2 : W.cell? ⟨B, 2, none⟩ = some (.slice none 0 0)
  rf : ∀ o, W.frozen? ⟨B, o, none⟩ = false
  e0 : W.cell? ⟨B + 1, 0, none⟩ = some (.int .i64 0)
  ef : W.frozen? ⟨B + 1, 0, none⟩ = false
theorem bx_new (w : World) : Bx ((w.alloc (.cells #[.slice none 0 0, .slice none 0 0, .slice none 0 0] 26)).alloc (.cells #[.int .i64 0] 32)) w.heap.size := by
  refine ⟨?_, ?_, ?_, fun o => ?_, ?_, ?_⟩ <;> simp [go_sem]
theorem Bx.below {W W' : World} {B : Nat} (h : Bx W B) (hb : Below W.heap.size W W') : Bx W' B := by
  have hl : B + 1 < W.heap.size := World.block_lt_of_cell? _ _ h.e0
  have q : ∀ o, W'.cell? ⟨B, o, none⟩ = W.cell? ⟨B, o, none⟩ := fun o => hb.cell (by simp; omega)
  exact ⟨by rw [q]; exact h.r0, by rw [q]; exact h.r1, by rw [q]; exact h.r2, fun o => by rw [hb.frozen (by simp; omega)]; exact h.rf o, by rw [hb.cell (by simp; omega)]; exact h.e0, by rw [hb.frozen (by simp; omega)]; exact h.ef⟩
set_option maxRecDepth 100000 in
set_option maxHeartbeats 1000000 in
theorem attC_yes (f : Nat) (a b : Value) (S : Sch) (w : World) (hf : ∀ (a : Array Value) W, (callFunc f a).run Tryz.prog W = .ok (.enter f a) W)
    (H : Calls Tryz.prog f #[a, b] ((w.alloc (.cells #[.slice none 0 0, .slice none 0 0, .slice none 0 0] 26)).alloc (.cells #[.int .i64 0] 32)) fun e w' => ∃ p : SchV, e = .returned (.agg #[.slice p.oc S.cols.length p.cc, .slice p.ok S.key.length p.ck, .slice p.ou S.uqs.length p.cu]) ∧ SchF (w.heap.size + 2) w' p S ∧ Below ((w.alloc (.cells #[.slice none 0 0, .slice none 0 0, .slice none 0 0] 26)).alloc (.cells #[.int .i64 0] 32)).heap.size ((w.alloc (.cells #[.slice none 0 0, .slice none 0 0, .slice none 0 0] 26)).alloc (.cells #[.int .i64 0] 32)) w') :
    Calls Tryz.prog 78 #[.func (.func f) #[] #[a, b]] w fun e w' => ∃ p : SchV, e = .returned (.tuple #[.agg #[.slice p.oc S.cols.length p.cc, .slice p.ok S.key.length p.ck, .slice p.ou S.uqs.length p.cu], .int .i64 0]) ∧ SchF (w.heap.size + 2) w' p S ∧ Below w.heap.size w w' := by
  have hmf : ∀ (fn : Fn) (first cap : Array Value) (w : World), (Instr.makeFunc fn first cap).run Tryz.prog w = .ok (.func fn first cap) w := fun _ _ _ _ => rfl
  have HH := Lib.hid H
  have HB0 := Lib.hid (((Below.refl w.heap.size w).alloc (Nat.le_refl _) (.cells #[.slice none 0 0, .slice none 0 0, .slice none 0 0] 26)).alloc (by simp) (.cells #[.int .i64 0] 32))
  clear H
  go_enter_defers Tryz.func78, Tryz.ntmps78
  go_wp2_with fail
  refine HH.out.mono ?_
  rintro e w1 ⟨p, rfl, hs, hb⟩
  have HS := Lib.hid hs
  have HB := Lib.hid (HB0.out.trans (hb.mono HB0.out.size))
  obtain ⟨r0, r1, r2, rf, e0, ef⟩ := (bx_new w).below hb
  have rf0 := rf 0
  have rf1 := rf 1
  have rf2 := rf 2
  clear hs hb rf
  go_wp2_with fail
  refine leaves_cons (f := 115) (args := #[.pointer (some ⟨w.heap.size + 1, 0, none⟩)]) (by simp) (by simp [go_sem]) ?_
  refine (attC_idle ⟨w.heap.size + 1, 0, none⟩ _).mono ?_
  rintro e u' w'' ⟨rfl, rfl, rfl⟩
  simp [Leaves, settle, results, Tryz.results78, go_sem, r0, r1, r2, e0]
  refine ⟨p, by simp, HS.out.far ((Far.set (by omega)).trans ((Far.set (by omega)).trans ((Far.set (by omega)).trans (Far.set (by omega))))), (((HB.out.setCell (by simp) _).setCell (by simp) _).setCell (by simp) _).setCell (by simp) _⟩
set_option maxRecDepth 100000 in
set_option maxHeartbeats 1000000 in
theorem attC_no (f : Nat) (a b : Value) (w : World) (he : HasET w) (hf : ∀ (a : Array Value) W, (callFunc f a).run Tryz.prog W = .ok (.enter f a) W)
    (H : Calls Tryz.prog f #[a, b] ((w.alloc (.cells #[.slice none 0 0, .slice none 0 0, .slice none 0 0] 26)).alloc (.cells #[.int .i64 0] 32)) (Gave ((w.alloc (.cells #[.slice none 0 0, .slice none 0 0, .slice none 0 0] 26)).alloc (.cells #[.int .i64 0] 32)))) :
    Calls Tryz.prog 78 #[.func (.func f) #[] #[a, b]] w fun e w' => ∃ n, n ≠ (0 : Int) ∧ e = .returned (.tuple #[.agg #[.slice none 0 0, .slice none 0 0, .slice none 0 0], .int .i64 n]) ∧ Below w.heap.size w w' := by
  have hmf : ∀ (fn : Fn) (first cap : Array Value) (w : World), (Instr.makeFunc fn first cap).run Tryz.prog w = .ok (.func fn first cap) w := fun _ _ _ _ => rfl
  have HH := Lib.hid H
  have HB0 := Lib.hid (((Below.refl w.heap.size w).alloc (Nat.le_refl _) (.cells #[.slice none 0 0, .slice none 0 0, .slice none 0 0] 26)).alloc (by simp) (.cells #[.int .i64 0] 32))
  clear H
  go_enter_defers Tryz.func78, Tryz.ntmps78
  go_wp2_with fail
  refine HH.out.mono ?_
  rintro e w1 ⟨⟨x, rfl, hth⟩, hb⟩
  have HB := Lib.hid (HB0.out.trans (hb.mono HB0.out.size))
  have he1 : HasET w1 := he.below HB.out he.lt
  have hbx := (bx_new w).below hb
  have hsz : w.heap.size + 1 < w1.heap.size := World.block_lt_of_cell? _ _ hbx.e0
  clear hb
  refine leaves_cons (f := 115) (args := #[.pointer (some ⟨w.heap.size + 1, 0, none⟩)]) (by simp) (by simp [go_sem]) ?_
  refine (attC_panicking ⟨w.heap.size + 1, 0, none⟩ 0 x _ he1 hth hbx.e0 hbx.ef).mono ?_
  rintro e u' w'' ⟨rfl, rfl, n, w2, hn0, hb2, rfl⟩
  obtain ⟨r0, r1, r2, rf, e0, ef⟩ := hbx.below hb2
  simp [Leaves, settle, results, Tryz.results78, go_sem, r0, r1, r2, e0]
  exact ⟨n, hn0, rfl, (HB.out.trans (hb2.mono HB.out.size)).setCell (by simp) _⟩
/-- what the reader of a whole schema tells -/
def WhS (N : Nat) (o : Option Sch) (w : World) (e : Ending) (w' : World) : Prop :=
  match o with
  | some S => ∃ p : SchV, e = .returned (.agg #[.slice p.oc S.cols.length p.cc, .slice p.ok S.key.length p.ck, .slice p.ou S.uqs.length p.cu]) ∧ SchF N w' p S ∧ Below w.heap.size w w'
  | none => Gave w e w'
set_option maxRecDepth 100000 in
set_option maxHeartbeats 1000000 in
theorem wholeS1_any (oa : Option Addr) (cap : Nat) (l : List UInt8) (pb pr : Addr) (w : World) (he : HasET w) (hba : BytesAt w (.slice oa l.length cap) l) (hn : l.length ≤ 1000000) (hb : w.cell? pb = some (.slice oa l.length cap)) (hp : w.cell? pr = some (.func (.func 53) #[] #[])) :
    Calls Tryz.prog 79 #[.pointer (some pb), .pointer (some pr)] w (WhS w.heap.size (decS l) w) := by
  have hcap : l.length ≤ cap := by obtain ⟨oa', cap', e, hc, _⟩ := hba; cases e; exact hc
  have b0 : Below w.heap.size w (w.alloc (.cells #[.slice none 0 0, .slice none 0 0, .slice none 0 0] 26)) := (Below.refl _ _).alloc (Nat.le_refl _) _
  have b1 : Below (w.alloc (.cells #[.slice none 0 0, .slice none 0 0, .slice none 0 0] 26)).heap.size (w.alloc (.cells #[.slice none 0 0, .slice none 0 0, .slice none 0 0] 26)) ((w.alloc (.cells #[.slice none 0 0, .slice none 0 0, .slice none 0 0] 26)).alloc (.cells #[.slice oa l.length cap, .int .i64 0] 137)) := (Below.refl _ _).alloc (Nat.le_refl _) _
  have hRd : Rd ((w.alloc (.cells #[.slice none 0 0, .slice none 0 0, .slice none 0 0] 26)).alloc (.cells #[.slice oa l.length cap, .int .i64 0] 137)) (w.heap.size + 1) (.slice oa l.length cap) 0 := by have := rd_at (w.alloc (.cells #[.slice none 0 0, .slice none 0 0, .slice none 0 0] 26)) (.slice oa l.length cap); rwa [World.size_alloc] at this
  have H := readSchema_any (w.heap.size + 1) oa cap 0 l _ (he.below (b0.trans (b1.mono (by simp))) he.lt) (Nat.lt_succ_of_lt he.lt) hRd (BelowAt.of (hba.keep b0 (Nat.le_refl _)) (by simp) (by simpa using b1)) hn hcap (Nat.zero_le _)
  rw [List.drop_zero] at H
  have HBB : Hid (∀ w1, ((w.alloc (.cells #[.slice none 0 0, .slice none 0 0, .slice none 0 0] 26)).alloc (.cells #[.slice oa l.length cap, .int .i64 0] 137)).grownBy w1 (some (w.heap.size + 1)) → Below w.heap.size w w1) := Lib.hid (fun w1 hg => (b0.trans (b1.mono (by simp))).trans ((grown_under hg (by simp)).mono (by omega)))
  have HBX : Hid (∀ w1, ((w.alloc (.cells #[.slice none 0 0, .slice none 0 0, .slice none 0 0] 26)).alloc (.cells #[.slice oa l.length cap, .int .i64 0] 137)).grownBy w1 (some (w.heap.size + 1)) → w.heap.size < w1.heap.size ∧ (∀ o, w1.cell? ⟨w.heap.size, o, none⟩ = (w.alloc (.cells #[.slice none 0 0, .slice none 0 0, .slice none 0 0] 26)).cell? ⟨w.heap.size, o, none⟩) ∧ ∀ o, w1.frozen? ⟨w.heap.size, o, none⟩ = false) := Lib.hid (fun w1 hg => by
    refine ⟨Nat.lt_of_lt_of_le (by simp; omega) hg.size, fun o => ?_, fun o => ?_⟩
    · rw [hg.cell_far _ (by simp; omega) (by simp), World.cell?_alloc_lt _ _ _ (by simp)]
    · rw [hg.frozen_far _ (by simp; omega) (by simp)]; simp [go_sem])
  have HOF := Lib.hid (Of8_any oa l.length cap)
  have hl1 := World.block_lt_of_cell? _ _ hb
  have hl2 := World.block_lt_of_cell? _ _ hp
  have h2 : 2 ≤ 2 := Nat.le_refl _
  unfold decS
  cases ho : rdSch l with
  | none =>
    rw [ho] at H
    have HH := Lib.hid H
    simp only
    clear H hba he b0 b1 hRd ho
    go_enter Tryz.func79, Tryz.ntmps79
    go_wp2_with (go_at_call 44; refine (HOF.out _).mono ?_; rintro e w' ⟨rfl, rfl⟩)
    refine HH.out.mono ?_
    rintro e w1 ⟨⟨q, rfl, hth⟩, hg⟩
    exact ⟨rfl, ⟨_, rfl, hth⟩, HBB.out _ hg⟩
  | some y =>
    obtain ⟨S, k⟩ := y
    rw [ho] at H
    have HH := Lib.hid (show Calls Tryz.prog 53 _ _ fun e w' => ∃ p : SchV, e = .returned (.agg #[.slice p.oc S.cols.length p.cc, .slice p.ok S.key.length p.ck, .slice p.ou S.uqs.length p.cu]) ∧ SchF ((w.alloc (.cells #[.slice none 0 0, .slice none 0 0, .slice none 0 0] 26)).alloc (.cells #[.slice oa l.length cap, .int .i64 0] 137)).heap.size w' p S ∧ Rd w' (w.heap.size + 1) (.slice oa l.length cap) (0 + k) ∧ ((w.alloc (.cells #[.slice none 0 0, .slice none 0 0, .slice none 0 0] 26)).alloc (.cells #[.slice oa l.length cap, .int .i64 0] 137)).grownBy w' (some (w.heap.size + 1)) from H)
    have hkl := (snd_sch ho).2.1
    simp only
    clear H hba he b0 b1 hRd ho
    by_cases hk : k = l.length
    · subst hk
      rw [if_pos rfl]
      show Calls _ _ _ _ fun e w' => ∃ p : SchV, _
      go_enter Tryz.func79, Tryz.ntmps79
      go_wp2_with (go_at_call 44; refine (HOF.out _).mono ?_; rintro e w' ⟨rfl, rfl⟩)
      refine HH.out.mono ?_
      rintro e w1 ⟨p, rfl, hs, hrd, hg⟩
      rw [Nat.zero_add] at hrd
      obtain ⟨hsz, hcl, hfr⟩ := HBX.out _ hg
      have r0 := (hcl 0).trans (show _ = some (.slice none 0 0) by simp [go_sem])
      have r1 := (hcl 1).trans (show _ = some (.slice none 0 0) by simp [go_sem])
      have r2 := (hcl 2).trans (show _ = some (.slice none 0 0) by simp [go_sem])
      have f0 := hfr 0
      have f1 := hfr 1
      have f2 := hfr 2
      have HS := Lib.hid (hs.mono (M := w.heap.size + 1) (by simp))
      have HRD := Lib.hid hrd
      have HB := Lib.hid (HBB.out _ hg)
      clear hs hrd hg hcl hfr
      go_wp2_with fail
      have HE := Lib.hid (cend_yes (w.heap.size + 1) oa l.length cap _ (HRD.out.keep ((Below.refl w1.heap.size w1).alloc (Nat.le_refl _) (.cells #[.slice p.oc S.cols.length p.cc, .slice p.ok S.key.length p.ck, .slice p.ou S.uqs.length p.cu] 26))))
      refine HE.out.mono ?_
      rintro e w2 ⟨rfl, q, rfl⟩
      go_wp2_with fail
      have hF : Far (w.heap.size + 1) w1 ((w1.alloc (.cells #[.slice p.oc S.cols.length p.cc, .slice p.ok S.key.length p.ck, .slice p.ou S.uqs.length p.cu] 26)).drewN q) := Far.below (below_drewN ((Below.refl _ _).alloc (Nat.le_refl _) _) q)
      exact bodyPost_ret (v := .agg #[.slice p.oc S.cols.length p.cc, .slice p.ok S.key.length p.ck, .slice p.ou S.uqs.length p.cu]) (by simp [results, Tryz.results79, go_sem, r0, r1, r2, hsz]) rfl ⟨p, rfl, (HS.out.far (hF.trans ((Far.set (by omega)).trans ((Far.set (by omega)).trans (Far.set (by omega)))))).mono (by omega), (((below_drewN (HB.out.alloc HB.out.size _) q).setCell (Nat.le_refl _) _).setCell (Nat.le_refl _) _).setCell (Nat.le_refl _) _⟩
    · rw [if_neg hk]
      show Calls _ _ _ _ (Gave _)
      go_enter Tryz.func79, Tryz.ntmps79
      go_wp2_with (go_at_call 44; refine (HOF.out _).mono ?_; rintro e w' ⟨rfl, rfl⟩)
      refine HH.out.mono ?_
      rintro e w1 ⟨p, rfl, hs, hrd, hg⟩
      rw [Nat.zero_add] at hrd
      have HRD := Lib.hid hrd
      have HB := Lib.hid (HBB.out _ hg)
      clear hs hrd hg
      go_wp2_with fail
      have HE := Lib.hid (cend_no (w.heap.size + 1) oa l.length cap k _ (HRD.out.keep ((Below.refl w1.heap.size w1).alloc (Nat.le_refl _) (.cells #[.slice p.oc S.cols.length p.cc, .slice p.ok S.key.length p.ck, .slice p.ou S.uqs.length p.cu] 26))) (by omega))
      refine HE.out.mono ?_
      rintro e w2 ⟨⟨q, rfl, hth⟩, hg2⟩
      exact ⟨rfl, ⟨_, rfl, hth⟩, (HB.out.alloc HB.out.size _).grown hg2 (by have := HB.out.size; simp; omega) (fun x hx => by cases hx; omega)⟩
/-- what DecodeSchema tells -/
def DecSPost (m : Int) (o : Option Sch) (w : World) (e : Ending) (w' : World) : Prop :=
  match o with
  | some S => ∃ p : SchV, e = .returned (.tuple #[.agg #[.slice p.oc S.cols.length p.cc, .slice p.ok S.key.length p.ck, .slice p.ou S.uqs.length p.cu], .int .i64 0]) ∧ SchF w.heap.size w' p S ∧ Below w.heap.size w w'
  | none => e = .returned (.tuple #[.agg #[.slice none 0 0, .slice none 0 0, .slice none 0 0], .int .i64 m]) ∧ Below w.heap.size w w'
def BXS (w : World) (oa : Option Addr) (n cap : Nat) : World := ((w.alloc (.cells #[.slice oa n cap] 31)).alloc (.cells #[.func (.func 53) #[] #[]] 100)).alloc (.cells #[.slice none 0 0, .slice none 0 0, .slice none 0 0] 26)
set_option maxRecDepth 100000 in
set_option maxHeartbeats 2000000 in
theorem wholeS_any (oa : Option Addr) (cap : Nat) (l : List UInt8) (m : Int) (w : World) (he : HasET w) (hb : BytesAt w (.slice oa l.length cap) l) (hn : l.length ≤ 1000000) :
    Calls Tryz.prog 52 #[.slice oa l.length cap, .int .i64 m, .func (.func 53) #[] #[]] w (DecSPost m (decS l) w) := by
  have hbw : Below w.heap.size w (BXS w oa l.length cap) := (((Below.refl _ _).alloc (Nat.le_refl _) _).alloc (by simp) _).alloc (by simp; omega) _
  have hsz : (BXS w oa l.length cap).heap.size = w.heap.size + 3 := by simp [BXS]
  have he1 := he.below hbw he.lt
  have hbw2 := (hbw.alloc hbw.size (.cells #[.slice none 0 0, .slice none 0 0, .slice none 0 0] 26)).alloc (by have := hbw.size; simp; omega) (.cells #[.int .i64 0] 32)
  have k0 : (BXS w oa l.length cap).cell? ⟨w.heap.size, 0, none⟩ = some (.slice oa l.length cap) := by simp [BXS, go_sem]
  have k1 : (BXS w oa l.length cap).cell? ⟨w.heap.size + 1, 0, none⟩ = some (.func (.func 53) #[] #[]) := by simp [BXS, go_sem]
  have H := wholeS1_any oa cap l ⟨w.heap.size, 0, none⟩ ⟨w.heap.size + 1, 0, none⟩ _ (he.below hbw2 he.lt) (hb.keep hbw2 (Nat.le_refl _)) hn (cell_old k0 (((Below.refl _ _).alloc (Nat.le_refl _) _).alloc (by simp) _)) (cell_old k1 (((Below.refl _ _).alloc (Nat.le_refl _) _).alloc (by simp) _))
  have HA : Hid (Calls Tryz.prog 78 #[.func (.func 79) #[] #[.pointer (some ⟨w.heap.size, 0, none⟩), .pointer (some ⟨w.heap.size + 1, 0, none⟩)]] (BXS w oa l.length cap)
      (match decS l with
        | some S => fun e w' => ∃ p : SchV, e = .returned (.tuple #[.agg #[.slice p.oc S.cols.length p.cc, .slice p.ok S.key.length p.ck, .slice p.ou S.uqs.length p.cu], .int .i64 0]) ∧ SchF ((BXS w oa l.length cap).heap.size + 2) w' p S ∧ Below (BXS w oa l.length cap).heap.size (BXS w oa l.length cap) w'
        | none => fun e w' => ∃ n, n ≠ (0 : Int) ∧ e = .returned (.tuple #[.agg #[.slice none 0 0, .slice none 0 0, .slice none 0 0], .int .i64 n]) ∧ Below (BXS w oa l.length cap).heap.size (BXS w oa l.length cap) w')) := Lib.hid (by
    cases ho : decS l with
    | none =>
      rw [ho] at H
      exact attC_no _ _ _ _ he1 (fun _ _ => rfl) H
    | some S =>
      rw [ho] at H
      refine attC_yes _ _ _ S _ (fun _ _ => rfl) (H.mono ?_)
      rintro e w' ⟨p, rfl, hs, hb2⟩
      exact ⟨p, rfl, by simpa using hs, hb2⟩)
  have HBX : Hid (∀ w1, Below (BXS w oa l.length cap).heap.size (BXS w oa l.length cap) w1 → w.heap.size + 2 < w1.heap.size ∧ (∀ o, w1.cell? ⟨w.heap.size + 2, o, none⟩ = (BXS w oa l.length cap).cell? ⟨w.heap.size + 2, o, none⟩) ∧ ∀ o, w1.frozen? ⟨w.heap.size + 2, o, none⟩ = (BXS w oa l.length cap).frozen? ⟨w.heap.size + 2, o, none⟩) := Lib.hid (fun w1 hg => ⟨by have := hg.size; omega, fun o => hg.cell (by simp; omega), fun o => hg.frozen (by simp; omega)⟩)
  have HW := Lib.hid hbw
  have HSZ := Lib.hid hsz
  have q0 : (BXS w oa l.length cap).cell? ⟨w.heap.size + 2, 0, none⟩ = some (.slice none 0 0) := by simp [BXS, go_sem]
  have q1 : (BXS w oa l.length cap).cell? ⟨w.heap.size + 2, 1, none⟩ = some (.slice none 0 0) := by simp [BXS, go_sem]
  have q2 : (BXS w oa l.length cap).cell? ⟨w.heap.size + 2, 2, none⟩ = some (.slice none 0 0) := by simp [BXS, go_sem]
  have qf : ∀ o, (BXS w oa l.length cap).frozen? ⟨w.heap.size + 2, o, none⟩ = false := fun o => by simp [BXS, go_sem]
  have HQ := Lib.hid (And.intro q0 (And.intro q1 (And.intro q2 qf)))
  clear hb H he he1 hbw hbw2 hsz k0 k1 q0 q1 q2 qf
  generalize decS l = o at HA ⊢
  generalize hBX : BXS w oa l.length cap = V at *
  unfold BXS at hBX
  go_enter Tryz.func52, Tryz.ntmps52
  go_wp2_with fail
  try rw [hBX]
  refine HA.out.mono ?_
  cases o with
  | none =>
    rintro e w1 ⟨n, hn0, rfl, hg⟩
    have HG := Lib.hid (HW.out.trans (hg.mono (by have := HSZ.out; omega)))
    obtain ⟨hs1, hcl, hfr⟩ := HBX.out _ hg
    have r0 := (hcl 0).trans HQ.out.1
    have r1 := (hcl 1).trans HQ.out.2.1
    have r2 := (hcl 2).trans HQ.out.2.2.1
    have f0 := (hfr 0).trans (HQ.out.2.2.2 0)
    have f1 := (hfr 1).trans (HQ.out.2.2.2 1)
    have f2 := (hfr 2).trans (HQ.out.2.2.2 2)
    have hd : (n != 0) = true := by simpa using hn0
    clear hg hcl hfr
    go_wp2_with fail
    exact bodyPost_ret (v := .tuple #[.agg #[.slice none 0 0, .slice none 0 0, .slice none 0 0], .int .i64 m]) (by simp [results, Tryz.results52, go_sem, r0, r1, r2, hs1]) rfl ⟨rfl, (((HG.out.setCell (by simp; omega) _).setCell (by simp; omega) _).setCell (by simp; omega) _).alloc (by have := HG.out.size; simp; omega) _⟩
  | some S =>
    rintro e w1 ⟨p, rfl, hs, hg⟩
    have HG := Lib.hid (HW.out.trans (hg.mono (by have := HSZ.out; omega)))
    have HS := Lib.hid (hs.mono (M := w.heap.size + 3) (by have := HSZ.out; omega))
    obtain ⟨hs1, hcl, hfr⟩ := HBX.out _ hg
    have r0 := (hcl 0).trans HQ.out.1
    have r1 := (hcl 1).trans HQ.out.2.1
    have r2 := (hcl 2).trans HQ.out.2.2.1
    have f0 := (hfr 0).trans (HQ.out.2.2.2 0)
    have f1 := (hfr 1).trans (HQ.out.2.2.2 1)
    have f2 := (hfr 2).trans (HQ.out.2.2.2 2)
    clear hg hcl hfr hs
    go_wp2_with fail
    exact bodyPost_ret (v := .tuple #[.agg #[.slice p.oc S.cols.length p.cc, .slice p.ok S.key.length p.ck, .slice p.ou S.uqs.length p.cu], .int .i64 0]) (by simp [results, Tryz.results52, go_sem, r0, r1, r2, hs1]) rfl ⟨p, rfl, (HS.out.far ((Far.set (by omega)).trans ((Far.set (by omega)).trans ((Far.set (by omega)).trans (Far.below ((Below.refl _ _).alloc (Nat.le_refl _) _)))))).mono (by omega), (((HG.out.setCell (by simp; omega) _).setCell (by simp; omega) _).setCell (by simp; omega) _).alloc (by have := HG.out.size; simp; omega) _⟩
set_option maxRecDepth 100000 in
set_option maxHeartbeats 2000000 in
theorem DecodeS_any (oa : Option Addr) (cap : Nat) (l : List UInt8) (w : World) (he : HasET w) (hb : BytesAt w (.slice oa l.length cap) l) (hn : l.length ≤ 1000000) :
    Calls Tryz.prog 24 #[.slice oa l.length cap] w (DecSPost 140 (decS l) w) := by
  have b0 : Below w.heap.size w (w.alloc (.cells #[.slice none 0 0, .slice none 0 0, .slice none 0 0] 26)) := (Below.refl _ _).alloc (Nat.le_refl _) _
  have HW := Lib.hid (wholeS_any oa cap l 140 _ (he.below b0 he.lt) (hb.keep b0 (Nat.le_refl _)) hn)
  have HB0 := Lib.hid b0
  have HBX : Hid (∀ w1, Below (w.alloc (.cells #[.slice none 0 0, .slice none 0 0, .slice none 0 0] 26)).heap.size (w.alloc (.cells #[.slice none 0 0, .slice none 0 0, .slice none 0 0] 26)) w1 → (∀ o, w1.cell? ⟨w.heap.size, o, none⟩ = (w.alloc (.cells #[.slice none 0 0, .slice none 0 0, .slice none 0 0] 26)).cell? ⟨w.heap.size, o, none⟩) ∧ ∀ o, w1.frozen? ⟨w.heap.size, o, none⟩ = false) := Lib.hid (fun w1 hg => ⟨fun o => hg.cell (by simp), fun o => by rw [hg.frozen (by simp)]; simp [go_sem]⟩)
  clear he hb b0
  generalize decS l = o at HW ⊢
  go_enter Tryz.func24, Tryz.ntmps24
  go_wp2_with fail
  refine HW.out.mono ?_
  cases o with
  | none =>
    rintro e w1 ⟨rfl, hg⟩
    obtain ⟨hcl, hfr⟩ := HBX.out _ hg
    have r0 := (hcl 0).trans (show _ = some (.slice none 0 0) by simp [go_sem])
    have r1 := (hcl 1).trans (show _ = some (.slice none 0 0) by simp [go_sem])
    have r2 := (hcl 2).trans (show _ = some (.slice none 0 0) by simp [go_sem])
    have f0 := hfr 0
    have f1 := hfr 1
    have f2 := hfr 2
    have HG := Lib.hid (HB0.out.trans (hg.mono (by simp)))
    clear hg hcl hfr
    go_wp2_with fail
    exact bodyPost_ret (v := .tuple #[.agg #[.slice none 0 0, .slice none 0 0, .slice none 0 0], .int .i64 140]) (by simp [results, Tryz.results24, go_sem, r0, r1, r2]) rfl ⟨rfl, ((HG.out.setCell (Nat.le_refl _) _).setCell (Nat.le_refl _) _).setCell (Nat.le_refl _) _⟩
  | some S =>
    rintro e w1 ⟨p, rfl, hs, hg⟩
    obtain ⟨hcl, hfr⟩ := HBX.out _ hg
    have r0 := (hcl 0).trans (show _ = some (.slice none 0 0) by simp [go_sem])
    have r1 := (hcl 1).trans (show _ = some (.slice none 0 0) by simp [go_sem])
    have r2 := (hcl 2).trans (show _ = some (.slice none 0 0) by simp [go_sem])
    have f0 := hfr 0
    have f1 := hfr 1
    have f2 := hfr 2
    have HG := Lib.hid (HB0.out.trans (hg.mono (by simp)))
    have HS := Lib.hid (hs.mono (M := w.heap.size + 1) (by simp))
    clear hg hcl hfr hs
    go_wp2_with fail
    exact bodyPost_ret (v := .tuple #[.agg #[.slice p.oc S.cols.length p.cc, .slice p.ok S.key.length p.ck, .slice p.ou S.uqs.length p.cu], .int .i64 0]) (by simp [results, Tryz.results24, go_sem, r0, r1, r2]) rfl ⟨p, rfl, (HS.out.far ((Far.set (by omega)).trans ((Far.set (by omega)).trans (Far.set (by omega))))).mono (by omega), ((HG.out.setCell (Nat.le_refl _) _).setCell (Nat.le_refl _) _).setCell (Nat.le_refl _) _⟩
end Go.Proofs.YtocmjlnhcloccaaGreatDoor
