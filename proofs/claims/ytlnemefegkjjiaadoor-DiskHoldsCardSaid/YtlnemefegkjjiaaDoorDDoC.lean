/-
  disk: (*Disk).do: its walk.
-/
import Derived.Test.YtlnemefegkjjiaaDoorDDoB
namespace Go.Proofs.YtlnemefegkjjiaaDoor
open Go.RowKit

theorem DoneE.drew {w w' : World} {r : Nat} {V V' : Nat → Value} {F : Nat → List UInt8} {t : Th} (h : DoneE w.drew w' r V F V' t) : DoneE w w' r V F V' t := by
  cases t with
  | put f s =>
    obtain ⟨v', e, h⟩ := h
    exact ⟨v', e, h.drew⟩
  | cut f m => exact ⟨h.1, ⟨h.2.os, h.2.tape, h.2.output, h.2.size, h.2.block⟩⟩
theorem DkW.drew {N : Nat} {w : World} {Φ : Nat → Prop} {p mf ms : Nat} {V U : Nat → Value} {lv : Value} {B : List (Th × Nat × Nat)} {D : Dk} (h : DkW N w Φ p mf ms V U lv B D) : DkW N w.drew Φ p mf ms V U lv B D := h.keep (Nat.le_refl _) (fun _ _ => rfl)
theorem lit_cells (W : World) (l : List Value) (ty : TypeId) : ∀ j u, l[j]? = some u → (W.alloc (.cells l.toArray ty)).cell? ((⟨W.heap.size, 0, none⟩ : Addr).add j) = some u := by
  intro j u hj
  have e : ((⟨W.heap.size, 0, none⟩ : Addr).add j) = ⟨W.heap.size, j, none⟩ := by
    unfold Addr.add
    split
    · simp_all
    · simp
  rw [e]
  have hh := heap_alloc_at W (.cells l.toArray ty)
  simp only [World.cell?]
  rw [hh]
  simpa using hj
theorem thC_one (t : Th) (b1 b2 : Nat) : ∀ u ∈ thC t b1 b2, u.oneCell' = true := by
  intro u hu
  cases t <;> simp [thC] at hu <;> rcases hu with rfl | rfl | rfl | rfl | rfl | rfl <;> rfl
theorem box_cells {w : World} {b : Nat} {l : List Value} {ty : TypeId} {fz : Nat × Nat} (h : w.heap[b]? = some (.cells l.toArray ty fz)) (j : Nat) (v : Value) (hj : l[j]? = some v) : w.cell? ⟨b, j, none⟩ = some v := by
  simp [World.cell?, h, hj]
theorem row_form {w : World} {base e size n : Nat} {v : Value} {xs : List Value} (h : w.ownsRow base e size v (n + 1) xs) : ∃ q z, v = .slice (some ⟨q, 0, none⟩) (n + 1) z := by
  rcases h.2 with ⟨_, h0⟩ | ⟨g, cap, cur, hv, _⟩
  · omega
  · exact ⟨_, _, hv⟩
theorem flat_len (B : List (Th × Nat × Nat)) : (B.flatMap fun x => thC x.1 x.2.1 x.2.2).length = B.length * 6 := by
  induction B with
  | nil => rfl
  | cons x B ih => rw [List.flatMap_cons, List.length_append, ih, thC_length, List.length_cons]; omega
set_option maxRecDepth 100000 in
set_option maxHeartbeats 4000000 in
theorem do_put {N : Nat} {w : World} {Φ : Nat → Prop} {p mf ms : Nat} {V U : Nat → Value} {lv : Value} {B : List (Th × Nat × Nat)} {D : Dk} {f : Nat} {s : ByteArray} {b1 b2 : Nat} (h : DkW N w Φ p mf ms V U lv B D) (hs : N ≤ w.heap.size) (hb : BoxIn w (.put f s) b1 b2) (hΦ : Φ b1 ∧ Φ b2) (hk : ThOk D.F (.put f s)) (hB : B.length ≤ 1000) :
    Calls Tryd.prog 28 #[.pointer (some ⟨p, 0, none⟩), .agg (thC (.put f s) b1 b2).toArray] w fun e w' => e = .returned (.tuple #[]) ∧ ∃ Φ', DkAt N w' Φ' p (D.did (.put f s)) ∧ TurnD w w' Φ Φ' := by
  obtain ⟨i0, hi0, hz0, hz1, hz2⟩ := info_parts infoT
  obtain ⟨w0, hw0⟩ : ∃ w0, w.alloc (.cells (thC (.put f s) b1 b2).toArray 68) = w0 := ⟨_, rfl⟩
  have hb0 : Below w.heap.size w w0 := by rw [← hw0]; exact (Below.refl _ w).alloc (Nat.le_refl _) _
  have hbox : w0.heap[w.heap.size]? = some (.cells (thC (.put f s) b1 b2).toArray 68 (0, 0)) := by rw [← hw0]; exact heap_alloc_at w _
  have h0 : DkW N w0 Φ p mf ms V U lv B D := h.keep hb0.size (fun k hk => hb0.block k (h.lt k hk).2)
  have hbx0 : BoxIn w0 (.put f s) b1 b2 := hb.same (hb0.block _ (h.lt _ hΦ.1).2) (hb0.block _ (h.lt _ hΦ.2).2)
  obtain ⟨⟨es, c, hmo⟩, _⟩ := h0.mapObj
  have hpo : p ≠ mf := fun e => by
    have := h0.p0
    rw [e, hmo] at this
    cases this
  have hto : w.heap.size ≠ mf := fun e => by
    rw [e, hmo] at hbox
    cases hbox
  have HC : Hid (Calls Tryd.prog 43 #[.map (some mf), .pointer (some ⟨b1, 0, none⟩), .pointer (some ⟨b2, 0, none⟩)] w0.drew fun e w2 => e = .returned (.tuple #[]) ∧ (w2.cell? ⟨w.heap.size, 4, none⟩ = some (.func (.func 43) #[] #[.pointer (some ⟨b1, 0, none⟩), .pointer (some ⟨b2, 0, none⟩)]) ∧ w2.cell? ⟨p, 0, none⟩ = some (.map (some mf))) ∧
      w2.heap[w.heap.size]? = some (.cells (thC (.put f s) b1 b2).toArray 68 (0, 0)) ∧ ∃ V', Fs w2 mf V' (doneF D.F (.put f s)) ∧ DoneE w0 w2 mf V D.F V' (.put f s)) := Lib.hid ((putting1_any mf f b1 b2 s V D.F w0.drew h0.ff.drew hbx0 hk).mono (fun e w2 ⟨e0, V', h3, h4⟩ => by
    have h4 := h4.drew
    have hbk := h4.keep h0.ff hbox hto (fun _ e => by cases e)
    have hpk := h4.keep h0.ff h0.p0 hpo (fun _ e => by cases e)
    exact ⟨e0, ⟨box_cells hbk 4 _ rfl, by simp [World.cell?, hpk]⟩, hbk, V', h3, h4⟩))
  have c4 : w0.cell? ⟨w.heap.size, 4, none⟩ = some (.func (.func 43) #[] #[.pointer (some ⟨b1, 0, none⟩), .pointer (some ⟨b2, 0, none⟩)]) := box_cells hbox 4 _ rfl
  have c0 : w0.cell? ⟨p, 0, none⟩ = some (.map (some mf)) := h0.isDisk
  have H0 := Lib.hid h0
  have HB0 := Lib.hid hb0
  have HBX := Lib.hid hbx0
  have HK := Lib.hid hk
  have hs0 : N ≤ w0.heap.size := Nat.le_trans hs hb0.size
  clear h hb h0 hb0 hbx0 hk hmo hbox
  go_enter Tryd.func28, Tryd.ntmps28
  go_wp2_with fail
  try rw [hw0]
  clear hw0
  go_region_held3 (fun W => W.cell? ⟨w.heap.size, 4, none⟩ = some (.func (.func 43) #[] #[.pointer (some ⟨b1, 0, none⟩), .pointer (some ⟨b2, 0, none⟩)]) ∧ W.cell? ⟨p, 0, none⟩ = some (.map (some mf))) (first | assumption | (simp [*]; done))
    (first | (go_at_call 43; refine HC.out.mono ?_; rintro e w2 ⟨rfl, hcc, hbk, V', hfs, hde⟩))
  obtain ⟨h2, ht2⟩ := H0.out.done hs0 HK.out hde hfs
  have hsz2 : w0.heap.size ≤ w2.heap.size := hde.size
  have hs2 : N ≤ w2.heap.size := Nat.le_trans hs0 hsz2
  have hbx2 : BoxIn w2 (.put f s) b1 b2 := HBX.out.keep (fun k o hko ho hno => hde.keep H0.out.ff hko (fun e => by
    obtain ⟨⟨es, c, hmo⟩, _⟩ := H0.out.mapObj
    rw [e, hmo] at hko
    cases hko
    exact hno es c rfl) ho)
  clear hcc hfs hde
  obtain ⟨wd, hwd⟩ : ∃ wd, w2.drew = wd := ⟨_, rfl⟩
  have h3 : DkW N wd (grewΦ w0 w2 Φ) p mf ms V' U lv B { D with F := doneF D.F (.put f s) } := by rw [← hwd]; exact h2.drew
  have hbk3 : wd.heap[w.heap.size]? = some (.cells (thC (.put f s) b1 b2).toArray 68 (0, 0)) := by rw [← hwd]; exact hbk
  have ht3 : TurnD w0 wd Φ (grewΦ w0 w2 Φ) := by rw [← hwd]; exact ⟨ht2.os, ht2.tape, ht2.output, ht2.size, ht2.block, ht2.new⟩
  have hbx3 : BoxIn wd (.put f s) b1 b2 := by rw [← hwd]; exact hbx2
  have hs3 : N ≤ wd.heap.size := by rw [← hwd]; exact hs2
  have d0 := box_cells hbk3 0 _ rfl
  have d1 := box_cells hbk3 1 _ rfl
  have d2 := box_cells hbk3 2 _ rfl
  have d3 := box_cells hbk3 3 _ rfl
  have d4 := box_cells hbk3 4 _ rfl
  have d5 := box_cells hbk3 5 _ rfl
  have hpl : p < wd.heap.size := (h3.lt p h3.fp).2
  have e2 : wd.cell? ⟨p, 2, none⟩ = some lv := by simp [World.cell?, h3.p0]
  have e2b : ∀ o, (wd.alloc o).cell? ⟨p, 2, none⟩ = some lv := fun o => (World.cell?_alloc_lt _ _ _ hpl).trans e2
  have H3 := Lib.hid h3
  have HT := Lib.hid ht3
  have HBX3 := Lib.hid hbx3
  have hflat := flat_len B
  have HFL := Lib.hid hflat
  clear h2 ht2 hbx2 h3 ht3 hbx3 hbk hbk3 hflat HBX HK HC
  go_wp2_with fail
  try rw [hwd]
  go_region_law (first | (refine step_append_rowD rfl (.tmp 15) (.tmp 17) 49 rfl N 68 i0 (.agg #[.int .i64 0, .bool false, .int .i64 0, .string ⟨#[]⟩, .nilFunc, .nilFunc]) 6 56 Tryd.underlying49 hi0 hz0 hz1 hz2 rfl (by decide) lv B.length (B.flatMap fun x => thC x.1 x.2.1 x.2.2) ?hs ?hrow ⟨wd.heap.size, 0, none⟩ 1 1 (thC (.put f s) b1 b2) ?hx rfl ?hc (thC_one _ _ _) ?b1 ?b2 ?hb ?_; (case hs => (simp [Act.eval]; done)); (case hx => (simp [Act.eval]; done)); (case hc => exact lit_cells wd (thC (.put f s) b1 b2) 68); (case hrow => exact H3.out.row.alloc _); (case b1 => (unfold maxLen; omega)); (case b2 => omega); (case hb => (simp; omega)); intro lv' w3 hrow3 hg3 hown3; obtain ⟨q3, z3, rfl⟩ := row_form hrow3; have hp3 : w3.heap[p]? = (wd.alloc (.cells (thC (.put f s) b1 b2).toArray 68)).heap[p]? := hg3.block p (by simp; omega) (fun e => by
      rcases H3.out.row.2 with ⟨e0, _⟩ | ⟨b, cap, cur, e0, _, hh, _⟩
      · rw [e0] at e; cases e
      · rw [e0] at e; cases e; rw [H3.out.p0] at hh; cases hh); rw [Below.heap_alloc _ _ _ hpl, H3.out.p0] at hp3; have f2 : w3.cell? ⟨p, 2, none⟩ = some lv := (by simp [World.cell?, hp3]); have f2F : w3.frozen? ⟨p, 2, none⟩ = false := (by simp [World.frozen?, hp3])))
  all_goals
    go_wp2_with fail
    go_end0
    have hal : Below wd.heap.size wd (wd.alloc (.cells (thC (.put f s) b1 b2).toArray 68)) := (Below.refl _ wd).alloc (Nat.le_refl _) _
    have h4 := H3.out.keep hal.size (fun k hk => hal.block k (H3.out.lt k hk).2)
    have hbx4 := HBX3.out.same (hal.block _ (H3.out.lt _ (.inl hΦ.1)).2) (hal.block _ (H3.out.lt _ (.inl hΦ.2)).2)
    obtain ⟨h5, ht5⟩ := h4.pushed (by simp; omega) hbx4 ⟨.inl hΦ.1, .inl hΦ.2⟩ hg3 hrow3 (by simpa using hown3)
    exact ⟨rfl, _, ⟨_, _, _, _, _, _, h5⟩, (((TurnD.of_below HB0.out).trans HT.out).trans (TurnD.of_below hal)).trans ht5⟩
set_option maxRecDepth 100000 in
set_option maxHeartbeats 4000000 in
theorem do_cut {N : Nat} {w : World} {Φ : Nat → Prop} {p mf ms : Nat} {V U : Nat → Value} {lv : Value} {B : List (Th × Nat × Nat)} {D : Dk} {f m : Nat} {b1 b2 : Nat} (h : DkW N w Φ p mf ms V U lv B D) (hs : N ≤ w.heap.size) (hb : BoxIn w (.cut f m) b1 b2) (hΦ : Φ b1 ∧ Φ b2) (hk : ThOk D.F (.cut f m)) (hB : B.length ≤ 1000) :
    Calls Tryd.prog 28 #[.pointer (some ⟨p, 0, none⟩), .agg (thC (.cut f m) b1 b2).toArray] w fun e w' => e = .returned (.tuple #[]) ∧ ∃ Φ', DkAt N w' Φ' p (D.did (.cut f m)) ∧ TurnD w w' Φ Φ' := by
  obtain ⟨i0, hi0, hz0, hz1, hz2⟩ := info_parts infoT
  obtain ⟨w0, hw0⟩ : ∃ w0, w.alloc (.cells (thC (.cut f m) b1 b2).toArray 68) = w0 := ⟨_, rfl⟩
  have hb0 : Below w.heap.size w w0 := by rw [← hw0]; exact (Below.refl _ w).alloc (Nat.le_refl _) _
  have hbox : w0.heap[w.heap.size]? = some (.cells (thC (.cut f m) b1 b2).toArray 68 (0, 0)) := by rw [← hw0]; exact heap_alloc_at w _
  have h0 : DkW N w0 Φ p mf ms V U lv B D := h.keep hb0.size (fun k hk => hb0.block k (h.lt k hk).2)
  have hbx0 : BoxIn w0 (.cut f m) b1 b2 := hb.same (hb0.block _ (h.lt _ hΦ.1).2) (hb0.block _ (h.lt _ hΦ.2).2)
  obtain ⟨⟨es, c, hmo⟩, _⟩ := h0.mapObj
  have hpo : p ≠ mf := fun e => by
    have := h0.p0
    rw [e, hmo] at this
    cases this
  have hto : w.heap.size ≠ mf := fun e => by
    rw [e, hmo] at hbox
    cases hbox
  have HC : Hid (Calls Tryd.prog 47 #[.map (some mf), .pointer (some ⟨b1, 0, none⟩), .pointer (some ⟨b2, 0, none⟩)] w0.drew fun e w2 => e = .returned (.tuple #[]) ∧ (w2.cell? ⟨w.heap.size, 4, none⟩ = some (.func (.func 47) #[] #[.pointer (some ⟨b1, 0, none⟩), .pointer (some ⟨b2, 0, none⟩)]) ∧ w2.cell? ⟨p, 0, none⟩ = some (.map (some mf))) ∧
      w2.heap[w.heap.size]? = some (.cells (thC (.cut f m) b1 b2).toArray 68 (0, 0)) ∧ ∃ V', Fs w2 mf V' (doneF D.F (.cut f m)) ∧ DoneE w0 w2 mf V D.F V' (.cut f m)) := Lib.hid ((cutting1_any mf f m b1 b2  V D.F w0.drew h0.ff.drew hbx0 hk).mono (fun e w2 ⟨e0, V', h3, h4⟩ => by
    have h4 := h4.drew
    have hbk := h4.keep h0.ff hbox hto (fun _ e => by cases e)
    have hpk := h4.keep h0.ff h0.p0 hpo (fun _ e => by cases e)
    exact ⟨e0, ⟨box_cells hbk 4 _ rfl, by simp [World.cell?, hpk]⟩, hbk, V', h3, h4⟩))
  have c4 : w0.cell? ⟨w.heap.size, 4, none⟩ = some (.func (.func 47) #[] #[.pointer (some ⟨b1, 0, none⟩), .pointer (some ⟨b2, 0, none⟩)]) := box_cells hbox 4 _ rfl
  have c0 : w0.cell? ⟨p, 0, none⟩ = some (.map (some mf)) := h0.isDisk
  have H0 := Lib.hid h0
  have HB0 := Lib.hid hb0
  have HBX := Lib.hid hbx0
  have HK := Lib.hid hk
  have hs0 : N ≤ w0.heap.size := Nat.le_trans hs hb0.size
  clear h hb h0 hb0 hbx0 hk hmo hbox
  go_enter Tryd.func28, Tryd.ntmps28
  go_wp2_with fail
  try rw [hw0]
  clear hw0
  go_region_held3 (fun W => W.cell? ⟨w.heap.size, 4, none⟩ = some (.func (.func 47) #[] #[.pointer (some ⟨b1, 0, none⟩), .pointer (some ⟨b2, 0, none⟩)]) ∧ W.cell? ⟨p, 0, none⟩ = some (.map (some mf))) (first | assumption | (simp [*]; done))
    (first | (go_at_call 47; refine HC.out.mono ?_; rintro e w2 ⟨rfl, hcc, hbk, V', hfs, hde⟩))
  obtain ⟨h2, ht2⟩ := H0.out.done hs0 HK.out hde hfs
  have hsz2 : w0.heap.size ≤ w2.heap.size := hde.size
  have hs2 : N ≤ w2.heap.size := Nat.le_trans hs0 hsz2
  have hbx2 : BoxIn w2 (.cut f m) b1 b2 := HBX.out.keep (fun k o hko ho hno => hde.keep H0.out.ff hko (fun e => by
    obtain ⟨⟨es, c, hmo⟩, _⟩ := H0.out.mapObj
    rw [e, hmo] at hko
    cases hko
    exact hno es c rfl) ho)
  clear hcc hfs hde
  obtain ⟨wd, hwd⟩ : ∃ wd, w2.drew = wd := ⟨_, rfl⟩
  have h3 : DkW N wd (grewΦ w0 w2 Φ) p mf ms V' U lv B { D with F := doneF D.F (.cut f m) } := by rw [← hwd]; exact h2.drew
  have hbk3 : wd.heap[w.heap.size]? = some (.cells (thC (.cut f m) b1 b2).toArray 68 (0, 0)) := by rw [← hwd]; exact hbk
  have ht3 : TurnD w0 wd Φ (grewΦ w0 w2 Φ) := by rw [← hwd]; exact ⟨ht2.os, ht2.tape, ht2.output, ht2.size, ht2.block, ht2.new⟩
  have hbx3 : BoxIn wd (.cut f m) b1 b2 := by rw [← hwd]; exact hbx2
  have hs3 : N ≤ wd.heap.size := by rw [← hwd]; exact hs2
  have d0 := box_cells hbk3 0 _ rfl
  have d1 := box_cells hbk3 1 _ rfl
  have d2 := box_cells hbk3 2 _ rfl
  have d3 := box_cells hbk3 3 _ rfl
  have d4 := box_cells hbk3 4 _ rfl
  have d5 := box_cells hbk3 5 _ rfl
  have hpl : p < wd.heap.size := (h3.lt p h3.fp).2
  have e2 : wd.cell? ⟨p, 2, none⟩ = some lv := by simp [World.cell?, h3.p0]
  have e2b : ∀ o, (wd.alloc o).cell? ⟨p, 2, none⟩ = some lv := fun o => (World.cell?_alloc_lt _ _ _ hpl).trans e2
  have H3 := Lib.hid h3
  have HT := Lib.hid ht3
  have HBX3 := Lib.hid hbx3
  have hflat := flat_len B
  have HFL := Lib.hid hflat
  clear h2 ht2 hbx2 h3 ht3 hbx3 hbk hbk3 hflat HBX HK HC
  go_wp2_with fail
  try rw [hwd]
  go_region_law (first | (refine step_append_rowD rfl (.tmp 15) (.tmp 17) 49 rfl N 68 i0 (.agg #[.int .i64 0, .bool false, .int .i64 0, .string ⟨#[]⟩, .nilFunc, .nilFunc]) 6 56 Tryd.underlying49 hi0 hz0 hz1 hz2 rfl (by decide) lv B.length (B.flatMap fun x => thC x.1 x.2.1 x.2.2) ?hs ?hrow ⟨wd.heap.size, 0, none⟩ 1 1 (thC (.cut f m) b1 b2) ?hx rfl ?hc (thC_one _ _ _) ?b1 ?b2 ?hb ?_; (case hs => (simp [Act.eval]; done)); (case hx => (simp [Act.eval]; done)); (case hc => exact lit_cells wd (thC (.cut f m) b1 b2) 68); (case hrow => exact H3.out.row.alloc _); (case b1 => (unfold maxLen; omega)); (case b2 => omega); (case hb => (simp; omega)); intro lv' w3 hrow3 hg3 hown3; obtain ⟨q3, z3, rfl⟩ := row_form hrow3; have hp3 : w3.heap[p]? = (wd.alloc (.cells (thC (.cut f m) b1 b2).toArray 68)).heap[p]? := hg3.block p (by simp; omega) (fun e => by
      rcases H3.out.row.2 with ⟨e0, _⟩ | ⟨b, cap, cur, e0, _, hh, _⟩
      · rw [e0] at e; cases e
      · rw [e0] at e; cases e; rw [H3.out.p0] at hh; cases hh); rw [Below.heap_alloc _ _ _ hpl, H3.out.p0] at hp3; have f2 : w3.cell? ⟨p, 2, none⟩ = some lv := (by simp [World.cell?, hp3]); have f2F : w3.frozen? ⟨p, 2, none⟩ = false := (by simp [World.frozen?, hp3])))
  all_goals
    go_wp2_with fail
    go_end0
    have hal : Below wd.heap.size wd (wd.alloc (.cells (thC (.cut f m) b1 b2).toArray 68)) := (Below.refl _ wd).alloc (Nat.le_refl _) _
    have h4 := H3.out.keep hal.size (fun k hk => hal.block k (H3.out.lt k hk).2)
    have hbx4 := HBX3.out.same (hal.block _ (H3.out.lt _ (.inl hΦ.1)).2) (hal.block _ (H3.out.lt _ (.inl hΦ.2)).2)
    obtain ⟨h5, ht5⟩ := h4.pushed (by simp; omega) hbx4 ⟨.inl hΦ.1, .inl hΦ.2⟩ hg3 hrow3 (by simpa using hown3)
    exact ⟨rfl, _, ⟨_, _, _, _, _, _, h5⟩, (((TurnD.of_below HB0.out).trans HT.out).trans (TurnD.of_below hal)).trans ht5⟩
end Go.Proofs.YtlnemefegkjjiaaDoor
