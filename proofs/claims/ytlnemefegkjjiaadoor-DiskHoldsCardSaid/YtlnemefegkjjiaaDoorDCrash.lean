/-
  disk: Crash.
-/
import Derived.Test.YtlnemefegkjjiaaDoorDCrW
namespace Go.Proofs.YtlnemefegkjjiaaDoor
open Go.RowKit

set_option maxRecDepth 100000 in
set_option maxHeartbeats 8000000 in
theorem Crash_any {N : Nat} {w : World} {Φ : Nat → Prop} {p : Nat} {D : Dk} (h : DkAt N w Φ p D) (hs : N ≤ w.heap.size) (hi : D.Inv) (keep torn : Nat) (hk : keep ≤ 9223372036854775807) (ht : torn ≤ 9223372036854775807) :
    Calls Tryd.prog 11 #[.pointer (some ⟨p, 0, none⟩), .int .i64 keep, .int .i64 torn] w fun e w' => e = .returned (.int .i64 0) ∧ ∃ Φ', DkAt N w' Φ' p (D.crashed (min keep D.L.length) torn) ∧ TurnD w w' Φ Φ' := by
  obtain ⟨mf, ms, V0, U, lv, B, h⟩ := h
  have hq0 := isErr_eqn
  obtain ⟨wn, hwn⟩ : ∃ wn, w.alloc (.cells #[.int .i64 keep, .int .i64 torn] 3) = wn := ⟨_, rfl⟩
  have hbn : Below w.heap.size w wn := by rw [← hwn]; exact (Below.refl _ w).alloc (Nat.le_refl _) _
  have hn1 := h.keep hbn.size (fun k hk => hbn.block k (h.lt k hk).2)
  have hnums : NumsIn wn (some ⟨w.heap.size, 0, none⟩) [(keep : Int), (torn : Int)] := by
    intro j hj
    refine ⟨_, rfl, ?_⟩
    rw [← hwn]
    have hc := lit_cells w [.int .i64 keep, .int .i64 torn] 3 j
    match j, hj with
    | 0, _ => exact hc _ rfl
    | 1, _ => exact hc _ rfl
  have HA := Lib.hid (ask_nums p mf (some ⟨w.heap.size, 0, none⟩) 2 [(keep : Int), (torn : Int)] wn hn1.isDisk hnums (by simp))
  have hall : ([(keep : Int), (torn : Int)].all (fun x => decide (0 ≤ x))) = true := by simp
  rw [hall, if_pos rfl] at HA
  have HA := Lib.hid (HA.out.mono (fun e w' he => Told.ok he))
  have HW := Lib.hid (fun w1 (hb : Below wn.heap.size wn w1) => And.intro (hn1.keep hb.size (fun k hk => hb.block k (hn1.lt k hk).2)) ((TurnD.of_below (Φ := Φ) hbn).trans (TurnD.of_below hb)))
  have hlb := h.lb
  have hBL : B.length = D.L.length := by rw [← hlb, List.length_map]
  obtain ⟨K, hK⟩ : ∃ K : Nat, min keep D.L.length = K := ⟨_, rfl⟩
  rw [hK]
  have HBL := Lib.hid hBL
  have HK := Lib.hid hK
  clear hBL hK
  have HN := Lib.hid (Nat.le_trans hs hbn.size)
  clear h hn1 hbn hnums hall
  go_enter Tryd.func11, Tryd.ntmps11
  go_wp2_with (first | (go_at_call 23; refine HA.out.mono ?_; rintro e w1 ⟨rfl, hb1⟩; obtain ⟨h1, ht1⟩ := HW.out w1 hb1; have hs1 : N ≤ w1.heap.size := Nat.le_trans HN.out hb1.size; obtain ⟨oa, cap, hlv, hcap, hth⟩ := things_row h1.row; subst hlv; have c2 : w1.cell? ⟨p, 2, none⟩ = some (.slice oa B.length cap) := (by simp [World.cell?, h1.p0]); have c1 : w1.cell? ⟨p, 1, none⟩ = some (.map (some ms)) := (by simp [World.cell?, h1.p0]); have c0 : w1.cell? ⟨p, 0, none⟩ = some (.map (some mf)) := (by simp [World.cell?, h1.p0]); have f0 : w1.frozen? ⟨p, 0, none⟩ = false := (by simp [World.frozen?, h1.p0]); obtain ⟨hc, htc⟩ := h1.crash; have HCR := Lib.hid hc; have HTC := Lib.hid (ht1.trans htc); have c2' : (w1.setCell ⟨p, 0, none⟩ (.map (some ms))).cell? ⟨p, 2, none⟩ = some (.slice oa B.length cap) := (by simp [World.cell?, hc.p0]); have hmin : min (keep : Int) (B.length : Int) = (K : Int) := (by have h1 := HBL.out; have h2 := HK.out; omega); have hKB : (K : Int) ≤ (B.length : Int) := (by have h1 := HBL.out; have h2 := HK.out; omega); clear h1 ht1 hc htc hth))
  have hmo : (w1.setCell ⟨p, 0, none⟩ (.map (some ms))).heap.size = w1.heap.size := by simp [World.setCell]
  go_loopw [41] (fun s wr => ∃ k : Nat, k ≤ K ∧ s = .int .i64 k ∧ N ≤ wr.heap.size ∧ ∃ Φ' V, Hid (CrW N wr Φ' p ms V (.slice oa B.length cap) B D.room (doAll D.G (D.L.take k))) ∧ Hid (TurnD w wr Φ Φ')) (fun s _ => K - (intOf s).toNat)
  case atStart => exact ⟨0, Nat.zero_le _, rfl, by rw [hmo]; exact hs1, Φ, U, HCR, HTC⟩
  case round =>
    obtain ⟨k, hkK, rfl, hsr, Φ', V, HC, HT⟩ := hrel
    clear HCR HTC hmo c0 c1 c2 c2' f0
    by_cases hlt : k < K
    · have hkB : k < B.length := by have h1 := HBL.out; have h2 := HK.out; omega
      have hkL : k < D.L.length := by have h1 := HBL.out; have h2 := HK.out; omega
      have hLk : D.L[k] = B[k].1 := by simp [← hlb]
      obtain ⟨oa2, cap2, e2, _, hth⟩ := things_row HC.out.row
      cases e2
      obtain ⟨g, rfl, hd⟩ := hth k hkB
      have hokk := hi.oks k D.L[k] (List.getElem?_eq_getElem hkL)
      obtain ⟨F, hF⟩ : ∃ F, doAll D.G (D.L.take k) = F := ⟨_, rfl⟩
      rw [hF] at HC hokk
      have hbxk := HC.out.bx B[k] (List.getElem_mem hkB)
      obtain ⟨x, hx⟩ : ∃ x, B[k] = x := ⟨_, rfl⟩
      rw [hx] at hLk hd hbxk
      rw [hLk] at hokk
      obtain ⟨T, b1, b2⟩ := x
      obtain ⟨T2, hT⟩ : ∃ T2, T = T2 := ⟨_, rfl⟩
      simp only at hLk hd hbxk hokk
      clear hth hx
      cases T2 with
      | put f s =>
        have hbx := hbxk
        rw [hT] at hd hbx
        have d0 := hd 0 _ (by omega) rfl
        have d1 := hd 1 _ (by omega) rfl
        have d2 := hd 2 _ (by omega) rfl
        have d3 := hd 3 _ (by omega) rfl
        have d4 := hd 4 _ (by omega) rfl
        have d5 := hd 5 _ (by omega) rfl
        simp only [Nat.add_zero] at d0
        rw [hT] at hokk
        obtain ⟨w0, hw0⟩ : ∃ w0, wr.alloc (.cells (thC (.put f s) b1 b2).toArray 68) = w0 := ⟨_, rfl⟩
        have hb0 : Below wr.heap.size wr w0 := by rw [← hw0]; exact (Below.refl _ wr).alloc (Nat.le_refl _) _
        have hbox : w0.heap[wr.heap.size]? = some (.cells (thC (.put f s) b1 b2).toArray 68 (0, 0)) := by rw [← hw0]; exact heap_alloc_at wr _
        have h0 := HC.out.keep hb0.size (fun k hk => hb0.block k (HC.out.lt k hk).2)
        have hbx0 : BoxIn w0 (.put f s) b1 b2 := hbx.same (hb0.block _ hbx.lt.1) (hb0.block _ hbx.lt.2)
        obtain ⟨es, c, hmo, _⟩ := id h0.ff.map
        have hpo : p ≠ ms := fun e => by
          have := h0.p0
          rw [e, hmo] at this
          cases this
        have hto : wr.heap.size ≠ ms := fun e => by
          rw [e, hmo] at hbox
          cases hbox
        have HD : Hid (Calls Tryd.prog 43 #[.map (some ms), .pointer (some ⟨b1, 0, none⟩), .pointer (some ⟨b2, 0, none⟩)] w0.drew fun e w2 => e = .returned (.tuple #[]) ∧ (w2.cell? ⟨wr.heap.size, 4, none⟩ = some (.func (.func 43) #[] #[.pointer (some ⟨b1, 0, none⟩), .pointer (some ⟨b2, 0, none⟩)]) ∧ w2.cell? ⟨p, 0, none⟩ = some (.map (some ms))) ∧
            ∃ V', Fs w2 ms V' (doneF F (.put f s)) ∧ DoneE w0 w2 ms V F V' (.put f s)) := Lib.hid ((putting1_any ms f b1 b2 s V F w0.drew h0.ff.drew hbx0 hokk).mono (fun e w2 ⟨e0, V', h3, h4⟩ => by
          have h4 := h4.drew
          have hbk := h4.keep h0.ff hbox hto (fun _ e => by cases e)
          have hpk := h4.keep h0.ff h0.p0 hpo (fun _ e => by cases e)
          exact ⟨e0, ⟨box_cells hbk 4 _ rfl, by simp [World.cell?, hpk]⟩, V', h3, h4⟩))
        have c4 : w0.cell? ⟨wr.heap.size, 4, none⟩ = some (.func (.func 43) #[] #[.pointer (some ⟨b1, 0, none⟩), .pointer (some ⟨b2, 0, none⟩)]) := box_cells hbox 4 _ rfl
        have c0 : w0.cell? ⟨p, 0, none⟩ = some (.map (some ms)) := by simp [World.cell?, h0.p0]
        have H0 := Lib.hid h0
        have HB0 := Lib.hid hb0
        have HF := Lib.hid (show doneF F (.put f s) = doAll D.G (D.L.take (k + 1)) by rw [List.take_succ_eq_append_getElem hkL, doAll_snoc, hLk, hT]; rw [← hF])
        have hw0' : wr.alloc (.cells #[.int .i64 (f : Int), .bool false, .int .i64 0, .string s, .func (.func 43) #[] #[.pointer (some ⟨b1, 0, none⟩), .pointer (some ⟨b2, 0, none⟩)], .func (.func 45) #[] #[.pointer (some ⟨b1, 0, none⟩), .pointer (some ⟨b2, 0, none⟩)]] 68) = w0 := hw0
        clear h0 hb0 hbx0 hmo hbox hd hbxk hbx hokk hF hw0
        go_wp2_with fail
        try rw [hw0']
        clear hw0' d0 d1 d2 d3 d4 d5
        go_region_held3 (fun W => W.cell? ⟨wr.heap.size, 4, none⟩ = some (.func (.func 43) #[] #[.pointer (some ⟨b1, 0, none⟩), .pointer (some ⟨b2, 0, none⟩)]) ∧ W.cell? ⟨p, 0, none⟩ = some (.map (some ms))) (first | assumption | (simp [*]; done))
          (first | (go_at_call 43; refine HD.out.mono ?_; rintro e w2 ⟨rfl, hcc, V', hfs, hde⟩))
        obtain ⟨h2, ht2⟩ := H0.out.done (Nat.le_trans hsr HB0.out.size) hde hfs
        rw [HF.out] at h2
        have H2 := Lib.hid h2
        have HT2 := Lib.hid (((HT.out).trans (TurnD.of_below HB0.out)).trans ht2)
        have hsr2 : N ≤ w2.heap.size := Nat.le_trans (Nat.le_trans hsr HB0.out.size) hde.size
        clear h2 ht2 hcc hfs hde
        go_wp2_with fail
        go_roundw
        case rel => exact ⟨k + 1, by omega, by go_num, hsr2, _, _, H2, HT2⟩
        case measure => simp [intOf]; omega
      | cut f m =>
        have hbx := hbxk
        rw [hT] at hd hbx
        have d0 := hd 0 _ (by omega) rfl
        have d1 := hd 1 _ (by omega) rfl
        have d2 := hd 2 _ (by omega) rfl
        have d3 := hd 3 _ (by omega) rfl
        have d4 := hd 4 _ (by omega) rfl
        have d5 := hd 5 _ (by omega) rfl
        simp only [Nat.add_zero] at d0
        rw [hT] at hokk
        obtain ⟨w0, hw0⟩ : ∃ w0, wr.alloc (.cells (thC (.cut f m) b1 b2).toArray 68) = w0 := ⟨_, rfl⟩
        have hb0 : Below wr.heap.size wr w0 := by rw [← hw0]; exact (Below.refl _ wr).alloc (Nat.le_refl _) _
        have hbox : w0.heap[wr.heap.size]? = some (.cells (thC (.cut f m) b1 b2).toArray 68 (0, 0)) := by rw [← hw0]; exact heap_alloc_at wr _
        have h0 := HC.out.keep hb0.size (fun k hk => hb0.block k (HC.out.lt k hk).2)
        have hbx0 : BoxIn w0 (.cut f m) b1 b2 := hbx.same (hb0.block _ hbx.lt.1) (hb0.block _ hbx.lt.2)
        obtain ⟨es, c, hmo, _⟩ := id h0.ff.map
        have hpo : p ≠ ms := fun e => by
          have := h0.p0
          rw [e, hmo] at this
          cases this
        have hto : wr.heap.size ≠ ms := fun e => by
          rw [e, hmo] at hbox
          cases hbox
        have HD : Hid (Calls Tryd.prog 47 #[.map (some ms), .pointer (some ⟨b1, 0, none⟩), .pointer (some ⟨b2, 0, none⟩)] w0.drew fun e w2 => e = .returned (.tuple #[]) ∧ (w2.cell? ⟨wr.heap.size, 4, none⟩ = some (.func (.func 47) #[] #[.pointer (some ⟨b1, 0, none⟩), .pointer (some ⟨b2, 0, none⟩)]) ∧ w2.cell? ⟨p, 0, none⟩ = some (.map (some ms))) ∧
            ∃ V', Fs w2 ms V' (doneF F (.cut f m)) ∧ DoneE w0 w2 ms V F V' (.cut f m)) := Lib.hid ((cutting1_any ms f m b1 b2  V F w0.drew h0.ff.drew hbx0 hokk).mono (fun e w2 ⟨e0, V', h3, h4⟩ => by
          have h4 := h4.drew
          have hbk := h4.keep h0.ff hbox hto (fun _ e => by cases e)
          have hpk := h4.keep h0.ff h0.p0 hpo (fun _ e => by cases e)
          exact ⟨e0, ⟨box_cells hbk 4 _ rfl, by simp [World.cell?, hpk]⟩, V', h3, h4⟩))
        have c4 : w0.cell? ⟨wr.heap.size, 4, none⟩ = some (.func (.func 47) #[] #[.pointer (some ⟨b1, 0, none⟩), .pointer (some ⟨b2, 0, none⟩)]) := box_cells hbox 4 _ rfl
        have c0 : w0.cell? ⟨p, 0, none⟩ = some (.map (some ms)) := by simp [World.cell?, h0.p0]
        have H0 := Lib.hid h0
        have HB0 := Lib.hid hb0
        have HF := Lib.hid (show doneF F (.cut f m) = doAll D.G (D.L.take (k + 1)) by rw [List.take_succ_eq_append_getElem hkL, doAll_snoc, hLk, hT]; rw [← hF])
        have hw0' : wr.alloc (.cells #[.int .i64 (f : Int), .bool true, .int .i64 (m : Int), .string ⟨#[]⟩, .func (.func 47) #[] #[.pointer (some ⟨b1, 0, none⟩), .pointer (some ⟨b2, 0, none⟩)], .func (.func 49) #[] #[]] 68) = w0 := hw0
        clear h0 hb0 hbx0 hmo hbox hd hbxk hbx hokk hF hw0
        go_wp2_with fail
        try rw [hw0']
        clear hw0' d0 d1 d2 d3 d4 d5
        go_region_held3 (fun W => W.cell? ⟨wr.heap.size, 4, none⟩ = some (.func (.func 47) #[] #[.pointer (some ⟨b1, 0, none⟩), .pointer (some ⟨b2, 0, none⟩)]) ∧ W.cell? ⟨p, 0, none⟩ = some (.map (some ms))) (first | assumption | (simp [*]; done))
          (first | (go_at_call 47; refine HD.out.mono ?_; rintro e w2 ⟨rfl, hcc, V', hfs, hde⟩))
        obtain ⟨h2, ht2⟩ := H0.out.done (Nat.le_trans hsr HB0.out.size) hde hfs
        rw [HF.out] at h2
        have H2 := Lib.hid h2
        have HT2 := Lib.hid (((HT.out).trans (TurnD.of_below HB0.out)).trans ht2)
        have hsr2 : N ≤ w2.heap.size := Nat.le_trans (Nat.le_trans hsr HB0.out.size) hde.size
        clear h2 ht2 hcc hfs hde
        go_wp2_with fail
        go_roundw
        case rel => exact ⟨k + 1, by omega, by go_num, hsr2, _, _, H2, HT2⟩
        case measure => simp [intOf]; omega
    · have hkk : k = K := by omega
      subst hkk
      obtain ⟨oa2, cap2, e2, _, hth⟩ := things_row HC.out.row
      cases e2
      have c2 : wr.cell? ⟨p, 2, none⟩ = some (.slice oa B.length cap) := by simp [World.cell?, HC.out.p0]
      clear hlt hkK
      by_cases hKB2 : k < B.length
      · obtain ⟨g, rfl, hd⟩ := hth k hKB2
        have hkL : k < D.L.length := by have h1 := HBL.out; have h2 := HK.out; omega
        have hLk : D.L[k] = B[k].1 := by simp [← hlb]
        have hokk := hi.oks k D.L[k] (List.getElem?_eq_getElem hkL)
        have hLK : D.L[k]? = some D.L[k] := List.getElem?_eq_getElem hkL
        obtain ⟨F, hF⟩ : ∃ F, doAll D.G (D.L.take k) = F := ⟨_, rfl⟩
        rw [hF] at HC hokk
        obtain ⟨x, hx⟩ : ∃ x, B[k] = x := ⟨_, rfl⟩
        rw [hx] at hLk
        obtain ⟨T, b1, b2⟩ := x
        simp only at hLk
        rw [hLk] at hokk hLK
        clear hth hLk
        cases T with
        | put f s =>
          rw [hx] at hd
          have d5 := hd 5 _ (by omega) rfl
          have hbx : BoxIn wr (.put f s) b1 b2 := by
            have := HC.out.bx B[k] (List.getElem_mem hKB2)
            rw [hx] at this
            exact this
          have S0 : wr.cell? ⟨p, 2, none⟩ = some (.slice (some ⟨g, 0, none⟩) B.length cap) := by simp [World.cell?, HC.out.p0]
          have S1 : wr.cell? ⟨p, 0, none⟩ = some (.map (some ms)) := by simp [World.cell?, HC.out.p0]
          have HD : Hid (Calls Tryd.prog 45 #[.map (some ms), .int .i64 torn, .pointer (some ⟨b1, 0, none⟩), .pointer (some ⟨b2, 0, none⟩)] wr.drew fun e w2 => e = .returned (.tuple #[]) ∧ (w2.cell? ⟨p, 2, none⟩ = some (.slice (some ⟨g, 0, none⟩) B.length cap) ∧ w2.cell? ⟨g, k * 6 + 5, none⟩ = some (.func (.func 45) #[] #[.pointer (some ⟨b1, 0, none⟩), .pointer (some ⟨b2, 0, none⟩)]) ∧ w2.cell? ⟨p, 0, none⟩ = some (.map (some ms))) ∧ ∃ Φ2 V2, N ≤ w2.heap.size ∧ CrW N w2 Φ2 p ms V2 (.slice (some ⟨g, 0, none⟩) B.length cap) B D.room (doneF F (tornT ((torn : Nat) : Int).toNat (.put f s))) ∧ TurnD w w2 Φ Φ2) := Lib.hid ((putting2_any ms f b1 b2 s torn V F wr.drew HC.out.ff.drew hbx hokk (by omega) (by omega)).mono (fun e w2 ⟨e0, V', h3, h4⟩ => by
            have h4 := h4.drew
            obtain ⟨h2, ht2⟩ := HC.out.done hsr h4 h3
            obtain ⟨oa3, cap3, e3, _, hth3⟩ := things_row h2.row
            cases e3
            obtain ⟨g3, eg, hd3⟩ := hth3 k hKB2
            cases eg
            rw [hx] at hd3
            exact ⟨e0, ⟨by simp [World.cell?, h2.p0], hd3 5 _ (by omega) rfl, by simp [World.cell?, h2.p0]⟩, _, V', Nat.le_trans hsr h4.size, h2, HT.out.trans ht2⟩))
          have HFE : Hid (D.crashed k torn = { D with F := doneF F (tornT ((torn : Nat) : Int).toNat (.put f s)), G := doneF F (tornT ((torn : Nat) : Int).toNat (.put f s)), L := [] }) := Lib.hid (by
            unfold Dk.crashed Dk.crashF
            rw [hLK, hF]
            rfl)
          clear hd hbx hokk hF hx hLK
          go_wp2_with fail
          go_region_held3 (fun W => W.cell? ⟨p, 2, none⟩ = some (.slice (some ⟨g, 0, none⟩) B.length cap) ∧ W.cell? ⟨g, k * 6 + 5, none⟩ = some (.func (.func 45) #[] #[.pointer (some ⟨b1, 0, none⟩), .pointer (some ⟨b2, 0, none⟩)]) ∧ W.cell? ⟨p, 0, none⟩ = some (.map (some ms))) (first | assumption | (simp [*]; done))
            (first | (go_at_call 45; refine HD.out.mono ?_; rintro e w2 ⟨rfl, hcc, Φ2, V2, hs2, hcr, htt⟩))
          have HSE := Lib.hid ((settle_any p ms V2 _ _ _ D.room w2 hcr.p0 hcr.ff).mono (fun e w' ⟨e0, h1, h2, h3, h4, h5⟩ => And.intro e0 (DkW.mk_settled (D := D) hs2 hcr.fp hcr.fms hcr.fv hcr.lt h1 h2 h3 h4 h5)))
          have HTT := Lib.hid htt
          clear hcr htt hcc
          go_wp2_with (first | (go_at_call 25; refine HSE.out.mono ?_; rintro e w3 ⟨rfl, hd3, ht3⟩))
          go_ret
          rw [HFE.out]
          exact ⟨rfl, _, hd3, HTT.out.trans ht3⟩
        | cut f m =>
          rw [hx] at hd
          have d5 := hd 5 _ (by omega) rfl
          have hbx : BoxIn wr (.cut f m) b1 b2 := by
            have := HC.out.bx B[k] (List.getElem_mem hKB2)
            rw [hx] at this
            exact this
          have S0 : wr.cell? ⟨p, 2, none⟩ = some (.slice (some ⟨g, 0, none⟩) B.length cap) := by simp [World.cell?, HC.out.p0]
          have S1 : wr.cell? ⟨p, 0, none⟩ = some (.map (some ms)) := by simp [World.cell?, HC.out.p0]
          have HD : Hid (Calls Tryd.prog 49 #[.map (some ms), .int .i64 torn] wr.drew fun e w2 => e = .returned (.tuple #[]) ∧ (w2.cell? ⟨p, 2, none⟩ = some (.slice (some ⟨g, 0, none⟩) B.length cap) ∧ w2.cell? ⟨g, k * 6 + 5, none⟩ = some (.func (.func 49) #[] #[]) ∧ w2.cell? ⟨p, 0, none⟩ = some (.map (some ms))) ∧ ∃ Φ2 V2, N ≤ w2.heap.size ∧ CrW N w2 Φ2 p ms V2 (.slice (some ⟨g, 0, none⟩) B.length cap) B D.room (F) ∧ TurnD w w2 Φ Φ2) := Lib.hid ((cutting2_any ms torn wr.drew).mono (fun e w2 ⟨e0, hw2⟩ => by
            subst hw2
            exact ⟨e0, ⟨S0, d5, S1⟩, Φ', V, hsr, HC.out.keep (Nat.le_refl _) (fun _ _ => rfl), HT.out.trans (TurnD.of_below ((Below.refl _ wr).drew))⟩))
          have HFE : Hid (D.crashed k torn = { D with F := F, G := F, L := [] }) := Lib.hid (by
            unfold Dk.crashed Dk.crashF
            rw [hLK, hF]
            rfl)
          clear hd hbx hokk hF hx hLK
          go_wp2_with fail
          go_region_held3 (fun W => W.cell? ⟨p, 2, none⟩ = some (.slice (some ⟨g, 0, none⟩) B.length cap) ∧ W.cell? ⟨g, k * 6 + 5, none⟩ = some (.func (.func 49) #[] #[]) ∧ W.cell? ⟨p, 0, none⟩ = some (.map (some ms))) (first | assumption | (simp [*]; done))
            (first | (go_at_call 49; refine HD.out.mono ?_; rintro e w2 ⟨rfl, hcc, Φ2, V2, hs2, hcr, htt⟩))
          have HSE := Lib.hid ((settle_any p ms V2 _ _ _ D.room w2 hcr.p0 hcr.ff).mono (fun e w' ⟨e0, h1, h2, h3, h4, h5⟩ => And.intro e0 (DkW.mk_settled (D := D) hs2 hcr.fp hcr.fms hcr.fv hcr.lt h1 h2 h3 h4 h5)))
          have HTT := Lib.hid htt
          clear hcr htt hcc
          go_wp2_with (first | (go_at_call 25; refine HSE.out.mono ?_; rintro e w3 ⟨rfl, hd3, ht3⟩))
          go_ret
          rw [HFE.out]
          exact ⟨rfl, _, hd3, HTT.out.trans ht3⟩
      · have hLK : D.L[k]? = none := List.getElem?_eq_none (by have h1 := HBL.out; have h2 := HK.out; omega)
        have HFE : Hid (D.crashed k torn = { D with F := doAll D.G (D.L.take k), G := doAll D.G (D.L.take k), L := [] }) := Lib.hid (by
          unfold Dk.crashed Dk.crashF
          rw [hLK])
        have HSE := Lib.hid ((settle_any p ms V _ _ _ D.room wr HC.out.p0 HC.out.ff).mono (fun e w' ⟨e0, h1, h2, h3, h4, h5⟩ => And.intro e0 (DkW.mk_settled (D := D) hsr HC.out.fp HC.out.fms HC.out.fv HC.out.lt h1 h2 h3 h4 h5)))
        clear hth
        go_wp2_with (first | (go_at_call 25; refine HSE.out.mono ?_; rintro e w3 ⟨rfl, hd3, ht3⟩))
        go_ret
        rw [HFE.out]
        exact ⟨rfl, _, hd3, HT.out.trans ht3⟩
end Go.Proofs.YtlnemefegkjjiaaDoor
