/-
  disk: Crash.
-/
import Derived.Test.YtbhgcioeibhjeaaGreatDoorDApp
namespace Go.Proofs.YtbhgcioeibhjeaaGreatDoor
open Go.RowKit

/-- a disk in a crash: its files are what was synced, and what has been done again -/
structure CrW (N : Nat) (w : World) (Φ : Nat → Prop) (p ms : Nat) (V : Nat → Value) (lv : Value) (B : List (Th × Nat × Nat)) (room : Int) (F : Nat → List UInt8) : Prop where
  p0 : w.heap[p]? = some (.cells #[.map (some ms), .map (some ms), lv, .int .i64 room] 72 (0, 0))
  ff : Fs w ms V F
  row : w.ownsRow N 95 6 lv B.length (B.flatMap fun x => thC x.1 x.2.1 x.2.2)
  bx : ∀ x ∈ B, BoxIn w x.1 x.2.1 x.2.2
  fp : Φ p
  fms : Φ ms
  fv : ∀ f g, (V f).ownBlock = some g → Φ g
  fl : ∀ g, lv.ownBlock = some g → Φ g
  fb : ∀ x ∈ B, Φ x.2.1 ∧ Φ x.2.2
  lt : ∀ k, Φ k → N ≤ k ∧ k < w.heap.size
theorem CrW.keep {N : Nat} {w w' : World} {Φ : Nat → Prop} {p ms : Nat} {V : Nat → Value} {lv : Value} {B : List (Th × Nat × Nat)} {room : Int} {F : Nat → List UInt8} (h : CrW N w Φ p ms V lv B room F) (hs : w.heap.size ≤ w'.heap.size) (hb : ∀ k, Φ k → w'.heap[k]? = w.heap[k]?) : CrW N w' Φ p ms V lv B room F :=
  ⟨(hb p h.fp).trans h.p0, h.ff.keep (hb _ h.fms) (fun f g hg => hb g (h.fv f g hg)), ownsRow_same h.row (fun g hg => hb g (h.fl g hg)), fun x hx => (h.bx x hx).same (hb _ (h.fb x hx).1) (hb _ (h.fb x hx).2), h.fp, h.fms, h.fv, h.fl, h.fb, fun k hk => ⟨(h.lt k hk).1, Nat.lt_of_lt_of_le (h.lt k hk).2 hs⟩⟩
/-- the beginning of a crash -/
theorem DkW.crash {N : Nat} {w : World} {Φ : Nat → Prop} {p mf ms : Nat} {V U : Nat → Value} {lv : Value} {B : List (Th × Nat × Nat)} {D : Dk} (h : DkW N w Φ p mf ms V U lv B D) : CrW N (w.setCell ⟨p, 0, none⟩ (.map (some ms))) Φ p ms U lv B D.room D.G ∧ TurnD w (w.setCell ⟨p, 0, none⟩ (.map (some ms))) Φ Φ := by
  have hfar : ∀ k, k ≠ p → (w.setCell ⟨p, 0, none⟩ (.map (some ms))).heap[k]? = w.heap[k]? := fun k hk => Below.heap_setCell _ _ _ _ hk
  have nep : ∀ (k : Nat) (o : Obj), w.heap[k]? = some o → (∀ cur, o ≠ Obj.cells cur 72 (0, 0)) → k ≠ p := fun k o hk ho e => by
    rw [e, h.p0] at hk
    cases hk
    exact ho _ rfl
  obtain ⟨_, ⟨es, c, hm⟩⟩ := h.mapObj
  have hsz : (w.setCell ⟨p, 0, none⟩ (.map (some ms))).heap.size = w.heap.size := by simp [World.setCell]
  refine ⟨⟨?_, h.gg.keep (hfar _ (nep _ _ hm (fun _ e => by cases e))) (fun f g hg => ?_), ownsRow_same h.row (fun g hg => ?_), fun x hx => ?_, h.fp, h.fms, h.fu, h.fl, h.fb, fun k hk => by rw [hsz]; exact h.lt k hk⟩, ⟨rfl, rfl, rfl, by rw [hsz]; exact Nat.le_refl _, fun k _ hn => hfar k (fun e => hn (by rw [e]; exact h.fp)), fun k hk => .inl hk⟩⟩
  · unfold World.setCell
    rw [Array.getElem?_modify, if_pos rfl, h.p0]
    rfl
  · obtain ⟨cur, hc⟩ := (h.gg.row f).elem g hg
    exact hfar g (nep g _ hc (fun _ e => by cases e))
  · rcases h.row.2 with ⟨e0, _⟩ | ⟨b, cap, cur, e0, _, h2, _⟩
    · rw [e0] at hg; cases hg
    · rw [e0] at hg; cases hg
      exact hfar _ (nep _ _ h2 (fun _ e => by cases e))
  · have hb := h.bx x hx
    refine hb.same ?_ ?_
    · cases ht : x.1 <;> (rw [ht] at hb; exact hfar _ (nep _ _ hb.1 (fun _ e => by cases e)))
    · cases ht : x.1 <;> (rw [ht] at hb; exact hfar _ (nep _ _ hb.2 (fun _ e => by cases e)))
theorem CrW.done {N : Nat} {w w' : World} {Φ : Nat → Prop} {p ms : Nat} {V V' : Nat → Value} {lv : Value} {B : List (Th × Nat × Nat)} {room : Int} {F F' : Nat → List UInt8} {t : Th} (h : CrW N w Φ p ms V lv B room F) (hs : N ≤ w.heap.size) (hd : DoneE w w' ms V F V' t) (hfs : Fs w' ms V' F') :
    CrW N w' (grewΦ w w' Φ) p ms V' lv B room F' ∧ TurnD w w' Φ (grewΦ w w' Φ) := by
  obtain ⟨es, c, hm, _⟩ := id h.ff.map
  have ne : ∀ (b : Nat) (cs : Array Value) (ty : TypeId) (fz : Nat × Nat), w.heap[b]? = some (.cells cs ty fz) → b ≠ ms := fun b cs ty fz hb e => by rw [e, hm] at hb; cases hb
  refine ⟨⟨hd.keep h.ff h.p0 (ne _ _ _ _ h.p0) (fun _ e => by cases e), hfs, ?_, fun x hx => (h.bx x hx).keep (fun k o hko ho hno => hd.keep h.ff hko (fun e => hno es c (by rw [e, hm] at hko; cases hko; rfl)) ho), .inl h.fp, .inl h.fms, ?_, fun g hg => .inl (h.fl g hg), fun x hx => ⟨.inl (h.fb x hx).1, .inl (h.fb x hx).2⟩, ?_⟩, ⟨hd.os.1, hd.os.2.1, hd.os.2.2, hd.size, fun k hk hn => hd.block hk (fun e => hn (by rw [e]; exact h.fms)) (fun f e => hn (h.fv f k e)), ?_⟩⟩
  · refine ownsRow_same h.row (fun g hg => ?_)
    rcases h.row.2 with ⟨e0, _⟩ | ⟨b, cap, cur, e0, _, h2, _⟩
    · rw [e0] at hg; cases hg
    · rw [e0] at hg
      cases hg
      rw [h2]
      exact hd.keep h.ff h2 (ne _ _ _ _ h2) (fun _ e => by cases e)
  · intro f g hg
    rcases hd.own f g hg with e | e
    · exact .inl (h.fv f g e)
    · exact .inr ⟨by omega, (hfs.row f).lt g hg⟩
  · intro k hk
    rcases hk with hk | hk
    · exact ⟨(h.lt k hk).1, Nat.lt_of_lt_of_le (h.lt k hk).2 hd.size⟩
    · exact ⟨by omega, hk.2⟩
  · intro k hk
    rcases hk with hk | hk
    · exact .inl hk
    · exact .inr hk.1
theorem flat_get (B : List (Th × Nat × Nat)) : ∀ (k : Nat) (hk : k < B.length) (i : Nat), i < 6 → (B.flatMap fun x => thC x.1 x.2.1 x.2.2)[k * 6 + i]? = (thC B[k].1 B[k].2.1 B[k].2.2)[i]? := by
  induction B with
  | nil => intro k hk; exact absurd hk (Nat.not_lt_zero _)
  | cons x B ih =>
    intro k hk i hi
    rw [List.flatMap_cons]
    have hx := thC_length x.1 x.2.1 x.2.2
    cases k with
    | zero =>
      rw [List.getElem?_append_left (by omega)]
      simp
    | succ k =>
      rw [List.getElem?_append_right (by omega), hx, show (k + 1) * 6 + i - 6 = k * 6 + i by omega, ih k (by simpa using hk) i hi]
      rfl
theorem things_row {W : World} {N : Nat} {lv : Value} {B : List (Th × Nat × Nat)} (h : W.ownsRow N 95 6 lv B.length (B.flatMap fun x => thC x.1 x.2.1 x.2.2)) :
    ∃ oa cap, lv = .slice oa B.length cap ∧ B.length ≤ cap ∧ ∀ (k : Nat) (hk : k < B.length), ∃ g, oa = some ⟨g, 0, none⟩ ∧ ∀ i v, i < 6 → (thC B[k].1 B[k].2.1 B[k].2.2)[i]? = some v → W.cell? ⟨g, k * 6 + i, none⟩ = some v := by
  have h0 := h
  rcases h.2 with ⟨e0, h1⟩ | ⟨g, cap, cur, e0, _, hg, hc, _, hsz, htk⟩
  · exact ⟨none, 0, by rw [e0, h1], by omega, fun k hk => by omega⟩
  · refine ⟨_, cap, e0, hc, fun k hk => ⟨g, rfl, fun i v hi hv => ?_⟩⟩
    rw [← flat_get B k hk i hi, ← htk, List.getElem?_take_of_lt (by omega), Array.getElem?_toList] at hv
    simp [World.cell?, hg, hv]
/-- what a crash leaves of the thing that comes next -/
def tornF (F : Nat → List UInt8) (n : Nat) : Th → Nat → List UInt8
  | .put f s => doneF F (tornT n (.put f s))
  | .cut _ _ => F
def Dk.crashF (D : Dk) (keep torn : Nat) : Nat → List UInt8 :=
  match D.L[keep]? with
  | none => doAll D.G (D.L.take keep)
  | some t => tornF (doAll D.G (D.L.take keep)) torn t
def Dk.crashed (D : Dk) (keep torn : Nat) : Dk := { D with F := D.crashF keep torn, G := D.crashF keep torn, L := [] }
theorem Dk.Inv.crashed {D : Dk} (h : D.Inv) (keep torn : Nat) : (D.crashed keep torn).Inv := by
  have hs : sumF (D.crashF keep torn) ≤ D.room := by
    unfold Dk.crashF
    cases ht : D.L[keep]? with
    | none => exact h.sums keep
    | some t =>
      have hok := h.oks keep t ht
      cases t with
      | cut f m => exact h.sums keep
      | put f s =>
        have h1 := h.sums (keep + 1)
        have hkl := (List.getElem?_eq_some_iff.1 ht).1
        have hke : D.L[keep] = .put f s := (List.getElem?_eq_some_iff.1 ht).2
        rw [List.take_succ_eq_append_getElem hkl, doAll_snoc, hke] at h1
        generalize doAll D.G (D.L.take keep) = F at *
        have e1 := sumF_upd F f (F f ++ s.data.toList) hok.1
        have e2 := sumF_upd F f (F f ++ (s.extract 0 (min torn s.size)).data.toList) hok.1
        have h1' : sumF (updF F f (F f ++ s.data.toList)) ≤ D.room := h1
        show sumF (updF F f (F f ++ (s.extract 0 (min torn s.size)).data.toList)) ≤ D.room
        have el : (s.extract 0 (min torn s.size)).data.toList.length ≤ s.data.toList.length := by
          simp
          omega
        simp only [List.length_append] at e1 e2
        omega
  exact ⟨h.room, rfl, fun k => by show sumF (doAll (D.crashF keep torn) ([].take k)) ≤ D.room; rw [List.take_nil]; exact hs, fun k t ht => (by have ht' : ([] : List Th)[k]? = some t := ht; simp at ht'), Nat.zero_le _⟩
end Go.Proofs.YtbhgcioeibhjeaaGreatDoor
namespace Go.Proofs.YtbhgcioeibhjeaaGreatDoor
open Go.RowKit

set_option maxRecDepth 100000 in
set_option maxHeartbeats 8000000 in
theorem Crash_any {N : Nat} {w : World} {Φ : Nat → Prop} {p : Nat} {D : Dk} (h : DkAt N w Φ p D) (hs : N ≤ w.heap.size) (hi : D.Inv) (keep torn : Nat) (hk : keep ≤ 9223372036854775807) (ht : torn ≤ 9223372036854775807) :
    Calls Tryz.prog 28 #[.pointer (some ⟨p, 0, none⟩), .int .i64 keep, .int .i64 torn] w fun e w' => e = .returned (.int .i64 0) ∧ ∃ Φ', DkAt N w' Φ' p (D.crashed (min keep D.L.length) torn) ∧ TurnD w w' Φ Φ' := by
  obtain ⟨mf, ms, V0, U, lv, B, h⟩ := h
  have hq0 := isErr_eqn
  obtain ⟨wn, hwn⟩ : ∃ wn, w.alloc (.cells #[.int .i64 keep, .int .i64 torn] 3) = wn := ⟨_, rfl⟩
  have hbn : Below w.heap.size w wn := by rw [← hwn]; exact (Below.refl _ w).alloc (Nat.le_refl _) _
  have hn1 := h.keep hbn.size (fun k hk => hbn.block k (h.lt k hk).2)
  have hnums : NumsIn wn (some ⟨w.heap.size, 0, none⟩) [(keep : Int), (torn : Int)] := by
    intro j hj
    refine ⟨_, rfl, ?_⟩
    rw [← hwn]
    have hc := lit_cells w [.int .i64 keep, .int .i64 torn] 3 j
    match j, hj with
    | 0, _ => exact hc _ rfl
    | 1, _ => exact hc _ rfl
  have HA := Lib.hid (ask_nums p mf (some ⟨w.heap.size, 0, none⟩) 2 [(keep : Int), (torn : Int)] wn hn1.isDisk hnums (by simp))
  have hall : ([(keep : Int), (torn : Int)].all (fun x => decide (0 ≤ x))) = true := by simp
  rw [hall, if_pos rfl] at HA
  have HA := Lib.hid (HA.out.mono (fun e w' he => Told.ok he))
  have HW := Lib.hid (fun w1 (hb : Below wn.heap.size wn w1) => And.intro (hn1.keep hb.size (fun k hk => hb.block k (hn1.lt k hk).2)) ((TurnD.of_below (Φ := Φ) hbn).trans (TurnD.of_below hb)))
  have hlb := h.lb
  have hBL : B.length = D.L.length := by rw [← hlb, List.length_map]
  obtain ⟨K, hK⟩ : ∃ K : Nat, min keep D.L.length = K := ⟨_, rfl⟩
  rw [hK]
  have HBL := Lib.hid hBL
  have HK := Lib.hid hK
  clear hBL hK
  have HN := Lib.hid (Nat.le_trans hs hbn.size)
  clear h hn1 hbn hnums hall
  go_enter Tryz.func28, Tryz.ntmps28
  go_wp2_with (first | (go_at_call 58; refine HA.out.mono ?_; rintro e w1 ⟨rfl, hb1⟩; obtain ⟨h1, ht1⟩ := HW.out w1 hb1; have hs1 : N ≤ w1.heap.size := Nat.le_trans HN.out hb1.size; obtain ⟨oa, cap, hlv, hcap, hth⟩ := things_row h1.row; subst hlv; have c2 : w1.cell? ⟨p, 2, none⟩ = some (.slice oa B.length cap) := (by simp [World.cell?, h1.p0]); have c1 : w1.cell? ⟨p, 1, none⟩ = some (.map (some ms)) := (by simp [World.cell?, h1.p0]); have c0 : w1.cell? ⟨p, 0, none⟩ = some (.map (some mf)) := (by simp [World.cell?, h1.p0]); have f0 : w1.frozen? ⟨p, 0, none⟩ = false := (by simp [World.frozen?, h1.p0]); obtain ⟨hc, htc⟩ := h1.crash; have HCR := Lib.hid hc; have HTC := Lib.hid (ht1.trans htc); have c2' : (w1.setCell ⟨p, 0, none⟩ (.map (some ms))).cell? ⟨p, 2, none⟩ = some (.slice oa B.length cap) := (by simp [World.cell?, hc.p0]); have hmin : min (keep : Int) (B.length : Int) = (K : Int) := (by have h1 := HBL.out; have h2 := HK.out; omega); have hKB : (K : Int) ≤ (B.length : Int) := (by have h1 := HBL.out; have h2 := HK.out; omega); clear h1 ht1 hc htc hth))
  have hmo : (w1.setCell ⟨p, 0, none⟩ (.map (some ms))).heap.size = w1.heap.size := by simp [World.setCell]
  go_loopw [41] (fun s wr => ∃ k : Nat, k ≤ K ∧ s = .int .i64 k ∧ N ≤ wr.heap.size ∧ ∃ Φ' V, Hid (CrW N wr Φ' p ms V (.slice oa B.length cap) B D.room (doAll D.G (D.L.take k))) ∧ Hid (TurnD w wr Φ Φ')) (fun s _ => K - (intOf s).toNat)
  case atStart => exact ⟨0, Nat.zero_le _, rfl, by rw [hmo]; exact hs1, Φ, U, HCR, HTC⟩
  case round =>
    obtain ⟨k, hkK, rfl, hsr, Φ', V, HC, HT⟩ := hrel
    clear HCR HTC hmo c0 c1 c2 c2' f0
    by_cases hlt : k < K
    · have hkB : k < B.length := by have h1 := HBL.out; have h2 := HK.out; omega
      have hkL : k < D.L.length := by have h1 := HBL.out; have h2 := HK.out; omega
      have hLk : D.L[k] = B[k].1 := by simp [← hlb]
      obtain ⟨oa2, cap2, e2, _, hth⟩ := things_row HC.out.row
      cases e2
      obtain ⟨g, rfl, hd⟩ := hth k hkB
      have hokk := hi.oks k D.L[k] (List.getElem?_eq_getElem hkL)
      obtain ⟨F, hF⟩ : ∃ F, doAll D.G (D.L.take k) = F := ⟨_, rfl⟩
      rw [hF] at HC hokk
      have hbxk := HC.out.bx B[k] (List.getElem_mem hkB)
      obtain ⟨x, hx⟩ : ∃ x, B[k] = x := ⟨_, rfl⟩
      rw [hx] at hLk hd hbxk
      rw [hLk] at hokk
      obtain ⟨T, b1, b2⟩ := x
      obtain ⟨T2, hT⟩ : ∃ T2, T = T2 := ⟨_, rfl⟩
      simp only at hLk hd hbxk hokk
      clear hth hx
      cases T2 with
      | put f s =>
        have hbx := hbxk
        rw [hT] at hd hbx
        have d0 := hd 0 _ (by omega) rfl
        have d1 := hd 1 _ (by omega) rfl
        have d2 := hd 2 _ (by omega) rfl
        have d3 := hd 3 _ (by omega) rfl
        have d4 := hd 4 _ (by omega) rfl
        have d5 := hd 5 _ (by omega) rfl
        simp only [Nat.add_zero] at d0
        rw [hT] at hokk
        obtain ⟨w0, hw0⟩ : ∃ w0, wr.alloc (.cells (thC (.put f s) b1 b2).toArray 95) = w0 := ⟨_, rfl⟩
        have hb0 : Below wr.heap.size wr w0 := by rw [← hw0]; exact (Below.refl _ wr).alloc (Nat.le_refl _) _
        have hbox : w0.heap[wr.heap.size]? = some (.cells (thC (.put f s) b1 b2).toArray 95 (0, 0)) := by rw [← hw0]; exact heap_alloc_at wr _
        have h0 := HC.out.keep hb0.size (fun k hk => hb0.block k (HC.out.lt k hk).2)
        have hbx0 : BoxIn w0 (.put f s) b1 b2 := hbx.same (hb0.block _ hbx.lt.1) (hb0.block _ hbx.lt.2)
        obtain ⟨es, c, hmo, _⟩ := id h0.ff.map
        have hpo : p ≠ ms := fun e => by
          have := h0.p0
          rw [e, hmo] at this
          cases this
        have hto : wr.heap.size ≠ ms := fun e => by
          rw [e, hmo] at hbox
          cases hbox
        have HD : Hid (Calls Tryz.prog 69 #[.map (some ms), .pointer (some ⟨b1, 0, none⟩), .pointer (some ⟨b2, 0, none⟩)] w0.drew fun e w2 => e = .returned (.tuple #[]) ∧ (w2.cell? ⟨wr.heap.size, 4, none⟩ = some (.func (.func 69) #[] #[.pointer (some ⟨b1, 0, none⟩), .pointer (some ⟨b2, 0, none⟩)]) ∧ w2.cell? ⟨p, 0, none⟩ = some (.map (some ms))) ∧
            ∃ V', Fs w2 ms V' (doneF F (.put f s)) ∧ DoneE w0 w2 ms V F V' (.put f s)) := Lib.hid ((putting1_any ms f b1 b2 s V F w0.drew h0.ff.drew hbx0 hokk).mono (fun e w2 ⟨e0, V', h3, h4⟩ => by
          have h4 := h4.drew
          have hbk := h4.keep h0.ff hbox hto (fun _ e => by cases e)
          have hpk := h4.keep h0.ff h0.p0 hpo (fun _ e => by cases e)
          exact ⟨e0, ⟨box_cells hbk 4 _ rfl, by simp [World.cell?, hpk]⟩, V', h3, h4⟩))
        have c4 : w0.cell? ⟨wr.heap.size, 4, none⟩ = some (.func (.func 69) #[] #[.pointer (some ⟨b1, 0, none⟩), .pointer (some ⟨b2, 0, none⟩)]) := box_cells hbox 4 _ rfl
        have c0 : w0.cell? ⟨p, 0, none⟩ = some (.map (some ms)) := by simp [World.cell?, h0.p0]
        have H0 := Lib.hid h0
        have HB0 := Lib.hid hb0
        have HF := Lib.hid (show doneF F (.put f s) = doAll D.G (D.L.take (k + 1)) by rw [List.take_succ_eq_append_getElem hkL, doAll_snoc, hLk, hT]; rw [← hF])
        have hw0' : wr.alloc (.cells #[.int .i64 (f : Int), .bool false, .int .i64 0, .string s, .func (.func 69) #[] #[.pointer (some ⟨b1, 0, none⟩), .pointer (some ⟨b2, 0, none⟩)], .func (.func 71) #[] #[.pointer (some ⟨b1, 0, none⟩), .pointer (some ⟨b2, 0, none⟩)]] 95) = w0 := hw0
        clear h0 hb0 hbx0 hmo hbox hd hbxk hbx hokk hF hw0
        go_wp2_with fail
        try rw [hw0']
        clear hw0' d0 d1 d2 d3 d4 d5
        go_region_held3 (fun W => W.cell? ⟨wr.heap.size, 4, none⟩ = some (.func (.func 69) #[] #[.pointer (some ⟨b1, 0, none⟩), .pointer (some ⟨b2, 0, none⟩)]) ∧ W.cell? ⟨p, 0, none⟩ = some (.map (some ms))) (first | assumption | (simp [*]; done))
          (first | (go_at_call 69; refine HD.out.mono ?_; rintro e w2 ⟨rfl, hcc, V', hfs, hde⟩))
        obtain ⟨h2, ht2⟩ := H0.out.done (Nat.le_trans hsr HB0.out.size) hde hfs
        rw [HF.out] at h2
        have H2 := Lib.hid h2
        have HT2 := Lib.hid (((HT.out).trans (TurnD.of_below HB0.out)).trans ht2)
        have hsr2 : N ≤ w2.heap.size := Nat.le_trans (Nat.le_trans hsr HB0.out.size) hde.size
        clear h2 ht2 hcc hfs hde
        go_wp2_with fail
        go_roundw
        case rel => exact ⟨k + 1, by omega, by go_num, hsr2, _, _, H2, HT2⟩
        case measure => simp [intOf]; omega
      | cut f m =>
        have hbx := hbxk
        rw [hT] at hd hbx
        have d0 := hd 0 _ (by omega) rfl
        have d1 := hd 1 _ (by omega) rfl
        have d2 := hd 2 _ (by omega) rfl
        have d3 := hd 3 _ (by omega) rfl
        have d4 := hd 4 _ (by omega) rfl
        have d5 := hd 5 _ (by omega) rfl
        simp only [Nat.add_zero] at d0
        rw [hT] at hokk
        obtain ⟨w0, hw0⟩ : ∃ w0, wr.alloc (.cells (thC (.cut f m) b1 b2).toArray 95) = w0 := ⟨_, rfl⟩
        have hb0 : Below wr.heap.size wr w0 := by rw [← hw0]; exact (Below.refl _ wr).alloc (Nat.le_refl _) _
        have hbox : w0.heap[wr.heap.size]? = some (.cells (thC (.cut f m) b1 b2).toArray 95 (0, 0)) := by rw [← hw0]; exact heap_alloc_at wr _
        have h0 := HC.out.keep hb0.size (fun k hk => hb0.block k (HC.out.lt k hk).2)
        have hbx0 : BoxIn w0 (.cut f m) b1 b2 := hbx.same (hb0.block _ hbx.lt.1) (hb0.block _ hbx.lt.2)
        obtain ⟨es, c, hmo, _⟩ := id h0.ff.map
        have hpo : p ≠ ms := fun e => by
          have := h0.p0
          rw [e, hmo] at this
          cases this
        have hto : wr.heap.size ≠ ms := fun e => by
          rw [e, hmo] at hbox
          cases hbox
        have HD : Hid (Calls Tryz.prog 85 #[.map (some ms), .pointer (some ⟨b1, 0, none⟩), .pointer (some ⟨b2, 0, none⟩)] w0.drew fun e w2 => e = .returned (.tuple #[]) ∧ (w2.cell? ⟨wr.heap.size, 4, none⟩ = some (.func (.func 85) #[] #[.pointer (some ⟨b1, 0, none⟩), .pointer (some ⟨b2, 0, none⟩)]) ∧ w2.cell? ⟨p, 0, none⟩ = some (.map (some ms))) ∧
            ∃ V', Fs w2 ms V' (doneF F (.cut f m)) ∧ DoneE w0 w2 ms V F V' (.cut f m)) := Lib.hid ((cutting1_any ms f m b1 b2  V F w0.drew h0.ff.drew hbx0 hokk).mono (fun e w2 ⟨e0, V', h3, h4⟩ => by
          have h4 := h4.drew
          have hbk := h4.keep h0.ff hbox hto (fun _ e => by cases e)
          have hpk := h4.keep h0.ff h0.p0 hpo (fun _ e => by cases e)
          exact ⟨e0, ⟨box_cells hbk 4 _ rfl, by simp [World.cell?, hpk]⟩, V', h3, h4⟩))
        have c4 : w0.cell? ⟨wr.heap.size, 4, none⟩ = some (.func (.func 85) #[] #[.pointer (some ⟨b1, 0, none⟩), .pointer (some ⟨b2, 0, none⟩)]) := box_cells hbox 4 _ rfl
        have c0 : w0.cell? ⟨p, 0, none⟩ = some (.map (some ms)) := by simp [World.cell?, h0.p0]
        have H0 := Lib.hid h0
        have HB0 := Lib.hid hb0
        have HF := Lib.hid (show doneF F (.cut f m) = doAll D.G (D.L.take (k + 1)) by rw [List.take_succ_eq_append_getElem hkL, doAll_snoc, hLk, hT]; rw [← hF])
        have hw0' : wr.alloc (.cells #[.int .i64 (f : Int), .bool true, .int .i64 (m : Int), .string ⟨#[]⟩, .func (.func 85) #[] #[.pointer (some ⟨b1, 0, none⟩), .pointer (some ⟨b2, 0, none⟩)], .func (.func 87) #[] #[]] 95) = w0 := hw0
        clear h0 hb0 hbx0 hmo hbox hd hbxk hbx hokk hF hw0
        go_wp2_with fail
        try rw [hw0']
        clear hw0' d0 d1 d2 d3 d4 d5
        go_region_held3 (fun W => W.cell? ⟨wr.heap.size, 4, none⟩ = some (.func (.func 85) #[] #[.pointer (some ⟨b1, 0, none⟩), .pointer (some ⟨b2, 0, none⟩)]) ∧ W.cell? ⟨p, 0, none⟩ = some (.map (some ms))) (first | assumption | (simp [*]; done))
          (first | (go_at_call 85; refine HD.out.mono ?_; rintro e w2 ⟨rfl, hcc, V', hfs, hde⟩))
        obtain ⟨h2, ht2⟩ := H0.out.done (Nat.le_trans hsr HB0.out.size) hde hfs
        rw [HF.out] at h2
        have H2 := Lib.hid h2
        have HT2 := Lib.hid (((HT.out).trans (TurnD.of_below HB0.out)).trans ht2)
        have hsr2 : N ≤ w2.heap.size := Nat.le_trans (Nat.le_trans hsr HB0.out.size) hde.size
        clear h2 ht2 hcc hfs hde
        go_wp2_with fail
        go_roundw
        case rel => exact ⟨k + 1, by omega, by go_num, hsr2, _, _, H2, HT2⟩
        case measure => simp [intOf]; omega
    · have hkk : k = K := by omega
      subst hkk
      obtain ⟨oa2, cap2, e2, _, hth⟩ := things_row HC.out.row
      cases e2
      have c2 : wr.cell? ⟨p, 2, none⟩ = some (.slice oa B.length cap) := by simp [World.cell?, HC.out.p0]
      clear hlt hkK
      by_cases hKB2 : k < B.length
      · obtain ⟨g, rfl, hd⟩ := hth k hKB2
        have hkL : k < D.L.length := by have h1 := HBL.out; have h2 := HK.out; omega
        have hLk : D.L[k] = B[k].1 := by simp [← hlb]
        have hokk := hi.oks k D.L[k] (List.getElem?_eq_getElem hkL)
        have hLK : D.L[k]? = some D.L[k] := List.getElem?_eq_getElem hkL
        obtain ⟨F, hF⟩ : ∃ F, doAll D.G (D.L.take k) = F := ⟨_, rfl⟩
        rw [hF] at HC hokk
        obtain ⟨x, hx⟩ : ∃ x, B[k] = x := ⟨_, rfl⟩
        rw [hx] at hLk
        obtain ⟨T, b1, b2⟩ := x
        simp only at hLk
        rw [hLk] at hokk hLK
        clear hth hLk
        cases T with
        | put f s =>
          rw [hx] at hd
          have d5 := hd 5 _ (by omega) rfl
          have hbx : BoxIn wr (.put f s) b1 b2 := by
            have := HC.out.bx B[k] (List.getElem_mem hKB2)
            rw [hx] at this
            exact this
          have S0 : wr.cell? ⟨p, 2, none⟩ = some (.slice (some ⟨g, 0, none⟩) B.length cap) := by simp [World.cell?, HC.out.p0]
          have S1 : wr.cell? ⟨p, 0, none⟩ = some (.map (some ms)) := by simp [World.cell?, HC.out.p0]
          have HD : Hid (Calls Tryz.prog 71 #[.map (some ms), .int .i64 torn, .pointer (some ⟨b1, 0, none⟩), .pointer (some ⟨b2, 0, none⟩)] wr.drew fun e w2 => e = .returned (.tuple #[]) ∧ (w2.cell? ⟨p, 2, none⟩ = some (.slice (some ⟨g, 0, none⟩) B.length cap) ∧ w2.cell? ⟨g, k * 6 + 5, none⟩ = some (.func (.func 71) #[] #[.pointer (some ⟨b1, 0, none⟩), .pointer (some ⟨b2, 0, none⟩)]) ∧ w2.cell? ⟨p, 0, none⟩ = some (.map (some ms))) ∧ ∃ Φ2 V2, N ≤ w2.heap.size ∧ CrW N w2 Φ2 p ms V2 (.slice (some ⟨g, 0, none⟩) B.length cap) B D.room (doneF F (tornT ((torn : Nat) : Int).toNat (.put f s))) ∧ TurnD w w2 Φ Φ2) := Lib.hid ((putting2_any ms f b1 b2 s torn V F wr.drew HC.out.ff.drew hbx hokk (by omega) (by omega)).mono (fun e w2 ⟨e0, V', h3, h4⟩ => by
            have h4 := h4.drew
            obtain ⟨h2, ht2⟩ := HC.out.done hsr h4 h3
            obtain ⟨oa3, cap3, e3, _, hth3⟩ := things_row h2.row
            cases e3
            obtain ⟨g3, eg, hd3⟩ := hth3 k hKB2
            cases eg
            rw [hx] at hd3
            exact ⟨e0, ⟨by simp [World.cell?, h2.p0], hd3 5 _ (by omega) rfl, by simp [World.cell?, h2.p0]⟩, _, V', Nat.le_trans hsr h4.size, h2, HT.out.trans ht2⟩))
          have HFE : Hid (D.crashed k torn = { D with F := doneF F (tornT ((torn : Nat) : Int).toNat (.put f s)), G := doneF F (tornT ((torn : Nat) : Int).toNat (.put f s)), L := [] }) := Lib.hid (by
            unfold Dk.crashed Dk.crashF
            rw [hLK, hF]
            rfl)
          clear hd hbx hokk hF hx hLK
          go_wp2_with fail
          go_region_held3 (fun W => W.cell? ⟨p, 2, none⟩ = some (.slice (some ⟨g, 0, none⟩) B.length cap) ∧ W.cell? ⟨g, k * 6 + 5, none⟩ = some (.func (.func 71) #[] #[.pointer (some ⟨b1, 0, none⟩), .pointer (some ⟨b2, 0, none⟩)]) ∧ W.cell? ⟨p, 0, none⟩ = some (.map (some ms))) (first | assumption | (simp [*]; done))
            (first | (go_at_call 71; refine HD.out.mono ?_; rintro e w2 ⟨rfl, hcc, Φ2, V2, hs2, hcr, htt⟩))
          have HSE := Lib.hid ((settle_any p ms V2 _ _ _ D.room w2 hcr.p0 hcr.ff).mono (fun e w' ⟨e0, h1, h2, h3, h4, h5⟩ => And.intro e0 (DkW.mk_settled (D := D) hs2 hcr.fp hcr.fms hcr.fv hcr.lt h1 h2 h3 h4 h5)))
          have HTT := Lib.hid htt
          clear hcr htt hcc
          go_wp2_with (first | (go_at_call 59; refine HSE.out.mono ?_; rintro e w3 ⟨rfl, hd3, ht3⟩))
          go_ret
          rw [HFE.out]
          exact ⟨rfl, _, hd3, HTT.out.trans ht3⟩
        | cut f m =>
          rw [hx] at hd
          have d5 := hd 5 _ (by omega) rfl
          have hbx : BoxIn wr (.cut f m) b1 b2 := by
            have := HC.out.bx B[k] (List.getElem_mem hKB2)
            rw [hx] at this
            exact this
          have S0 : wr.cell? ⟨p, 2, none⟩ = some (.slice (some ⟨g, 0, none⟩) B.length cap) := by simp [World.cell?, HC.out.p0]
          have S1 : wr.cell? ⟨p, 0, none⟩ = some (.map (some ms)) := by simp [World.cell?, HC.out.p0]
          have HD : Hid (Calls Tryz.prog 87 #[.map (some ms), .int .i64 torn] wr.drew fun e w2 => e = .returned (.tuple #[]) ∧ (w2.cell? ⟨p, 2, none⟩ = some (.slice (some ⟨g, 0, none⟩) B.length cap) ∧ w2.cell? ⟨g, k * 6 + 5, none⟩ = some (.func (.func 87) #[] #[]) ∧ w2.cell? ⟨p, 0, none⟩ = some (.map (some ms))) ∧ ∃ Φ2 V2, N ≤ w2.heap.size ∧ CrW N w2 Φ2 p ms V2 (.slice (some ⟨g, 0, none⟩) B.length cap) B D.room (F) ∧ TurnD w w2 Φ Φ2) := Lib.hid ((cutting2_any ms torn wr.drew).mono (fun e w2 ⟨e0, hw2⟩ => by
            subst hw2
            exact ⟨e0, ⟨S0, d5, S1⟩, Φ', V, hsr, HC.out.keep (Nat.le_refl _) (fun _ _ => rfl), HT.out.trans (TurnD.of_below ((Below.refl _ wr).drew))⟩))
          have HFE : Hid (D.crashed k torn = { D with F := F, G := F, L := [] }) := Lib.hid (by
            unfold Dk.crashed Dk.crashF
            rw [hLK, hF]
            rfl)
          clear hd hbx hokk hF hx hLK
          go_wp2_with fail
          go_region_held3 (fun W => W.cell? ⟨p, 2, none⟩ = some (.slice (some ⟨g, 0, none⟩) B.length cap) ∧ W.cell? ⟨g, k * 6 + 5, none⟩ = some (.func (.func 87) #[] #[]) ∧ W.cell? ⟨p, 0, none⟩ = some (.map (some ms))) (first | assumption | (simp [*]; done))
            (first | (go_at_call 87; refine HD.out.mono ?_; rintro e w2 ⟨rfl, hcc, Φ2, V2, hs2, hcr, htt⟩))
          have HSE := Lib.hid ((settle_any p ms V2 _ _ _ D.room w2 hcr.p0 hcr.ff).mono (fun e w' ⟨e0, h1, h2, h3, h4, h5⟩ => And.intro e0 (DkW.mk_settled (D := D) hs2 hcr.fp hcr.fms hcr.fv hcr.lt h1 h2 h3 h4 h5)))
          have HTT := Lib.hid htt
          clear hcr htt hcc
          go_wp2_with (first | (go_at_call 59; refine HSE.out.mono ?_; rintro e w3 ⟨rfl, hd3, ht3⟩))
          go_ret
          rw [HFE.out]
          exact ⟨rfl, _, hd3, HTT.out.trans ht3⟩
      · have hLK : D.L[k]? = none := List.getElem?_eq_none (by have h1 := HBL.out; have h2 := HK.out; omega)
        have HFE : Hid (D.crashed k torn = { D with F := doAll D.G (D.L.take k), G := doAll D.G (D.L.take k), L := [] }) := Lib.hid (by
          unfold Dk.crashed Dk.crashF
          rw [hLK])
        have HSE := Lib.hid ((settle_any p ms V _ _ _ D.room wr HC.out.p0 HC.out.ff).mono (fun e w' ⟨e0, h1, h2, h3, h4, h5⟩ => And.intro e0 (DkW.mk_settled (D := D) hsr HC.out.fp HC.out.fms HC.out.fv HC.out.lt h1 h2 h3 h4 h5)))
        clear hth
        go_wp2_with (first | (go_at_call 59; refine HSE.out.mono ?_; rintro e w3 ⟨rfl, hd3, ht3⟩))
        go_ret
        rw [HFE.out]
        exact ⟨rfl, _, hd3, HT.out.trans ht3⟩
end Go.Proofs.YtbhgcioeibhjeaaGreatDoor
