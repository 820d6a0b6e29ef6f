/-
  parts that belong together.
-/
import Derived.Test.YtbhgcioeibhjeaaGreatDoorLRZC
namespace Go.Proofs.YtbhgcioeibhjeaaGreatDoor
open Go.RowKit

set_option maxRecDepth 100000 in
set_option maxHeartbeats 1000000 in
theorem lOpen_bad {w W : World} {p : Nat} {D : Dk} (h : Run w W p D) (hET : HasET w) (f : Int) (hf : badFile f) : Calls Tryz.prog 8 #[.pointer (some ⟨p, 0, none⟩), .int .i64 f] W fun x W' => x = .returned (.tuple #[.pointer none, .int .i64 4]) ∧ Below W.heap.size W W' := by
  obtain ⟨Φ, h1, h2, h3⟩ := h
  have HR := Lib.hid (Read_bad h1 (hET.below h2 hET.lt) f hf)
  clear h1 h2 h3 hET hf
  go_enter Tryz.func8, Tryz.ntmps8
  go_wp2_with (first | (go_at_call 29; refine HR.out.mono ?_; rintro e w1 ⟨rfl, hbw⟩))
  go_ret2
  exact ⟨rfl, hbw⟩
set_option maxRecDepth 1000000 in
set_option maxHeartbeats 2000000 in
theorem rrNew_nil (n : Nat) (w : World) : Calls Tryz.prog 11 #[.int .i64 n] w fun e w' => ∃ c, e = .returned (.agg c) ∧ RDk w' c (newD n) (.slice none 0 0) ∧ Below w.heap.size w w' := by
  obtain ⟨z, hz⟩ : ∃ z, Tryz.zeroCells36.setIfInBounds 0 (.int .i64 (n : Int)) = z := ⟨_, rfl⟩
  have hR := newR w n
  rw [hz] at hR
  have hz6 := hR.size
  have hth : (w.alloc (.cells Tryz.zeroCells36 36)).there w.heap.size 0 z.size := there_ofr (heap_alloc_at w _) _ (by rw [hz6, zeroCr_size]; exact Nat.le_refl _)
  have hinf : (Tryz.prog.info? 36).map (·.size) = some z.size := by rw [hz6]; exact info66r
  have hone := hR.one
  have HR := Lib.hid hR
  clear hR
  go_enter Tryz.func11, Tryz.ntmps11
  go_wp2_with (first | (refine wpList_store_mid rfl 36 _ _ rfl _ _ z rfl rfl hth hinf hone ?_; simp only [Act.put]))
  have hld := load66r (World.rangeAt_setCells_same (w.alloc (.cells Tryz.zeroCells36 36)) w.heap.size 0 z.toList (by rw [Array.length_toList]; exact hth)) (by rw [Array.length_toList]; exact hz6)
  rw [Array.toArray_toList] at hld
  have hb : Below w.heap.size w ((w.alloc (.cells Tryz.zeroCells36 36)).setCells w.heap.size 0 z.toList) := below_setCellsr (Nat.le_refl _) _ _ ((Below.refl _ w).alloc (Nat.le_refl _) _)
  refine bodyPost_ret (v := .agg z) (by simp [results, Tryz.results11, asAddr, hld]) rfl ⟨z, rfl, HR.out.keep hb, hb⟩
theorem opD_new (room f : Nat) : opD (newD room) f = newD room := by
  unfold opD
  have h : wholeN ((newD room).F f) = 0 := by show wholeN [] = 0; decide +kernel
  rw [if_neg]
  rw [h]
  show ¬ 0 < ([] : List UInt8).length
  simp
theorem LRun.lk {w W : World} {q p : Nat} {D : Dk} {f e t : Int} (h : LRun w W q p D f e t) : LK (fun _ => False) w w W q p D f e t := by
  obtain ⟨Φ, h1, h2, h3, h4, h5, h6⟩ := h
  exact ⟨Φ, h1, h2, h3, h4, h5, h6, fun k hk => hk.elim⟩
/-- a log and the document's, at first -/
theorem LS.start {w W W' : World} {q p : Nat} {cl : Array Value} {D : Dk} {f : Nat} {t : Int} (hr : LRun w W q p D f ((D.F f).length : Nat) t) (hF : D.F f = []) (hb : Below W.heap.size W W') {b : Nat} (h0 : W.heap.size ≤ b) (h1 : b < W'.heap.size) (hR : RLg W' cl D f t) (hrow : ∀ g, ¬ rowAt cl g) : LS (fun k => k = b) w W' q p cl D f t :=
  ⟨(hr.lk.grow hb (fun k hk => hk.elim (fun h => (hrow k h).elim) (fun h => by subst h; exact ⟨h1, .inr h0⟩))), hR, ⟨[], by rw [hF]; rfl, by simp⟩⟩

set_option maxRecDepth 100000 in
set_option maxHeartbeats 4000000 in
theorem lawPlays_far (room file : Int) (oa : Option Addr) (cap : Nat) (l : List ActL) (w : World) (hv : ActsL w oa l) (hET : HasET w) (hl : l.length ≤ 9223372036854775807) (h : room < 1 ∨ 3000 < room ∨ fewL l 30 = false) :
    Calls Tryz.prog 3 #[.int .i64 room, .int .i64 file, .slice oa l.length cap] w fun e w' => e = .returned (.bool true) ∧ Below w.heap.size w w' := by
  have HF := Lib.hid (few_actsL oa cap l 30 w hv (by decide) (by decide) hl)
  have HW := Lib.hid (works_trueL w hET)
  clear hv hET
  generalize l.length = n at *
  by_cases h0 : room < 1
  · go_enter Tryz.func3, Tryz.ntmps3
    go_wp2_with (first | (go_at_call 6; refine HW.out.mono ?_; rintro e x3 ⟨rfl, hb⟩))
    go_ret
    exact ⟨rfl, hb⟩
  by_cases h1 : 3000 < room
  · go_enter Tryz.func3, Tryz.ntmps3
    go_wp2_with (first | (go_at_call 6; refine HW.out.mono ?_; rintro e x3 ⟨rfl, hb⟩))
    go_ret
    exact ⟨rfl, hb⟩
  · have hfw : fewL l 30 = false := by rcases h with h | h | h; exact absurd h h0; exact absurd h h1; exact h
    rw [hfw] at HF
    clear h hfw
    go_enter Tryz.func3, Tryz.ntmps3
    go_wp2_with (first | (go_at_call 5; refine HF.out.mono ?_; rintro e x2 ⟨rfl, rfl⟩) | (go_at_call 6; refine HW.out.mono ?_; rintro e x3 ⟨rfl, hb⟩))
    go_ret
    exact ⟨rfl, hb⟩
set_option maxRecDepth 100000 in
set_option maxHeartbeats 4000000 in
theorem lawPlays_bad (room : Nat) (file : Int) (oa : Option Addr) (cap : Nat) (l : List ActL) (w : World) (hv : ActsL w oa l) (hET : HasET w) (hl : l.length ≤ 9223372036854775807) (h0 : 1 ≤ room) (h1 : room ≤ 3000) (hfw : fewL l 30 = true) (hf : file < 0 ∨ 63 < file) :
    Calls Tryz.prog 3 #[.int .i64 room, .int .i64 file, .slice oa l.length cap] w fun e w' => e = .returned (.bool true) ∧ Below w.heap.size w w' := by
  have HF := Lib.hid (few_actsL oa cap l 30 w hv (by decide) (by decide) hl)
  rw [hfw] at HF
  have HN := Lib.hid (run_new room w h0 (by omega))
  have HO := Lib.hid (fun W p (h : Run w W p (newD room)) => lOpen_bad h hET file (by unfold badFile; omega))
  have HW := Lib.hid (fun W (hb : Below w.heap.size w W) => works_trueL W (hET.below hb hET.lt))
  clear hv hET hfw
  generalize l.length = n at *
  by_cases hneg : file < 0
  · go_enter Tryz.func3, Tryz.ntmps3
    go_wp2_with (first | (go_at_call 5; refine HF.out.mono ?_; rintro e x2 ⟨rfl, rfl⟩) | (go_at_call 7; refine HN.out.mono ?_; rintro e w2 ⟨p, rfl, hr2⟩; obtain ⟨_, _, hb2, _⟩ := id hr2; have HR2 := Lib.hid hr2; have HB2 := Lib.hid hb2; clear hr2 hb2) | (go_at_call 8; refine (HO.out _ p HR2.out).mono ?_; rintro e w3 ⟨rfl, hb3⟩; have HB3 := Lib.hid (HB2.out.trans (hb3.mono HB2.out.size)); clear hb3) | (go_at_call 9; refine (lnum10_any _ _).mono ?_; rintro e wx ⟨rfl, rfl⟩) | (go_at_call 6; refine (HW.out _ HB3.out).mono ?_; rintro e x3 ⟨rfl, hb⟩))
    go_ret
    exact ⟨rfl, HB3.out.trans (hb.mono HB3.out.size)⟩
  · have hpos : 63 < file := by omega
    go_enter Tryz.func3, Tryz.ntmps3
    go_wp2_with (first | (go_at_call 5; refine HF.out.mono ?_; rintro e x2 ⟨rfl, rfl⟩) | (go_at_call 7; refine HN.out.mono ?_; rintro e w2 ⟨p, rfl, hr2⟩; obtain ⟨_, _, hb2, _⟩ := id hr2; have HR2 := Lib.hid hr2; have HB2 := Lib.hid hb2; clear hr2 hb2) | (go_at_call 8; refine (HO.out _ p HR2.out).mono ?_; rintro e w3 ⟨rfl, hb3⟩; have HB3 := Lib.hid (HB2.out.trans (hb3.mono HB2.out.size)); clear hb3) | (go_at_call 9; refine (lnum10_any _ _).mono ?_; rintro e wx ⟨rfl, rfl⟩) | (go_at_call 6; refine (HW.out _ HB3.out).mono ?_; rintro e x3 ⟨rfl, hb⟩))
    go_ret
    exact ⟨rfl, HB3.out.trans (hb.mono HB3.out.size)⟩
end Go.Proofs.YtbhgcioeibhjeaaGreatDoor
namespace Go.Proofs.YtbhgcioeibhjeaaGreatDoor
open Go.RowKit

theorem yieldsIf_load_at {P : Program} {ops : Array Oper} {S : World → Prop} {op : Oper} {a : Act} (hw : Region.wanted op (yielded ops a.tmps) = true) (ty : TypeId) (x : Operand) (ho : op.op = .load ty x) (A : Addr) (hx : a.eval x = .pointer (some A)) (v : Value) (hS : ∀ w, S w → (loadVar ty A).run P w = .ok v w) : YieldsIf P ops S op v a :=
  .inl ⟨hw, fun w hw' => by
    unfold execOp
    simp only [ho, hx, Instr.loadAt, Instr.sureAddr, Sem.run_bind, Sem.run_pure, Result.andThen_ok, hS w hw']⟩
theorem infoLA : (Tryz.prog.info? 45).map (·.size) = some 4 := by kernel_rfl
theorem isAggLA (w : World) : (isAgg 45).run Tryz.prog w = .ok true w := by
  unfold isAgg
  rw [Sem.run_bind, run_underlying Tryz.underlying45 w]
  rfl
theorem actL_load (A : Addr) (wh kp tn : Int) (bs : Value) (w : World) (h0 : w.cell? A = some (.int .i64 wh)) (h1 : w.cell? ⟨A.block, A.off + 1, none⟩ = some (.int .i64 kp)) (h2 : w.cell? ⟨A.block, A.off + 2, none⟩ = some (.int .i64 tn)) (h3 : w.cell? ⟨A.block, A.off + 3, none⟩ = some bs) :
    (loadVar 45 A).run Tryz.prog w = .ok (.agg #[.int .i64 wh, .int .i64 kp, .int .i64 tn, bs]) w := by
  have hadd : ∀ j, j ≠ 0 → A.add j = ⟨A.block, A.off + j, none⟩ := fun j hj => by unfold Addr.add; rw [if_neg hj]
  have hl := run_loadCells_list (P := Tryz.prog) w A [.int .i64 wh, .int .i64 kp, .int .i64 tn, bs] (fun j v hv => by
    match j, hv with
    | 0, hv =>
      simp at hv; subst hv
      rw [show A.add 0 = A by unfold Addr.add; split <;> simp_all]
      exact h0
    | 1, hv => simp at hv; subst hv; rw [hadd 1 (by decide)]; exact h1
    | 2, hv => simp at hv; subst hv; rw [hadd 2 (by decide)]; exact h2
    | 3, hv => simp at hv; subst hv; rw [hadd 3 (by decide)]; exact h3
    | j + 4, hv => simp at hv)
  have hagg := isAggLA w
  have hi := infoLA
  cases hq : Tryz.prog.info? 45 with
  | none => simp [hq] at hi
  | some i =>
    have hs : i.size = 4 := by simpa [hq] using hi
    simp only [List.length_cons, List.length_nil, Nat.zero_add, Nat.reduceAdd] at hl
    simp [loadVar, Sem.run_bind, hagg, sizeOf, typeInfo, hq, hs, hl]
theorem LS.grow {Ξ Ξ' : Nat → Prop} {w W W' : World} {q p : Nat} {cl : Array Value} {D : Dk} {f : Nat} {t : Int} (h : LS Ξ w W q p cl D f t) (hb : Below W.heap.size W W') (hΞ : ∀ k, Ξ' k → k < W'.heap.size ∧ (Ξ k ∨ W.heap.size ≤ k)) : LS Ξ' w W' q p cl D f t :=
  ⟨h.run.grow hb (fun k hk => hk.elim (fun h0 => ⟨Nat.lt_of_lt_of_le (h.lt (.inl h0)) hb.size, .inl (.inl h0)⟩) (fun h0 => ⟨(hΞ k h0).1, (hΞ k h0).2.elim (fun h1 => .inl (.inr h1)) .inr⟩)), h.ref.keep hb, h.good⟩
/-- between two calls -/
structure LT (w W : World) (b q p : Nat) (cl : Array Value) (D : Dk) (f : Nat) (t : Int) : Prop where
  ls : LS (fun k => k = b) w W q p cl D f t
  box : LBox W b cl
  le : w.heap.size ≤ b

set_option maxRecDepth 1000000 in
set_option maxHeartbeats 8000000 in
theorem lawPlays_in (room file : Nat) (oa : Option Addr) (cap : Nat) (l : List ActL) (w : World) (hv : ActsL w oa l) (hET : HasET w) (h0 : 1 ≤ room) (h1 : room ≤ 3000) (hfw : fewL l 30 = true) (hf : file < 64) :
    Calls Tryz.prog 3 #[.int .i64 room, .int .i64 file, .slice oa l.length cap] w fun e w' => e = .returned (.bool true) ∧ Below w.heap.size w w' := by
  obtain ⟨hl, hs60⟩ := fewL_spec hfw
  have HF := Lib.hid (few_actsL oa cap l 30 w hv (by decide) (by decide) (by omega))
  rw [hfw] at HF
  have HV := Lib.hid hv
  have HE := Lib.hid hET
  have H60 := Lib.hid hs60
  have HN := Lib.hid (run_new room w h0 (by omega))
  have hfew0 : (newD room).L.length < 900 := by show 0 < 900; decide
  have HO := Lib.hid (fun W p (h : Run w W p (newD room)) => open_prog h hET hfew0 file hf)
  rw [opD_new] at HO
  obtain ⟨t0, ht0⟩ : ∃ t0 : Int, ((((newD room).F file).length - wholeN ((newD room).F file) : Nat) : Int) = t0 := ⟨_, rfl⟩
  have HRN := Lib.hid (fun V => rrNew_nil room V)
  have HRO := Lib.hid (fun V c (h : RDk V c (newD room) (.slice none 0 0)) (hi : (newD room).Inv) => rOpen_wholeE h hi file hf (by show wholeN [] = ([] : List UInt8).length; decide +kernel))
  have q0 : ¬ ((room : Int) < 1) := by omega
  have q1 : ¬ (3000 < (room : Int)) := by omega
  have q2 : ¬ ((file : Int) < 0) := by omega
  have q3 : ¬ (63 < (file : Int)) := by omega
  have huL := Tryz.underlying38
  have ht00 : t0 = 0 := by
    rw [← ht0]
    have : wholeN ((newD room).F file) = 0 := by show wholeN [] = 0; decide +kernel
    rw [this]
    rfl
  rw [ht0, ht00] at HO
  clear hv hET hfw hs60 hfew0 ht0 ht00
  go_enter Tryz.func3, Tryz.ntmps3
  go_upto_region 7 with (first
    | (go_at_call 5; refine HF.out.mono ?_; rintro e x2 ⟨rfl, rfl⟩)
    | (go_at_call 7; refine HN.out.mono ?_; rintro e w2 ⟨p, rfl, hr2⟩; have HR2 := Lib.hid hr2; clear hr2)
    | (go_at_call 8; refine (HO.out _ p HR2.out).mono ?_; rintro e w3 ⟨q, rfl, hr3⟩; have HR3 := Lib.hid hr3; clear hr3))
  have HI0 : Hid (newD room).Inv := Lib.hid (by obtain ⟨_, _, _, h⟩ := HR2.out; exact h)
  have HST : Hid (∀ w4 cl, Below w3.heap.size w3 w4 → RLg w4 cl (newD room) file 0 → (∀ g, ¬ rowAt cl g) → (w4.alloc (.cells Tryz.zeroCells38 38)).there w4.heap.size 0 cl.size ∧ (Tryz.prog.info? 38).map (·.size) = some cl.size ∧ cl.all (·.oneCell') = true ∧ ∃ w5, ((w4.alloc (.cells Tryz.zeroCells38 38)).setCells w4.heap.size 0 cl.toList) = w5 ∧ Hid (LT w w5 w4.heap.size q p cl (newD room) file 0)) := Lib.hid fun w4 cl hb h hrow => by
    have hL : LBox (w4.alloc (.cells Tryz.zeroCells38 38)) w4.heap.size Tryz.zeroCells38 := heap_alloc_at w4 _
    have hba : Below w4.heap.size w4 (w4.alloc (.cells Tryz.zeroCells38 38)) := (Below.refl _ w4).alloc (Nat.le_refl _) _
    have hbx := hL.store (h.size.trans zeroL_size.symm)
    have hb5 : Below w4.heap.size w4 ((w4.alloc (.cells Tryz.zeroCells38 38)).setCells w4.heap.size 0 cl.toList) := below_setCellsr (Nat.le_refl _) _ _ hba
    refine ⟨there_ofr hL _ (by rw [h.size, zeroL_size]; exact Nat.le_refl _), by rw [h.size]; exact info68, h.one, _, rfl, Lib.hid ⟨LS.start HR3.out rfl (hb.trans (hb5.mono hb.size)) hb.size (Array.getElem?_eq_some_iff.1 hbx).1 (h.keep hb5) hrow, hbx, ?_⟩⟩
    have := HR3.out.bel.size
    have := hb.size
    omega
  go_upto_region 8 with (first
    | (go_at_call 11; refine (HRN.out _).mono ?_; rintro e w4 ⟨c4, rfl, hr4, hb4⟩; have HR4 := Lib.hid hr4; have HB4 := Lib.hid hb4; clear hr4 hb4)
    | (go_at_call 10; refine (HRO.out _ c4 HR4.out HI0.out).mono ?_; rintro e w6 ⟨cl, rfl, hg6, hx6, hb6⟩; obtain ⟨ht7, hinf7, hone7, w7, hw7, H7⟩ := HST.out w6 cl (HB4.out.trans (hb6.mono HB4.out.size)) hg6 (fun g hg => by have h1 := (rowAt_ext hg6.size).2 hg; rw [hx6] at h1; obtain ⟨u, hu, hg⟩ := h1; rw [HR4.out.things] at hu; cases hu; cases hg); clear hb6 hg6 hx6)
    | (refine wpList_store_mid rfl 38 _ _ rfl _ _ cl rfl rfl ht7 hinf7 hone7 ?_; simp only [Act.put]))
  try rw [hw7]
  clear hw7 ht7 hinf7 hone7 HST HRN HRO HN HO HF HR3 HR4 HB4 HI0
  generalize w6.heap.size = b at *
  go_wp2_with (first | (go_at_call 9; refine (lnum10_any _ _).mono ?_; rintro e wx ⟨rfl, rfl⟩))
  go_loopw [9, 12] (fun g i W => ∃ (k q : Nat) (cl : Array Value) (D : Dk) (t : Int), g = .pointer (some ⟨q, 0, none⟩) ∧ i = .int .i64 k ∧ k ≤ l.length ∧ D.L.length ≤ k ∧ Hid (LT w W b q p cl D file t)) (fun _ i _ => l.length - (intOf i).toNat)
  case atStart => exact ⟨0, q, cl, newD room, 0, rfl, rfl, by omega, by show 0 ≤ 0; omega, H7⟩
  case round =>
    clear H7 HR2
    obtain ⟨k, q, cl, D, t, rfl, rfl, hk', hDL, HT⟩ := hrel
    have hinfL : (Tryz.prog.info? 38).map (·.size) = some cl.toList.length := by rw [Array.length_toList, HT.out.ls.ref.size]; exact info68
    by_cases hlt : k < l.length
    · obtain ⟨a, hoa, c0, c1, c2, c3, hbo, hkp, htn⟩ := HV.out k hlt
      have hl60 : l[k].l.length ≤ 60 := H60.out _ (List.getElem_mem hlt)
      generalize l[k] = v at *
      obtain ⟨wh, kp, tn, bs, bl⟩ := v
      dsimp only at c0 c1 c2 c3 hbo hkp htn hl60
      subst hoa
      have HC : Hid (∀ X, Below w.heap.size w X → X.cell? (a.add (k * 4)) = some (.int .i64 wh) ∧ X.cell? ⟨(a.add (k * 4)).block, (a.add (k * 4)).off + 1, none⟩ = some (.int .i64 kp) ∧ X.cell? ⟨(a.add (k * 4)).block, (a.add (k * 4)).off + 2, none⟩ = some (.int .i64 tn) ∧ X.cell? ⟨(a.add (k * 4)).block, (a.add (k * 4)).off + 3, none⟩ = some bs) := Lib.hid fun X hb => by
        have kk : ∀ {p : Addr} {v : Value}, w.cell? p = some v → X.cell? p = some v := fun hc => (hb.cell (World.block_lt_of_cell? w _ hc)).trans hc
        exact ⟨kk c0, kk c1, kk c2, kk c3⟩
      have H4 : Hid (∀ X, Below w.heap.size w X → (loadVar 45 (a.add (k * 4))).run Tryz.prog X = .ok (.agg #[.int .i64 wh, .int .i64 kp, .int .i64 tn, bs]) X) := Lib.hid fun X hb => by
        obtain ⟨y0, y1, y2, y3⟩ := HC.out X hb
        exact actL_load _ wh kp tn bs X y0 y1 y2 y3
      have HACT : Hid (∀ (Ξ : Nat → Prop) X, LS Ξ w X q p cl D file t → Calls Tryz.prog 12 #[.pointer (some ⟨q, 0, none⟩), .pointer (some ⟨p, 0, none⟩), .agg cl, .agg #[.int .i64 wh, .int .i64 kp, .int .i64 tn, bs]] X (ActPost Ξ w X p D file)) := Lib.hid fun Ξ X h => act_any10 h HE.out hf (by omega) wh kp tn hkp htn bs bl (hbo.keep h.run.bel (Nat.le_refl _)) hl60
      have hlt' : (k : Int) < l.length := by omega
      have hS13 : Below w.heap.size w wr.drew ∧ LBox wr.drew b cl := ⟨HT.out.ls.run.bel.trans (((Below.refl _ wr).drew).mono HT.out.ls.run.bel.size), HT.out.box.keep ((Below.refl _ wr).drew)⟩
      have hlsd := HT.out.ls.keep ((Below.refl _ wr).drew)
      clear c0 c1 c2 c3 hbo hkp htn hl60
      go_upto_region 13 with fail
      go_cut [13, 14, 15] from 76 to 87 (fun s13 s14 s15 wx => ∃ (q' : Nat) (cl' : Array Value) (D' : Dk) (t' : Int) (b14 : Nat), s13 = .pointer (some ⟨q', 0, none⟩) ∧ s14 = .pointer (some ⟨b14, 0, none⟩) ∧ s15 = .bool true ∧ Hid (LS (fun k => k = b) w wx q' p cl' D' file t' ∧ LBox wx b cl ∧ LBox wx b14 cl' ∧ D'.L.length ≤ D.L.length + 1 ∧ b ≠ b14))
      case first =>
        refine wp_region_held_drew (S := fun W => Below w.heap.size w W ∧ LBox W b cl) (by kernel_rfl) ?_ (fun hHeld => ?_)
        · exact hS13
        refine wpAnyH_take (i := 0) (oi := { dst := some 77, op := Go.Op.move (Go.Operand.tmp 9), type := 29, pos := "law.go:110", after := #[], guard := none }) (v := ?v0a) rfl (by kernel_rfl) (by kernel_rfl) (by kernel_rfl) (fun _ _ _ h => h) (Or.inl ⟨by rfl, ?hy0a⟩) hHeld ?rest0a
        case hy0a => (intro W hSw; (try dsimp only at hSw); go_simp; try with_reducible rfl)
        try simp only [Act.put, List.setIfInBounds_toArray, List.set_cons_zero, List.set_cons_succ]
        refine wpAnyH_take (i := 1) (oi := { dst := some 78, op := Go.Op.move (Go.Operand.tmp 7), type := 25, pos := "law.go:110", after := #[], guard := none }) (v := ?v1a) rfl (by kernel_rfl) (by kernel_rfl) (by kernel_rfl) (fun _ _ _ h => h) (Or.inl ⟨by rfl, ?hy1a⟩) hHeld ?rest1a
        case hy1a => (intro W hSw; (try dsimp only at hSw); go_simp; try with_reducible rfl)
        try simp only [Act.put, List.setIfInBounds_toArray, List.set_cons_zero, List.set_cons_succ]
        refine wpAnyH_take (i := 2) (oi := { dst := some 79, op := Go.Op.load 38 (Go.Operand.tmp 11), type := 38, pos := "law.go:110", after := #[], guard := none }) (v := _) rfl (by kernel_rfl) (by kernel_rfl) (by kernel_rfl) (fun _ _ _ h => h) (yieldsIf_load_mid (by rfl) 38 _ rfl _ _ rfl _ _ (fun W hSw => hSw.2.range) huL rfl hinfL) hHeld ?_
        try simp only [Array.toArray_toList, Act.put, List.setIfInBounds_toArray, List.set_cons_zero, List.set_cons_succ]
        refine wpAnyH_take (i := 3) (oi := { dst := some 80, op := Go.Op.move (Go.Operand.tmp 2), type := 22, pos := "law.go:110", after := #[], guard := none }) (v := ?v3a) rfl (by kernel_rfl) (by kernel_rfl) (by kernel_rfl) (fun _ _ _ h => h) (Or.inl ⟨by rfl, ?hy3a⟩) hHeld ?rest3a
        case hy3a => (intro W hSw; (try dsimp only at hSw); go_simp; try with_reducible rfl)
        try simp only [Act.put, List.setIfInBounds_toArray, List.set_cons_zero, List.set_cons_succ]
        refine wpAnyH_take (i := 4) (oi := { dst := some 81, op := Go.Op.move (Go.Operand.tmp 12), type := 3, pos := "law.go:110", after := #[], guard := none }) (v := ?v4a) rfl (by kernel_rfl) (by kernel_rfl) (by kernel_rfl) (fun _ _ _ h => h) (Or.inl ⟨by rfl, ?hy4a⟩) hHeld ?rest4a
        case hy4a => (intro W hSw; (try dsimp only at hSw); go_simp; try with_reducible rfl)
        try simp only [Act.put, List.setIfInBounds_toArray, List.set_cons_zero, List.set_cons_succ]
        refine wpAnyH_take (i := 5) (oi := { dst := some 82, op := Go.Op.indexAddr 22 (Go.Operand.tmp 80) (Go.Operand.tmp 81), type := 0, pos := "law.go:110", after := #[{ on := 3, ground := Go.Ground.data }, { on := 4, ground := Go.Ground.data }], guard := none }) (v := ?v5a) rfl (by kernel_rfl) (by kernel_rfl) (by kernel_rfl) (fun _ _ _ h => h) (Or.inl ⟨by rfl, ?hy5a⟩) hHeld ?rest5a
        case hy5a => (intro W hSw; (try dsimp only at hSw); go_simp; try with_reducible rfl)
        try simp only [Act.put, List.setIfInBounds_toArray, List.set_cons_zero, List.set_cons_succ]
        refine wpAnyH_take (i := 6) (oi := { dst := some 83, op := Go.Op.load 45 (Go.Operand.tmp 82), type := 45, pos := "law.go:110", after := #[{ on := 5, ground := Go.Ground.data }], guard := none }) (v := (.agg #[.int .i64 wh, .int .i64 kp, .int .i64 tn, bs])) rfl (by kernel_rfl) (by kernel_rfl) (by kernel_rfl) (fun _ _ _ h => h) (yieldsIf_load_at (by rfl) 45 _ rfl (a.add (k * 4)) rfl (.agg #[.int .i64 wh, .int .i64 kp, .int .i64 tn, bs]) (fun W hSw => H4.out W hSw.1)) hHeld ?_
        try simp only [Act.put, List.setIfInBounds_toArray, List.set_cons_zero, List.set_cons_succ]
        refine wpAnyH_ready (rs := [7, 12]) (by kernel_rfl) (by simp) ?_
        refine (AllReadyH.cons (o := { dst := some 84, op := Go.Op.call { callee := Go.Callee.value (Go.Operand.func 12), args := #[Go.Operand.tmp 77, Go.Operand.tmp 78, Go.Operand.tmp 79, Go.Operand.tmp 83], argTypes := #[29, 25, 38, 45] }, type := 41, pos := "law.go:110", after := #[{ on := 0, ground := Go.Ground.data }, { on := 1, ground := Go.Ground.data }, { on := 2, ground := Go.Ground.data }, { on := 6, ground := Go.Ground.data }], guard := none }) rfl (fun K hK => ?_) (AllReadyH.cons (o := { dst := some 14, op := Go.Op.alloc 38, type := 0, pos := "law.go:110", after := #[], guard := none }) rfl (fun K hK => ?_) AllReadyH.nil))
        · go_simp
          go_at_call 12
          refine (HACT.out _ _ hlsd).mono ?_
          rintro e w4 ⟨q', cl', D', t', rfl, hls4, hlen4, hfr4⟩
          refine hK.out _ _ (⟨hls4.run.bel, (hfr4 b rfl).trans hHeld.2⟩) (fun hHeld' => ?_)
          clear hK K hHeld
          have hHeld := hHeld'
          clear hHeld'
          try simp only [Act.put, List.setIfInBounds_toArray, List.set_cons_zero, List.set_cons_succ]
          refine wpAnyH_take (i := 8) (oi := { dst := some 76, op := Go.Op.move (Go.Operand.tmp 84), type := 41, pos := "law.go:110", after := #[{ on := 7, ground := Go.Ground.data }], guard := none }) (v := ?v8ax) rfl (by kernel_rfl) (by kernel_rfl) (by kernel_rfl) (fun _ _ _ h => h) (Or.inl ⟨by rfl, ?hy8ax⟩) hHeld ?rest8ax
          case hy8ax => (intro W hSw; (try dsimp only at hSw); go_simp; try with_reducible rfl)
          try simp only [Act.put, List.setIfInBounds_toArray, List.set_cons_zero, List.set_cons_succ]
          refine wpAnyH_take (i := 9) (oi := { dst := some 85, op := Go.Op.extract (Go.Operand.tmp 76) 0, type := 29, pos := "law.go:110", after := #[{ on := 8, ground := Go.Ground.data }], guard := none }) (v := ?v9ax) rfl (by kernel_rfl) (by kernel_rfl) (by kernel_rfl) (fun _ _ _ h => h) (Or.inl ⟨by rfl, ?hy9ax⟩) hHeld ?rest9ax
          case hy9ax => (intro W hSw; (try dsimp only at hSw); go_simp; try with_reducible rfl)
          try simp only [Act.put, List.setIfInBounds_toArray, List.set_cons_zero, List.set_cons_succ]
          refine wpAnyH_take (i := 10) (oi := { dst := some 86, op := Go.Op.extract (Go.Operand.tmp 76) 1, type := 38, pos := "law.go:110", after := #[{ on := 8, ground := Go.Ground.data }, { on := 13, ground := Go.Ground.gcOnly Go.Departure.lateStores }], guard := none }) (v := ?v10ax) rfl (by kernel_rfl) (by kernel_rfl) (by kernel_rfl) (fun _ _ _ h => h) (Or.inl ⟨by rfl, ?hy10ax⟩) hHeld ?rest10ax
          case hy10ax => (intro W hSw; (try dsimp only at hSw); go_simp; try with_reducible rfl)
          try simp only [Act.put, List.setIfInBounds_toArray, List.set_cons_zero, List.set_cons_succ]
          refine wpAnyH_take (i := 11) (oi := { dst := some 87, op := Go.Op.extract (Go.Operand.tmp 76) 2, type := 4, pos := "law.go:110", after := #[{ on := 8, ground := Go.Ground.data }, { on := 14, ground := Go.Ground.gcOnly Go.Departure.lateStores }], guard := none }) (v := ?v11ax) rfl (by kernel_rfl) (by kernel_rfl) (by kernel_rfl) (fun _ _ _ h => h) (Or.inl ⟨by rfl, ?hy11ax⟩) hHeld ?rest11ax
          case hy11ax => (intro W hSw; (try dsimp only at hSw); go_simp; try with_reducible rfl)
          try simp only [Act.put, List.setIfInBounds_toArray, List.set_cons_zero, List.set_cons_succ]
          refine wpAnyH_ready (rs := [12]) (by kernel_rfl) (by simp) ?_
          refine AllReadyH.cons (o := { dst := some 14, op := Go.Op.alloc 38, type := 0, pos := "law.go:110", after := #[], guard := none }) rfl (fun K hK => ?_) AllReadyH.nil
          go_simp
          refine hK.out _ _ (⟨hHeld.1.alloc hHeld.1.size _, hHeld.2.keep ((Below.refl _ _).alloc (Nat.le_refl _) _)⟩) (fun hHeld' => ?_)
          clear hK K hHeld
          have hHeld := hHeld'
          clear hHeld'
          try simp only [Act.put, List.setIfInBounds_toArray, List.set_cons_zero, List.set_cons_succ]
          have hbx : LBox (w4.alloc (.cells Tryz.zeroCells38 38)) w4.heap.size Tryz.zeroCells38 := heap_alloc_at w4 _
          have hne : b ≠ w4.heap.size := by have := hls4.lt (k := b) (.inr rfl); omega
          refine wpAnyH_take (i := 13) (oi := { dst := some 13, op := Go.Op.assign (Go.Operand.tmp 85), type := 29, pos := "law.go:110", after := #[{ on := 9, ground := Go.Ground.data }, { on := 7, ground := Go.Ground.chain }, { on := 0, ground := Go.Ground.phase }, { on := 1, ground := Go.Ground.phase }, { on := 2, ground := Go.Ground.phase }, { on := 3, ground := Go.Ground.phase }, { on := 4, ground := Go.Ground.phase }, { on := 5, ground := Go.Ground.phase }, { on := 6, ground := Go.Ground.phase }, { on := 7, ground := Go.Ground.phase }, { on := 8, ground := Go.Ground.phase }, { on := 9, ground := Go.Ground.phase }, { on := 10, ground := Go.Ground.textOnly Go.Departure.lateStores }, { on := 11, ground := Go.Ground.textOnly Go.Departure.lateStores }, { on := 12, ground := Go.Ground.phase }], guard := none }) (v := ?v13ax) rfl (by kernel_rfl) (by kernel_rfl) (by kernel_rfl) (fun _ _ _ h => h) (Or.inl ⟨by rfl, ?hy13ax⟩) hHeld ?rest13ax
          case hy13ax => (intro W hSw; (try dsimp only at hSw); go_simp; try with_reducible rfl)
          try simp only [Act.put, List.setIfInBounds_toArray, List.set_cons_zero, List.set_cons_succ]
          refine wpAnyH_ready (rs := [14]) (by kernel_rfl) (by simp) ?_
          refine AllReadyH.cons (o := { dst := none, op := Go.Op.store 38 (Go.Operand.tmp 14) (Go.Operand.tmp 86), type := 0, pos := "law.go:110", after := #[{ on := 12, ground := Go.Ground.data }, { on := 10, ground := Go.Ground.data }, { on := 13, ground := Go.Ground.chain }, { on := 0, ground := Go.Ground.phase }, { on := 1, ground := Go.Ground.phase }, { on := 2, ground := Go.Ground.phase }, { on := 3, ground := Go.Ground.phase }, { on := 4, ground := Go.Ground.phase }, { on := 5, ground := Go.Ground.phase }, { on := 6, ground := Go.Ground.phase }, { on := 7, ground := Go.Ground.phase }, { on := 8, ground := Go.Ground.phase }, { on := 9, ground := Go.Ground.phase }, { on := 10, ground := Go.Ground.phase }, { on := 11, ground := Go.Ground.textOnly Go.Departure.lateStores }, { on := 12, ground := Go.Ground.phase }, { on := 13, ground := Go.Ground.phase }], guard := none }) rfl (fun K hK => ?_) AllReadyH.nil
          rw [if_pos (by rfl)]
          refine wp_store_mid 38 _ _ rfl _ _ cl' rfl rfl (there_ofr hbx _ (by rw [hls4.ref.size, zeroL_size]; exact Nat.le_refl _)) (by rw [hls4.ref.size]; exact info68) hls4.ref.one ?_
          refine hK.out _ _ (⟨below_setCellsr hls4.run.bel.size _ _ hHeld.1, hHeld.2.far hne⟩) (fun hHeld' => ?_)
          clear hK K hHeld
          have hHeld := hHeld'
          clear hHeld'
          try simp only [Act.put, List.setIfInBounds_toArray, List.set_cons_zero, List.set_cons_succ]
          refine wpAnyH_take (i := 15) (oi := { dst := some 15, op := Go.Op.assign (Go.Operand.tmp 87), type := 4, pos := "law.go:110", after := #[{ on := 11, ground := Go.Ground.data }, { on := 14, ground := Go.Ground.chain }, { on := 0, ground := Go.Ground.phase }, { on := 1, ground := Go.Ground.phase }, { on := 2, ground := Go.Ground.phase }, { on := 3, ground := Go.Ground.phase }, { on := 4, ground := Go.Ground.phase }, { on := 5, ground := Go.Ground.phase }, { on := 6, ground := Go.Ground.phase }, { on := 7, ground := Go.Ground.phase }, { on := 8, ground := Go.Ground.phase }, { on := 9, ground := Go.Ground.phase }, { on := 10, ground := Go.Ground.phase }, { on := 11, ground := Go.Ground.phase }, { on := 12, ground := Go.Ground.phase }, { on := 13, ground := Go.Ground.phase }, { on := 14, ground := Go.Ground.phase }], guard := none }) (v := ?v15ax) rfl (by kernel_rfl) (by kernel_rfl) (by kernel_rfl) (fun _ _ _ h => h) (Or.inl ⟨by rfl, ?hy15ax⟩) hHeld ?rest15ax
          case hy15ax => (intro W hSw; (try dsimp only at hSw); go_simp; try with_reducible rfl)
          try simp only [Act.put, List.setIfInBounds_toArray, List.set_cons_zero, List.set_cons_succ]
          refine wpAnyH_done (by kernel_rfl) ?_ _
          try dsimp only
          try simp only [Act.put, List.setIfInBounds_toArray, List.set_cons_zero, List.set_cons_succ]
          go_wp2_with fail
          go_meet
          exact ⟨q', cl', D', t', _, rfl, rfl, rfl, Lib.hid ⟨hls4.keep (below_setCellsr (Nat.le_refl _) _ _ ((Below.refl _ w4).alloc (Nat.le_refl _) _)), hHeld.2, hbx.store (hls4.ref.size.trans zeroL_size.symm), hlen4, hne⟩⟩
        · go_simp
          refine hK.out _ _ (⟨hHeld.1.alloc hHeld.1.size _, hHeld.2.keep ((Below.refl _ _).alloc (Nat.le_refl _) _)⟩) (fun hHeld' => ?_)
          clear hK K hHeld
          have hHeld := hHeld'
          clear hHeld'
          try simp only [Act.put, List.setIfInBounds_toArray, List.set_cons_zero, List.set_cons_succ]
          have hbx : LBox (wr.drew.alloc (.cells Tryz.zeroCells38 38)) wr.drew.heap.size Tryz.zeroCells38 := heap_alloc_at wr.drew _
          have hne : b ≠ wr.drew.heap.size := by have := hlsd.lt (k := b) (.inr rfl); omega
          have hlsB : LS (fun k => k = b ∨ k = wr.drew.heap.size) w (wr.drew.alloc (.cells Tryz.zeroCells38 38)) q p cl D file t := hlsd.grow ((Below.refl _ _).alloc (Nat.le_refl _) _) (fun k hk => hk.elim (fun h => ⟨by subst h; rw [World.size_alloc]; have := hlsd.lt (k := k) (.inr rfl); omega, .inl h⟩) (fun h => ⟨by subst h; simp, .inr (Nat.le_of_eq h.symm)⟩))
          refine wpAnyH_ready (rs := [7]) (by kernel_rfl) (by simp) ?_
          refine AllReadyH.cons (o := { dst := some 84, op := Go.Op.call { callee := Go.Callee.value (Go.Operand.func 12), args := #[Go.Operand.tmp 77, Go.Operand.tmp 78, Go.Operand.tmp 79, Go.Operand.tmp 83], argTypes := #[29, 25, 38, 45] }, type := 41, pos := "law.go:110", after := #[{ on := 0, ground := Go.Ground.data }, { on := 1, ground := Go.Ground.data }, { on := 2, ground := Go.Ground.data }, { on := 6, ground := Go.Ground.data }], guard := none }) rfl (fun K hK => ?_) AllReadyH.nil
          go_simp
          go_at_call 12
          refine (HACT.out _ _ hlsB).mono ?_
          rintro e w4 ⟨q', cl', D', t', rfl, hls4, hlen4, hfr4⟩
          refine hK.out _ _ (⟨hls4.run.bel, (hfr4 b (.inl rfl)).trans hHeld.2⟩) (fun hHeld' => ?_)
          clear hK K hHeld
          have hHeld := hHeld'
          clear hHeld'
          try simp only [Act.put, List.setIfInBounds_toArray, List.set_cons_zero, List.set_cons_succ]
          replace hbx : LBox w4 wr.drew.heap.size Tryz.zeroCells38 := (hfr4 _ (.inr rfl)).trans hbx
          refine wpAnyH_take (i := 8) (oi := { dst := some 76, op := Go.Op.move (Go.Operand.tmp 84), type := 41, pos := "law.go:110", after := #[{ on := 7, ground := Go.Ground.data }], guard := none }) (v := ?v8ay) rfl (by kernel_rfl) (by kernel_rfl) (by kernel_rfl) (fun _ _ _ h => h) (Or.inl ⟨by rfl, ?hy8ay⟩) hHeld ?rest8ay
          case hy8ay => (intro W hSw; (try dsimp only at hSw); go_simp; try with_reducible rfl)
          try simp only [Act.put, List.setIfInBounds_toArray, List.set_cons_zero, List.set_cons_succ]
          refine wpAnyH_take (i := 9) (oi := { dst := some 85, op := Go.Op.extract (Go.Operand.tmp 76) 0, type := 29, pos := "law.go:110", after := #[{ on := 8, ground := Go.Ground.data }], guard := none }) (v := ?v9ay) rfl (by kernel_rfl) (by kernel_rfl) (by kernel_rfl) (fun _ _ _ h => h) (Or.inl ⟨by rfl, ?hy9ay⟩) hHeld ?rest9ay
          case hy9ay => (intro W hSw; (try dsimp only at hSw); go_simp; try with_reducible rfl)
          try simp only [Act.put, List.setIfInBounds_toArray, List.set_cons_zero, List.set_cons_succ]
          refine wpAnyH_take (i := 10) (oi := { dst := some 86, op := Go.Op.extract (Go.Operand.tmp 76) 1, type := 38, pos := "law.go:110", after := #[{ on := 8, ground := Go.Ground.data }, { on := 13, ground := Go.Ground.gcOnly Go.Departure.lateStores }], guard := none }) (v := ?v10ay) rfl (by kernel_rfl) (by kernel_rfl) (by kernel_rfl) (fun _ _ _ h => h) (Or.inl ⟨by rfl, ?hy10ay⟩) hHeld ?rest10ay
          case hy10ay => (intro W hSw; (try dsimp only at hSw); go_simp; try with_reducible rfl)
          try simp only [Act.put, List.setIfInBounds_toArray, List.set_cons_zero, List.set_cons_succ]
          refine wpAnyH_take (i := 11) (oi := { dst := some 87, op := Go.Op.extract (Go.Operand.tmp 76) 2, type := 4, pos := "law.go:110", after := #[{ on := 8, ground := Go.Ground.data }, { on := 14, ground := Go.Ground.gcOnly Go.Departure.lateStores }], guard := none }) (v := ?v11ay) rfl (by kernel_rfl) (by kernel_rfl) (by kernel_rfl) (fun _ _ _ h => h) (Or.inl ⟨by rfl, ?hy11ay⟩) hHeld ?rest11ay
          case hy11ay => (intro W hSw; (try dsimp only at hSw); go_simp; try with_reducible rfl)
          try simp only [Act.put, List.setIfInBounds_toArray, List.set_cons_zero, List.set_cons_succ]
          refine wpAnyH_take (i := 13) (oi := { dst := some 13, op := Go.Op.assign (Go.Operand.tmp 85), type := 29, pos := "law.go:110", after := #[{ on := 9, ground := Go.Ground.data }, { on := 7, ground := Go.Ground.chain }, { on := 0, ground := Go.Ground.phase }, { on := 1, ground := Go.Ground.phase }, { on := 2, ground := Go.Ground.phase }, { on := 3, ground := Go.Ground.phase }, { on := 4, ground := Go.Ground.phase }, { on := 5, ground := Go.Ground.phase }, { on := 6, ground := Go.Ground.phase }, { on := 7, ground := Go.Ground.phase }, { on := 8, ground := Go.Ground.phase }, { on := 9, ground := Go.Ground.phase }, { on := 10, ground := Go.Ground.textOnly Go.Departure.lateStores }, { on := 11, ground := Go.Ground.textOnly Go.Departure.lateStores }, { on := 12, ground := Go.Ground.phase }], guard := none }) (v := ?v13ay) rfl (by kernel_rfl) (by kernel_rfl) (by kernel_rfl) (fun _ _ _ h => h) (Or.inl ⟨by rfl, ?hy13ay⟩) hHeld ?rest13ay
          case hy13ay => (intro W hSw; (try dsimp only at hSw); go_simp; try with_reducible rfl)
          try simp only [Act.put, List.setIfInBounds_toArray, List.set_cons_zero, List.set_cons_succ]
          refine wpAnyH_ready (rs := [14]) (by kernel_rfl) (by simp) ?_
          refine AllReadyH.cons (o := { dst := none, op := Go.Op.store 38 (Go.Operand.tmp 14) (Go.Operand.tmp 86), type := 0, pos := "law.go:110", after := #[{ on := 12, ground := Go.Ground.data }, { on := 10, ground := Go.Ground.data }, { on := 13, ground := Go.Ground.chain }, { on := 0, ground := Go.Ground.phase }, { on := 1, ground := Go.Ground.phase }, { on := 2, ground := Go.Ground.phase }, { on := 3, ground := Go.Ground.phase }, { on := 4, ground := Go.Ground.phase }, { on := 5, ground := Go.Ground.phase }, { on := 6, ground := Go.Ground.phase }, { on := 7, ground := Go.Ground.phase }, { on := 8, ground := Go.Ground.phase }, { on := 9, ground := Go.Ground.phase }, { on := 10, ground := Go.Ground.phase }, { on := 11, ground := Go.Ground.textOnly Go.Departure.lateStores }, { on := 12, ground := Go.Ground.phase }, { on := 13, ground := Go.Ground.phase }], guard := none }) rfl (fun K hK => ?_) AllReadyH.nil
          rw [if_pos (by rfl)]
          refine wp_store_mid 38 _ _ rfl _ _ cl' rfl rfl (there_ofr hbx _ (by rw [hls4.ref.size, zeroL_size]; exact Nat.le_refl _)) (by rw [hls4.ref.size]; exact info68) hls4.ref.one ?_
          refine hK.out _ _ (⟨below_setCellsr hlsd.run.bel.size _ _ hHeld.1, hHeld.2.far hne⟩) (fun hHeld' => ?_)
          clear hK K hHeld
          have hHeld := hHeld'
          clear hHeld'
          try simp only [Act.put, List.setIfInBounds_toArray, List.set_cons_zero, List.set_cons_succ]
          refine wpAnyH_take (i := 15) (oi := { dst := some 15, op := Go.Op.assign (Go.Operand.tmp 87), type := 4, pos := "law.go:110", after := #[{ on := 11, ground := Go.Ground.data }, { on := 14, ground := Go.Ground.chain }, { on := 0, ground := Go.Ground.phase }, { on := 1, ground := Go.Ground.phase }, { on := 2, ground := Go.Ground.phase }, { on := 3, ground := Go.Ground.phase }, { on := 4, ground := Go.Ground.phase }, { on := 5, ground := Go.Ground.phase }, { on := 6, ground := Go.Ground.phase }, { on := 7, ground := Go.Ground.phase }, { on := 8, ground := Go.Ground.phase }, { on := 9, ground := Go.Ground.phase }, { on := 10, ground := Go.Ground.phase }, { on := 11, ground := Go.Ground.phase }, { on := 12, ground := Go.Ground.phase }, { on := 13, ground := Go.Ground.phase }, { on := 14, ground := Go.Ground.phase }], guard := none }) (v := ?v15ay) rfl (by kernel_rfl) (by kernel_rfl) (by kernel_rfl) (fun _ _ _ h => h) (Or.inl ⟨by rfl, ?hy15ay⟩) hHeld ?rest15ay
          case hy15ay => (intro W hSw; (try dsimp only at hSw); go_simp; try with_reducible rfl)
          try simp only [Act.put, List.setIfInBounds_toArray, List.set_cons_zero, List.set_cons_succ]
          refine wpAnyH_done (by kernel_rfl) ?_ _
          try dsimp only
          try simp only [Act.put, List.setIfInBounds_toArray, List.set_cons_zero, List.set_cons_succ]
          go_wp2_with fail
          go_meet
          exact ⟨q', cl', D', t', _, rfl, rfl, rfl, Lib.hid ⟨LS.of hls4.run hls4.ref hls4.good (fun g hg => hg.imp id .inl) (b := wr.drew.heap.size) (.inr (.inr rfl)) hlsd.run.bel.size hbx cl', hHeld.2, hbx.store (hls4.ref.size.trans zeroL_size.symm), hlen4, hne⟩⟩
      case rest =>
        obtain ⟨q', cl', D', t', b14, rfl, rfl, rfl, HX⟩ := hcut
        clear hS13 hlsd HACT hinfL H4
        have hS14 : wc.drew.rangeAt b14 0 cl'.toList ∧ wc.drew.there b 0 cl'.size := ⟨(HX.out.2.2.1.keep ((Below.refl _ wc).drew)).range, there_ofr (HX.out.2.1.keep ((Below.refl _ wc).drew)) _ (by rw [HX.out.1.ref.size, HT.out.ls.ref.size]; exact Nat.le_refl _)⟩
        have hinfL' : (Tryz.prog.info? 38).map (·.size) = some cl'.toList.length := by rw [Array.length_toList, HX.out.1.ref.size]; exact info68
        have hinfs : (Tryz.prog.info? 38).map (·.size) = some cl'.size := by rw [HX.out.1.ref.size]; exact info68
        have hone := HX.out.1.ref.one
        have hneb := HX.out.2.2.2.2
        go_upto_region 14 with fail
        -- BEGIN hand_lpB
        refine wp_region_held_drew (S := fun W => W.rangeAt b14 0 cl'.toList ∧ W.there b 0 cl'.size) (by kernel_rfl) ?_ (fun hHeld => ?_)
        · exact hS14
        refine wpAnyH_take (i := 0) (oi := { dst := some 88, op := Go.Op.move (Go.Operand.tmp 13), type := 29, pos := "law.go:111", after := #[], guard := none }) (v := ?v0b) rfl (by kernel_rfl) (by kernel_rfl) (by kernel_rfl) (fun _ _ _ h => h) (Or.inl ⟨by rfl, ?hy0b⟩) hHeld ?rest0b
        case hy0b => (intro W hSw; (try dsimp only at hSw); go_simp; try with_reducible rfl)
        try simp only [Act.put, List.setIfInBounds_toArray, List.set_cons_zero, List.set_cons_succ]
        refine wpAnyH_take (i := 1) (oi := { dst := some 89, op := Go.Op.load 38 (Go.Operand.tmp 14), type := 38, pos := "law.go:111", after := #[{ on := 2, ground := Go.Ground.gcOnly Go.Departure.lateStores }], guard := none }) (v := _) rfl (by kernel_rfl) (by kernel_rfl) (by kernel_rfl) (fun _ _ _ h => h) (yieldsIf_load_mid (by rfl) 38 _ rfl _ _ rfl _ _ (fun W hSw => hSw.1) huL rfl hinfL') hHeld ?_
        try simp only [Array.toArray_toList, Act.put, List.setIfInBounds_toArray, List.set_cons_zero, List.set_cons_succ]
        refine wpAnyH_take (i := 2) (oi := { dst := some 9, op := Go.Op.assign (Go.Operand.tmp 88), type := 29, pos := "law.go:111", after := #[{ on := 0, ground := Go.Ground.data }, { on := 0, ground := Go.Ground.phase }, { on := 1, ground := Go.Ground.textOnly Go.Departure.lateStores }], guard := none }) (v := ?v2b) rfl (by kernel_rfl) (by kernel_rfl) (by kernel_rfl) (fun _ _ _ h => h) (Or.inl ⟨by rfl, ?hy2b⟩) hHeld ?rest2b
        case hy2b => (intro W hSw; (try dsimp only at hSw); go_simp; try with_reducible rfl)
        try simp only [Act.put, List.setIfInBounds_toArray, List.set_cons_zero, List.set_cons_succ]
        refine wpAnyH_ready (rs := [3]) (by kernel_rfl) (by simp) ?_
        refine AllReadyH.cons (o := { dst := none, op := Go.Op.store 38 (Go.Operand.tmp 11) (Go.Operand.tmp 89), type := 0, pos := "law.go:111", after := #[{ on := 1, ground := Go.Ground.data }, { on := 2, ground := Go.Ground.chain }, { on := 0, ground := Go.Ground.phase }, { on := 1, ground := Go.Ground.phase }, { on := 2, ground := Go.Ground.phase }], guard := none }) rfl (fun K hK => ?_) AllReadyH.nil
        rw [if_pos (by rfl)]
        refine wp_store_mid 38 _ _ rfl _ _ cl' rfl rfl hHeld.2 hinfs hone ?_
        refine hK.out _ _ (⟨World.rangeAt_setCells_apart hHeld.1 _ _ _ (.inl hneb.symm), World.there_setCells hHeld.2 _ _ _⟩) (fun hHeld' => ?_)
        clear hK K hHeld
        have hHeld := hHeld'
        clear hHeld'
        try simp only [Act.put, List.setIfInBounds_toArray, List.set_cons_zero, List.set_cons_succ]
        refine wpAnyH_done (by kernel_rfl) ?_ _
        try dsimp only
        try simp only [Act.put, List.setIfInBounds_toArray, List.set_cons_zero, List.set_cons_succ]
        -- END hand_lpB
        obtain ⟨w5, hw5⟩ : ∃ w5, wc.drew.setCells b 0 cl'.toList = w5 := ⟨_, rfl⟩
        have HT5 : Hid (LT w w5 b q' p cl' D' file t') := Lib.hid (by
          rw [← hw5]
          have hd : Below wc.heap.size wc wc.drew := (Below.refl _ wc).drew
          have h1 := HX.out.1.keep hd
          exact ⟨LS.of h1.run h1.ref h1.good (fun g hg => hg) (b := b) (.inr rfl) HT.out.le (HX.out.2.1.keep hd) cl', (HX.out.2.1.keep hd).store (by rw [h1.ref.size, HT.out.ls.ref.size]), HT.out.le⟩)
        have hDL5 : D'.L.length ≤ k + 1 := by have := HX.out.2.2.2.1; omega
        have HB5 := Lib.hid HT5.out.box
        have HIS := Lib.hid (fun X (hb : Below w5.heap.size w5 X) i0 many => is_ls (HT5.out.ls.keep hb) hf i0 many)
        have HC1 : Hid (∀ X, Below w5.heap.size w5 X → X.cell? ⟨(a.add (k * 4)).block, (a.add (k * 4)).off + 1, none⟩ = some (.int .i64 kp)) := Lib.hid fun X hb => (HC.out X (HT5.out.ls.run.bel.trans (hb.mono HT5.out.ls.run.bel.size))).2.1
        rw [hw5]
        clear hS14 hinfs hone hneb HX hw5 hHeld HT
        by_cases hm : (k : Int).tmod 3 = 2
        · go_upto_region 15 with fail
          -- BEGIN hand_lpC
          refine wp_region_held_drew (S := fun W => Below w5.heap.size w5 W) (by kernel_rfl) ?_ (fun hHeld => ?_)
          · exact (Below.refl _ w5).drew
          refine wpAnyH_take (i := 0) (oi := { dst := some 90, op := Go.Op.move (Go.Operand.tmp 15), type := 4, pos := "law.go:112", after := #[], guard := none }) (v := ?v0c) rfl (by kernel_rfl) (by kernel_rfl) (by kernel_rfl) (fun _ _ _ h => h) (Or.inl ⟨by rfl, ?hy0c⟩) hHeld ?rest0c
          case hy0c => (intro W hSw; (try dsimp only at hSw); go_simp; try with_reducible rfl)
          try simp only [Act.put, List.setIfInBounds_toArray, List.set_cons_zero, List.set_cons_succ]
          refine wpAnyH_take (i := 1) (oi := { dst := some 91, op := Go.Op.unOp Go.UnOp.not 4 (Go.Operand.tmp 90), type := 4, pos := "law.go:112", after := #[{ on := 0, ground := Go.Ground.data }], guard := none }) (v := .bool false) rfl (by kernel_rfl) (by kernel_rfl) (by kernel_rfl) (fun _ _ _ h => h) (Or.inl ⟨by rfl, ?hy1c⟩) hHeld ?rest1c
          case hy1c => (intro W hSw; (try dsimp only at hSw); go_simp; try with_reducible rfl)
          try simp only [Act.put, List.setIfInBounds_toArray, List.set_cons_zero, List.set_cons_succ]
          refine wpAnyH_take (i := 2) (oi := { dst := some 92, op := Go.Op.move (Go.Operand.tmp 91), type := 4, pos := "law.go:112", after := #[{ on := 1, ground := Go.Ground.data }], guard := none }) (v := ?v2c) rfl (by kernel_rfl) (by kernel_rfl) (by kernel_rfl) (fun _ _ _ h => h) (Or.inl ⟨by rfl, ?hy2c⟩) hHeld ?rest2c
          case hy2c => (intro W hSw; (try dsimp only at hSw); go_simp; try with_reducible rfl)
          try simp only [Act.put, List.setIfInBounds_toArray, List.set_cons_zero, List.set_cons_succ]
          refine wpAnyH_take (i := 3) (oi := { dst := some 93, op := Go.Op.move (Go.Operand.tmp 12), type := 3, pos := "law.go:112", after := #[{ on := 2, ground := Go.Ground.guard }], guard := some (2, false) }) (v := ?v3c) rfl (by kernel_rfl) (by kernel_rfl) (by kernel_rfl) (fun _ _ _ h => h) (Or.inl ⟨by rfl, ?hy3c⟩) hHeld ?rest3c
          case hy3c => (intro W hSw; (try dsimp only at hSw); go_simp; try with_reducible rfl)
          try simp only [Act.put, List.setIfInBounds_toArray, List.set_cons_zero, List.set_cons_succ]
          refine wpAnyH_take (i := 4) (oi := { dst := some 94, op := Go.Op.binOp Go.BinOp.rem 3 (Go.Operand.tmp 93) (Go.Operand.const (Go.Value.int Go.IntKind.i64 3)) 3, type := 3, pos := "law.go:112", after := #[{ on := 3, ground := Go.Ground.data }, { on := 2, ground := Go.Ground.guard }], guard := some (2, false) }) (v := ?v4c) rfl (by kernel_rfl) (by kernel_rfl) (by kernel_rfl) (fun _ _ _ h => h) (Or.inl ⟨by rfl, ?hy4c⟩) hHeld ?rest4c
          case hy4c => (intro W hSw; (try dsimp only at hSw); go_simp; try with_reducible rfl)
          try simp only [Act.put, List.setIfInBounds_toArray, List.set_cons_zero, List.set_cons_succ]
          refine wpAnyH_take (i := 5) (oi := { dst := some 95, op := Go.Op.binOp Go.BinOp.eql 3 (Go.Operand.tmp 94) (Go.Operand.const (Go.Value.int Go.IntKind.i64 2)) 3, type := 4, pos := "law.go:112", after := #[{ on := 4, ground := Go.Ground.data }, { on := 2, ground := Go.Ground.guard }], guard := some (2, false) }) (v := .bool true) rfl (by kernel_rfl) (by kernel_rfl) (by kernel_rfl) (fun _ _ _ h => h) (Or.inl ⟨by rfl, ?hy5c⟩) hHeld ?rest5c
          case hy5c => (intro W hSw; (try dsimp only at hSw); first | (go_simp; done) | (go_simp; exact hm))
          try simp only [Act.put, List.setIfInBounds_toArray, List.set_cons_zero, List.set_cons_succ]
          refine wpAnyH_take (i := 6) (oi := { dst := some 96, op := Go.Op.move (Go.Operand.tmp 95), type := 4, pos := "law.go:112", after := #[{ on := 5, ground := Go.Ground.data }, { on := 2, ground := Go.Ground.chain }, { on := 2, ground := Go.Ground.guard }], guard := some (2, false) }) (v := ?v6c) rfl (by kernel_rfl) (by kernel_rfl) (by kernel_rfl) (fun _ _ _ h => h) (Or.inl ⟨by rfl, ?hy6c⟩) hHeld ?rest6c
          case hy6c => (intro W hSw; (try dsimp only at hSw); go_simp; try with_reducible rfl)
          try simp only [Act.put, List.setIfInBounds_toArray, List.set_cons_zero, List.set_cons_succ]
          refine wpAnyH_take (i := 7) (oi := { dst := some 97, op := Go.Op.move (Go.Operand.tmp 9), type := 29, pos := "law.go:112", after := #[{ on := 6, ground := Go.Ground.guard }], guard := some (6, true) }) (v := ?v7c) rfl (by kernel_rfl) (by kernel_rfl) (by kernel_rfl) (fun _ _ _ h => h) (Or.inl ⟨by rfl, ?hy7c⟩) hHeld ?rest7c
          case hy7c => (intro W hSw; (try dsimp only at hSw); go_simp; try with_reducible rfl)
          try simp only [Act.put, List.setIfInBounds_toArray, List.set_cons_zero, List.set_cons_succ]
          refine wpAnyH_take (i := 8) (oi := { dst := some 98, op := Go.Op.load 38 (Go.Operand.tmp 11), type := 38, pos := "law.go:112", after := #[{ on := 6, ground := Go.Ground.guard }], guard := some (6, true) }) (v := _) rfl (by kernel_rfl) (by kernel_rfl) (by kernel_rfl) (fun _ _ _ h => h) (yieldsIf_load_mid (by rfl) 38 _ rfl _ _ rfl _ _ (fun W hSw => (HB5.out.keep hSw).range) huL rfl hinfL') hHeld ?_
          try simp only [Array.toArray_toList, Act.put, List.setIfInBounds_toArray, List.set_cons_zero, List.set_cons_succ]
          refine wpAnyH_take (i := 9) (oi := { dst := some 99, op := Go.Op.move (Go.Operand.tmp 12), type := 3, pos := "law.go:112", after := #[{ on := 6, ground := Go.Ground.guard }], guard := some (6, true) }) (v := ?v9c) rfl (by kernel_rfl) (by kernel_rfl) (by kernel_rfl) (fun _ _ _ h => h) (Or.inl ⟨by rfl, ?hy9c⟩) hHeld ?rest9c
          case hy9c => (intro W hSw; (try dsimp only at hSw); go_simp; try with_reducible rfl)
          try simp only [Act.put, List.setIfInBounds_toArray, List.set_cons_zero, List.set_cons_succ]
          refine wpAnyH_take (i := 10) (oi := { dst := some 100, op := Go.Op.binOp Go.BinOp.rem 3 (Go.Operand.tmp 99) (Go.Operand.const (Go.Value.int Go.IntKind.i64 5)) 3, type := 3, pos := "law.go:112", after := #[{ on := 9, ground := Go.Ground.data }, { on := 6, ground := Go.Ground.guard }], guard := some (6, true) }) (v := ?v10c) rfl (by kernel_rfl) (by kernel_rfl) (by kernel_rfl) (fun _ _ _ h => h) (Or.inl ⟨by rfl, ?hy10c⟩) hHeld ?rest10c
          case hy10c => (intro W hSw; (try dsimp only at hSw); go_simp; try with_reducible rfl)
          try simp only [Act.put, List.setIfInBounds_toArray, List.set_cons_zero, List.set_cons_succ]
          refine wpAnyH_ready (rs := [11]) (by kernel_rfl) (by simp) ?_
          refine AllReadyH.cons (o := { dst := some 101, op := Go.Op.call { callee := Go.Callee.value (Go.Operand.func 13), args := #[Go.Operand.tmp 97, Go.Operand.tmp 98, Go.Operand.const (Go.Value.int Go.IntKind.i64 0), Go.Operand.tmp 100], argTypes := #[29, 38, 3, 3] }, type := 4, pos := "law.go:112", after := #[{ on := 7, ground := Go.Ground.data }, { on := 8, ground := Go.Ground.data }, { on := 10, ground := Go.Ground.data }, { on := 6, ground := Go.Ground.chain }, { on := 6, ground := Go.Ground.guard }], guard := some (6, true) }) rfl (fun K hK => ?_) AllReadyH.nil
          go_simp
          go_at_call 13
          refine (HIS.out _ hHeld _ _).mono ?_
          rintro e x6 ⟨rfl, hb6⟩
          refine hK.out _ _ (hHeld.trans (hb6.mono hHeld.size)) (fun hHeld' => ?_)
          clear hK K hHeld
          have hHeld := hHeld'
          clear hHeld'
          try simp only [Act.put, List.setIfInBounds_toArray, List.set_cons_zero, List.set_cons_succ]
          refine wpAnyH_take (i := 12) (oi := { dst := some 102, op := Go.Op.unOp Go.UnOp.not 4 (Go.Operand.tmp 101), type := 4, pos := "law.go:112", after := #[{ on := 11, ground := Go.Ground.data }, { on := 6, ground := Go.Ground.guard }], guard := some (6, true) }) (v := .bool false) rfl (by kernel_rfl) (by kernel_rfl) (by kernel_rfl) (fun _ _ _ h => h) (Or.inl ⟨by rfl, ?hy12c⟩) hHeld ?rest12c
          case hy12c => (intro W hSw; (try dsimp only at hSw); go_simp; try with_reducible rfl)
          try simp only [Act.put, List.setIfInBounds_toArray, List.set_cons_zero, List.set_cons_succ]
          refine wpAnyH_take (i := 13) (oi := { dst := some 103, op := Go.Op.pick (Go.Operand.tmp 96) (Go.Operand.tmp 102) (Go.Operand.const (Go.Value.bool false)), type := 4, pos := "law.go:112", after := #[{ on := 6, ground := Go.Ground.data }, { on := 12, ground := Go.Ground.data }, { on := 2, ground := Go.Ground.guard }], guard := some (2, false) }) (v := .bool false) rfl (by kernel_rfl) (by kernel_rfl) (by kernel_rfl) (fun _ _ _ h => h) (Or.inl ⟨by rfl, ?hy13c⟩) hHeld ?rest13c
          case hy13c => (intro W hSw; (try dsimp only at hSw); go_simp; try with_reducible rfl)
          try simp only [Act.put, List.setIfInBounds_toArray, List.set_cons_zero, List.set_cons_succ]
          refine wpAnyH_take (i := 14) (oi := { dst := some 104, op := Go.Op.pick (Go.Operand.tmp 92) (Go.Operand.const (Go.Value.bool true)) (Go.Operand.tmp 103), type := 4, pos := "law.go:112", after := #[{ on := 2, ground := Go.Ground.data }, { on := 13, ground := Go.Ground.data }], guard := none }) (v := .bool false) rfl (by kernel_rfl) (by kernel_rfl) (by kernel_rfl) (fun _ _ _ h => h) (Or.inl ⟨by rfl, ?hy14c⟩) hHeld ?rest14c
          case hy14c => (intro W hSw; (try dsimp only at hSw); go_simp; try with_reducible rfl)
          try simp only [Act.put, List.setIfInBounds_toArray, List.set_cons_zero, List.set_cons_succ]
          refine wpAnyH_take (i := 15) (oi := { dst := some 105, op := Go.Op.move (Go.Operand.tmp 104), type := 4, pos := "law.go:112", after := #[{ on := 14, ground := Go.Ground.data }, { on := 11, ground := Go.Ground.chain }], guard := none }) (v := ?v15c) rfl (by kernel_rfl) (by kernel_rfl) (by kernel_rfl) (fun _ _ _ h => h) (Or.inl ⟨by rfl, ?hy15c⟩) hHeld ?rest15c
          case hy15c => (intro W hSw; (try dsimp only at hSw); go_simp; try with_reducible rfl)
          try simp only [Act.put, List.setIfInBounds_toArray, List.set_cons_zero, List.set_cons_succ]
          refine wpAnyH_take (i := 16) (oi := { dst := some 106, op := Go.Op.move (Go.Operand.tmp 9), type := 29, pos := "law.go:112", after := #[{ on := 15, ground := Go.Ground.guard }], guard := some (15, false) }) (v := ?v16c) rfl (by kernel_rfl) (by kernel_rfl) (by kernel_rfl) (fun _ _ _ h => h) (Or.inl ⟨by rfl, ?hy16c⟩) hHeld ?rest16c
          case hy16c => (intro W hSw; (try dsimp only at hSw); go_simp; try with_reducible rfl)
          try simp only [Act.put, List.setIfInBounds_toArray, List.set_cons_zero, List.set_cons_succ]
          refine wpAnyH_take (i := 17) (oi := { dst := some 107, op := Go.Op.load 38 (Go.Operand.tmp 11), type := 38, pos := "law.go:112", after := #[{ on := 15, ground := Go.Ground.guard }], guard := some (15, false) }) (v := _) rfl (by kernel_rfl) (by kernel_rfl) (by kernel_rfl) (fun _ _ _ h => h) (yieldsIf_load_mid (by rfl) 38 _ rfl _ _ rfl _ _ (fun W hSw => (HB5.out.keep hSw).range) huL rfl hinfL') hHeld ?_
          try simp only [Array.toArray_toList, Act.put, List.setIfInBounds_toArray, List.set_cons_zero, List.set_cons_succ]
          refine wpAnyH_take (i := 18) (oi := { dst := some 108, op := Go.Op.move (Go.Operand.tmp 2), type := 22, pos := "law.go:112", after := #[{ on := 15, ground := Go.Ground.guard }], guard := some (15, false) }) (v := ?v18c) rfl (by kernel_rfl) (by kernel_rfl) (by kernel_rfl) (fun _ _ _ h => h) (Or.inl ⟨by rfl, ?hy18c⟩) hHeld ?rest18c
          case hy18c => (intro W hSw; (try dsimp only at hSw); go_simp; try with_reducible rfl)
          try simp only [Act.put, List.setIfInBounds_toArray, List.set_cons_zero, List.set_cons_succ]
          refine wpAnyH_take (i := 19) (oi := { dst := some 109, op := Go.Op.move (Go.Operand.tmp 12), type := 3, pos := "law.go:112", after := #[{ on := 15, ground := Go.Ground.guard }], guard := some (15, false) }) (v := ?v19c) rfl (by kernel_rfl) (by kernel_rfl) (by kernel_rfl) (fun _ _ _ h => h) (Or.inl ⟨by rfl, ?hy19c⟩) hHeld ?rest19c
          case hy19c => (intro W hSw; (try dsimp only at hSw); go_simp; try with_reducible rfl)
          try simp only [Act.put, List.setIfInBounds_toArray, List.set_cons_zero, List.set_cons_succ]
          refine wpAnyH_take (i := 20) (oi := { dst := some 110, op := Go.Op.indexAddr 22 (Go.Operand.tmp 108) (Go.Operand.tmp 109), type := 0, pos := "law.go:112", after := #[{ on := 18, ground := Go.Ground.data }, { on := 19, ground := Go.Ground.data }, { on := 15, ground := Go.Ground.guard }], guard := some (15, false) }) (v := ?v20c) rfl (by kernel_rfl) (by kernel_rfl) (by kernel_rfl) (fun _ _ _ h => h) (Or.inl ⟨by rfl, ?hy20c⟩) hHeld ?rest20c
          case hy20c => (intro W hSw; (try dsimp only at hSw); go_simp; try with_reducible rfl)
          try simp only [Act.put, List.setIfInBounds_toArray, List.set_cons_zero, List.set_cons_succ]
          refine wpAnyH_take (i := 21) (oi := { dst := some 111, op := Go.Op.fieldAddr 45 (Go.Operand.tmp 110) 1, type := 0, pos := "law.go:112", after := #[{ on := 20, ground := Go.Ground.data }, { on := 15, ground := Go.Ground.guard }], guard := some (15, false) }) (v := ?v21c) rfl (by kernel_rfl) (by kernel_rfl) (by kernel_rfl) (fun _ _ _ h => h) (Or.inl ⟨by rfl, ?hy21c⟩) hHeld ?rest21c
          case hy21c => (intro W hSw; (try dsimp only at hSw); go_simp; try with_reducible rfl)
          try simp only [Act.put, List.setIfInBounds_toArray, List.set_cons_zero, List.set_cons_succ]
          refine wpAnyH_take (i := 22) (oi := { dst := some 112, op := Go.Op.load 3 (Go.Operand.tmp 111), type := 3, pos := "law.go:112", after := #[{ on := 21, ground := Go.Ground.data }, { on := 15, ground := Go.Ground.guard }], guard := some (15, false) }) (v := ?v22c) rfl (by kernel_rfl) (by kernel_rfl) (by kernel_rfl) (fun _ _ _ h => h) (Or.inl ⟨by rfl, ?hy22c⟩) hHeld ?rest22c
          case hy22c => (intro W hSw; (try dsimp only at hSw); have hc := HC1.out W hSw; go_simp; try with_reducible rfl)
          try simp only [Act.put, List.setIfInBounds_toArray, List.set_cons_zero, List.set_cons_succ]
          refine wpAnyH_ready (rs := [23]) (by kernel_rfl) (by simp) ?_
          refine AllReadyH.cons (o := { dst := some 113, op := Go.Op.call { callee := Go.Callee.value (Go.Operand.func 13), args := #[Go.Operand.tmp 106, Go.Operand.tmp 107, Go.Operand.tmp 112, Go.Operand.const (Go.Value.int Go.IntKind.i64 2)], argTypes := #[29, 38, 3, 3] }, type := 4, pos := "law.go:112", after := #[{ on := 16, ground := Go.Ground.data }, { on := 17, ground := Go.Ground.data }, { on := 22, ground := Go.Ground.data }, { on := 15, ground := Go.Ground.chain }, { on := 15, ground := Go.Ground.guard }], guard := some (15, false) }) rfl (fun K hK => ?_) AllReadyH.nil
          go_simp
          go_at_call 13
          refine (HIS.out _ hHeld _ _).mono ?_
          rintro e x7 ⟨rfl, hb7⟩
          refine hK.out _ _ (hHeld.trans (hb7.mono hHeld.size)) (fun hHeld' => ?_)
          clear hK K hHeld
          have hHeld := hHeld'
          clear hHeld'
          try simp only [Act.put, List.setIfInBounds_toArray, List.set_cons_zero, List.set_cons_succ]
          refine wpAnyH_take (i := 24) (oi := { dst := some 114, op := Go.Op.unOp Go.UnOp.not 4 (Go.Operand.tmp 113), type := 4, pos := "law.go:112", after := #[{ on := 23, ground := Go.Ground.data }, { on := 15, ground := Go.Ground.guard }], guard := some (15, false) }) (v := .bool false) rfl (by kernel_rfl) (by kernel_rfl) (by kernel_rfl) (fun _ _ _ h => h) (Or.inl ⟨by rfl, ?hy24c⟩) hHeld ?rest24c
          case hy24c => (intro W hSw; (try dsimp only at hSw); go_simp; try with_reducible rfl)
          try simp only [Act.put, List.setIfInBounds_toArray, List.set_cons_zero, List.set_cons_succ]
          refine wpAnyH_take (i := 25) (oi := { dst := some 115, op := Go.Op.pick (Go.Operand.tmp 105) (Go.Operand.const (Go.Value.bool true)) (Go.Operand.tmp 114), type := 4, pos := "law.go:112", after := #[{ on := 15, ground := Go.Ground.data }, { on := 24, ground := Go.Ground.data }], guard := none }) (v := .bool false) rfl (by kernel_rfl) (by kernel_rfl) (by kernel_rfl) (fun _ _ _ h => h) (Or.inl ⟨by rfl, ?hy25c⟩) hHeld ?rest25c
          case hy25c => (intro W hSw; (try dsimp only at hSw); go_simp; try with_reducible rfl)
          try simp only [Act.put, List.setIfInBounds_toArray, List.set_cons_zero, List.set_cons_succ]
          refine wpAnyH_done (by kernel_rfl) ?_ _
          try dsimp only
          try simp only [Act.put, List.setIfInBounds_toArray, List.set_cons_zero, List.set_cons_succ]
          -- END hand_lpC
          go_wp2_with fail
          go_roundw
          case rel => exact ⟨k + 1, q', cl', D', t', rfl, by go_num, by omega, hDL5, Lib.hid ⟨HT5.out.ls.keep hHeld, HT5.out.box.keep hHeld, HT5.out.le⟩⟩
          case measure => simp [intOf]; omega
        · go_upto_region 15 with fail
          -- BEGIN hand_lpD
          refine wp_region_held_drew (S := fun W => Below w5.heap.size w5 W) (by kernel_rfl) ?_ (fun hHeld => ?_)
          · exact (Below.refl _ w5).drew
          refine wpAnyH_take (i := 0) (oi := { dst := some 90, op := Go.Op.move (Go.Operand.tmp 15), type := 4, pos := "law.go:112", after := #[], guard := none }) (v := ?v0d) rfl (by kernel_rfl) (by kernel_rfl) (by kernel_rfl) (fun _ _ _ h => h) (Or.inl ⟨by rfl, ?hy0d⟩) hHeld ?rest0d
          case hy0d => (intro W hSw; (try dsimp only at hSw); go_simp; try with_reducible rfl)
          try simp only [Act.put, List.setIfInBounds_toArray, List.set_cons_zero, List.set_cons_succ]
          refine wpAnyH_take (i := 1) (oi := { dst := some 91, op := Go.Op.unOp Go.UnOp.not 4 (Go.Operand.tmp 90), type := 4, pos := "law.go:112", after := #[{ on := 0, ground := Go.Ground.data }], guard := none }) (v := .bool false) rfl (by kernel_rfl) (by kernel_rfl) (by kernel_rfl) (fun _ _ _ h => h) (Or.inl ⟨by rfl, ?hy1d⟩) hHeld ?rest1d
          case hy1d => (intro W hSw; (try dsimp only at hSw); go_simp; try with_reducible rfl)
          try simp only [Act.put, List.setIfInBounds_toArray, List.set_cons_zero, List.set_cons_succ]
          refine wpAnyH_take (i := 2) (oi := { dst := some 92, op := Go.Op.move (Go.Operand.tmp 91), type := 4, pos := "law.go:112", after := #[{ on := 1, ground := Go.Ground.data }], guard := none }) (v := ?v2d) rfl (by kernel_rfl) (by kernel_rfl) (by kernel_rfl) (fun _ _ _ h => h) (Or.inl ⟨by rfl, ?hy2d⟩) hHeld ?rest2d
          case hy2d => (intro W hSw; (try dsimp only at hSw); go_simp; try with_reducible rfl)
          try simp only [Act.put, List.setIfInBounds_toArray, List.set_cons_zero, List.set_cons_succ]
          refine wpAnyH_take (i := 3) (oi := { dst := some 93, op := Go.Op.move (Go.Operand.tmp 12), type := 3, pos := "law.go:112", after := #[{ on := 2, ground := Go.Ground.guard }], guard := some (2, false) }) (v := ?v3d) rfl (by kernel_rfl) (by kernel_rfl) (by kernel_rfl) (fun _ _ _ h => h) (Or.inl ⟨by rfl, ?hy3d⟩) hHeld ?rest3d
          case hy3d => (intro W hSw; (try dsimp only at hSw); go_simp; try with_reducible rfl)
          try simp only [Act.put, List.setIfInBounds_toArray, List.set_cons_zero, List.set_cons_succ]
          refine wpAnyH_take (i := 4) (oi := { dst := some 94, op := Go.Op.binOp Go.BinOp.rem 3 (Go.Operand.tmp 93) (Go.Operand.const (Go.Value.int Go.IntKind.i64 3)) 3, type := 3, pos := "law.go:112", after := #[{ on := 3, ground := Go.Ground.data }, { on := 2, ground := Go.Ground.guard }], guard := some (2, false) }) (v := ?v4d) rfl (by kernel_rfl) (by kernel_rfl) (by kernel_rfl) (fun _ _ _ h => h) (Or.inl ⟨by rfl, ?hy4d⟩) hHeld ?rest4d
          case hy4d => (intro W hSw; (try dsimp only at hSw); go_simp; try with_reducible rfl)
          try simp only [Act.put, List.setIfInBounds_toArray, List.set_cons_zero, List.set_cons_succ]
          refine wpAnyH_take (i := 5) (oi := { dst := some 95, op := Go.Op.binOp Go.BinOp.eql 3 (Go.Operand.tmp 94) (Go.Operand.const (Go.Value.int Go.IntKind.i64 2)) 3, type := 4, pos := "law.go:112", after := #[{ on := 4, ground := Go.Ground.data }, { on := 2, ground := Go.Ground.guard }], guard := some (2, false) }) (v := .bool false) rfl (by kernel_rfl) (by kernel_rfl) (by kernel_rfl) (fun _ _ _ h => h) (Or.inl ⟨by rfl, ?hy5d⟩) hHeld ?rest5d
          case hy5d => (intro W hSw; (try dsimp only at hSw); first | (go_simp; done) | (go_simp; exact hm))
          try simp only [Act.put, List.setIfInBounds_toArray, List.set_cons_zero, List.set_cons_succ]
          refine wpAnyH_take (i := 6) (oi := { dst := some 96, op := Go.Op.move (Go.Operand.tmp 95), type := 4, pos := "law.go:112", after := #[{ on := 5, ground := Go.Ground.data }, { on := 2, ground := Go.Ground.chain }, { on := 2, ground := Go.Ground.guard }], guard := some (2, false) }) (v := ?v6d) rfl (by kernel_rfl) (by kernel_rfl) (by kernel_rfl) (fun _ _ _ h => h) (Or.inl ⟨by rfl, ?hy6d⟩) hHeld ?rest6d
          case hy6d => (intro W hSw; (try dsimp only at hSw); go_simp; try with_reducible rfl)
          try simp only [Act.put, List.setIfInBounds_toArray, List.set_cons_zero, List.set_cons_succ]
          refine wpAnyH_take (i := 7) (oi := { dst := some 97, op := Go.Op.move (Go.Operand.tmp 9), type := 29, pos := "law.go:112", after := #[{ on := 6, ground := Go.Ground.guard }], guard := some (6, true) }) (v := undef) rfl (by kernel_rfl) (by kernel_rfl) (by kernel_rfl) (fun _ _ _ h => h) (Or.inr ⟨by rfl, rfl⟩) hHeld ?_
          try simp only [Act.put, List.setIfInBounds_toArray, List.set_cons_zero, List.set_cons_succ]
          refine wpAnyH_take (i := 8) (oi := { dst := some 98, op := Go.Op.load 38 (Go.Operand.tmp 11), type := 38, pos := "law.go:112", after := #[{ on := 6, ground := Go.Ground.guard }], guard := some (6, true) }) (v := undef) rfl (by kernel_rfl) (by kernel_rfl) (by kernel_rfl) (fun _ _ _ h => h) (Or.inr ⟨by rfl, rfl⟩) hHeld ?_
          try simp only [Act.put, List.setIfInBounds_toArray, List.set_cons_zero, List.set_cons_succ]
          refine wpAnyH_take (i := 9) (oi := { dst := some 99, op := Go.Op.move (Go.Operand.tmp 12), type := 3, pos := "law.go:112", after := #[{ on := 6, ground := Go.Ground.guard }], guard := some (6, true) }) (v := undef) rfl (by kernel_rfl) (by kernel_rfl) (by kernel_rfl) (fun _ _ _ h => h) (Or.inr ⟨by rfl, rfl⟩) hHeld ?_
          try simp only [Act.put, List.setIfInBounds_toArray, List.set_cons_zero, List.set_cons_succ]
          refine wpAnyH_take (i := 10) (oi := { dst := some 100, op := Go.Op.binOp Go.BinOp.rem 3 (Go.Operand.tmp 99) (Go.Operand.const (Go.Value.int Go.IntKind.i64 5)) 3, type := 3, pos := "law.go:112", after := #[{ on := 9, ground := Go.Ground.data }, { on := 6, ground := Go.Ground.guard }], guard := some (6, true) }) (v := undef) rfl (by kernel_rfl) (by kernel_rfl) (by kernel_rfl) (fun _ _ _ h => h) (Or.inr ⟨by rfl, rfl⟩) hHeld ?_
          try simp only [Act.put, List.setIfInBounds_toArray, List.set_cons_zero, List.set_cons_succ]
          refine wpAnyH_take (i := 11) (oi := { dst := some 101, op := Go.Op.call { callee := Go.Callee.value (Go.Operand.func 13), args := #[Go.Operand.tmp 97, Go.Operand.tmp 98, Go.Operand.const (Go.Value.int Go.IntKind.i64 0), Go.Operand.tmp 100], argTypes := #[29, 38, 3, 3] }, type := 4, pos := "law.go:112", after := #[{ on := 7, ground := Go.Ground.data }, { on := 8, ground := Go.Ground.data }, { on := 10, ground := Go.Ground.data }, { on := 6, ground := Go.Ground.chain }, { on := 6, ground := Go.Ground.guard }], guard := some (6, true) }) (v := undef) rfl (by kernel_rfl) (by kernel_rfl) (by kernel_rfl) (fun _ _ _ h => h) (Or.inr ⟨by rfl, rfl⟩) hHeld ?_
          try simp only [Act.put, List.setIfInBounds_toArray, List.set_cons_zero, List.set_cons_succ]
          refine wpAnyH_take (i := 12) (oi := { dst := some 102, op := Go.Op.unOp Go.UnOp.not 4 (Go.Operand.tmp 101), type := 4, pos := "law.go:112", after := #[{ on := 11, ground := Go.Ground.data }, { on := 6, ground := Go.Ground.guard }], guard := some (6, true) }) (v := undef) rfl (by kernel_rfl) (by kernel_rfl) (by kernel_rfl) (fun _ _ _ h => h) (Or.inr ⟨by rfl, rfl⟩) hHeld ?_
          try simp only [Act.put, List.setIfInBounds_toArray, List.set_cons_zero, List.set_cons_succ]
          refine wpAnyH_take (i := 13) (oi := { dst := some 103, op := Go.Op.pick (Go.Operand.tmp 96) (Go.Operand.tmp 102) (Go.Operand.const (Go.Value.bool false)), type := 4, pos := "law.go:112", after := #[{ on := 6, ground := Go.Ground.data }, { on := 12, ground := Go.Ground.data }, { on := 2, ground := Go.Ground.guard }], guard := some (2, false) }) (v := .bool false) rfl (by kernel_rfl) (by kernel_rfl) (by kernel_rfl) (fun _ _ _ h => h) (Or.inl ⟨by rfl, ?hy13d⟩) hHeld ?rest13d
          case hy13d => (intro W hSw; (try dsimp only at hSw); go_simp; try with_reducible rfl)
          try simp only [Act.put, List.setIfInBounds_toArray, List.set_cons_zero, List.set_cons_succ]
          refine wpAnyH_take (i := 14) (oi := { dst := some 104, op := Go.Op.pick (Go.Operand.tmp 92) (Go.Operand.const (Go.Value.bool true)) (Go.Operand.tmp 103), type := 4, pos := "law.go:112", after := #[{ on := 2, ground := Go.Ground.data }, { on := 13, ground := Go.Ground.data }], guard := none }) (v := .bool false) rfl (by kernel_rfl) (by kernel_rfl) (by kernel_rfl) (fun _ _ _ h => h) (Or.inl ⟨by rfl, ?hy14d⟩) hHeld ?rest14d
          case hy14d => (intro W hSw; (try dsimp only at hSw); go_simp; try with_reducible rfl)
          try simp only [Act.put, List.setIfInBounds_toArray, List.set_cons_zero, List.set_cons_succ]
          refine wpAnyH_take (i := 15) (oi := { dst := some 105, op := Go.Op.move (Go.Operand.tmp 104), type := 4, pos := "law.go:112", after := #[{ on := 14, ground := Go.Ground.data }, { on := 11, ground := Go.Ground.chain }], guard := none }) (v := ?v15d) rfl (by kernel_rfl) (by kernel_rfl) (by kernel_rfl) (fun _ _ _ h => h) (Or.inl ⟨by rfl, ?hy15d⟩) hHeld ?rest15d
          case hy15d => (intro W hSw; (try dsimp only at hSw); go_simp; try with_reducible rfl)
          try simp only [Act.put, List.setIfInBounds_toArray, List.set_cons_zero, List.set_cons_succ]
          refine wpAnyH_take (i := 16) (oi := { dst := some 106, op := Go.Op.move (Go.Operand.tmp 9), type := 29, pos := "law.go:112", after := #[{ on := 15, ground := Go.Ground.guard }], guard := some (15, false) }) (v := ?v16d) rfl (by kernel_rfl) (by kernel_rfl) (by kernel_rfl) (fun _ _ _ h => h) (Or.inl ⟨by rfl, ?hy16d⟩) hHeld ?rest16d
          case hy16d => (intro W hSw; (try dsimp only at hSw); go_simp; try with_reducible rfl)
          try simp only [Act.put, List.setIfInBounds_toArray, List.set_cons_zero, List.set_cons_succ]
          refine wpAnyH_take (i := 17) (oi := { dst := some 107, op := Go.Op.load 38 (Go.Operand.tmp 11), type := 38, pos := "law.go:112", after := #[{ on := 15, ground := Go.Ground.guard }], guard := some (15, false) }) (v := _) rfl (by kernel_rfl) (by kernel_rfl) (by kernel_rfl) (fun _ _ _ h => h) (yieldsIf_load_mid (by rfl) 38 _ rfl _ _ rfl _ _ (fun W hSw => (HB5.out.keep hSw).range) huL rfl hinfL') hHeld ?_
          try simp only [Array.toArray_toList, Act.put, List.setIfInBounds_toArray, List.set_cons_zero, List.set_cons_succ]
          refine wpAnyH_take (i := 18) (oi := { dst := some 108, op := Go.Op.move (Go.Operand.tmp 2), type := 22, pos := "law.go:112", after := #[{ on := 15, ground := Go.Ground.guard }], guard := some (15, false) }) (v := ?v18d) rfl (by kernel_rfl) (by kernel_rfl) (by kernel_rfl) (fun _ _ _ h => h) (Or.inl ⟨by rfl, ?hy18d⟩) hHeld ?rest18d
          case hy18d => (intro W hSw; (try dsimp only at hSw); go_simp; try with_reducible rfl)
          try simp only [Act.put, List.setIfInBounds_toArray, List.set_cons_zero, List.set_cons_succ]
          refine wpAnyH_take (i := 19) (oi := { dst := some 109, op := Go.Op.move (Go.Operand.tmp 12), type := 3, pos := "law.go:112", after := #[{ on := 15, ground := Go.Ground.guard }], guard := some (15, false) }) (v := ?v19d) rfl (by kernel_rfl) (by kernel_rfl) (by kernel_rfl) (fun _ _ _ h => h) (Or.inl ⟨by rfl, ?hy19d⟩) hHeld ?rest19d
          case hy19d => (intro W hSw; (try dsimp only at hSw); go_simp; try with_reducible rfl)
          try simp only [Act.put, List.setIfInBounds_toArray, List.set_cons_zero, List.set_cons_succ]
          refine wpAnyH_take (i := 20) (oi := { dst := some 110, op := Go.Op.indexAddr 22 (Go.Operand.tmp 108) (Go.Operand.tmp 109), type := 0, pos := "law.go:112", after := #[{ on := 18, ground := Go.Ground.data }, { on := 19, ground := Go.Ground.data }, { on := 15, ground := Go.Ground.guard }], guard := some (15, false) }) (v := ?v20d) rfl (by kernel_rfl) (by kernel_rfl) (by kernel_rfl) (fun _ _ _ h => h) (Or.inl ⟨by rfl, ?hy20d⟩) hHeld ?rest20d
          case hy20d => (intro W hSw; (try dsimp only at hSw); go_simp; try with_reducible rfl)
          try simp only [Act.put, List.setIfInBounds_toArray, List.set_cons_zero, List.set_cons_succ]
          refine wpAnyH_take (i := 21) (oi := { dst := some 111, op := Go.Op.fieldAddr 45 (Go.Operand.tmp 110) 1, type := 0, pos := "law.go:112", after := #[{ on := 20, ground := Go.Ground.data }, { on := 15, ground := Go.Ground.guard }], guard := some (15, false) }) (v := ?v21d) rfl (by kernel_rfl) (by kernel_rfl) (by kernel_rfl) (fun _ _ _ h => h) (Or.inl ⟨by rfl, ?hy21d⟩) hHeld ?rest21d
          case hy21d => (intro W hSw; (try dsimp only at hSw); go_simp; try with_reducible rfl)
          try simp only [Act.put, List.setIfInBounds_toArray, List.set_cons_zero, List.set_cons_succ]
          refine wpAnyH_take (i := 22) (oi := { dst := some 112, op := Go.Op.load 3 (Go.Operand.tmp 111), type := 3, pos := "law.go:112", after := #[{ on := 21, ground := Go.Ground.data }, { on := 15, ground := Go.Ground.guard }], guard := some (15, false) }) (v := ?v22d) rfl (by kernel_rfl) (by kernel_rfl) (by kernel_rfl) (fun _ _ _ h => h) (Or.inl ⟨by rfl, ?hy22d⟩) hHeld ?rest22d
          case hy22d => (intro W hSw; (try dsimp only at hSw); have hc := HC1.out W hSw; go_simp; try with_reducible rfl)
          try simp only [Act.put, List.setIfInBounds_toArray, List.set_cons_zero, List.set_cons_succ]
          refine wpAnyH_ready (rs := [23]) (by kernel_rfl) (by simp) ?_
          refine AllReadyH.cons (o := { dst := some 113, op := Go.Op.call { callee := Go.Callee.value (Go.Operand.func 13), args := #[Go.Operand.tmp 106, Go.Operand.tmp 107, Go.Operand.tmp 112, Go.Operand.const (Go.Value.int Go.IntKind.i64 2)], argTypes := #[29, 38, 3, 3] }, type := 4, pos := "law.go:112", after := #[{ on := 16, ground := Go.Ground.data }, { on := 17, ground := Go.Ground.data }, { on := 22, ground := Go.Ground.data }, { on := 15, ground := Go.Ground.chain }, { on := 15, ground := Go.Ground.guard }], guard := some (15, false) }) rfl (fun K hK => ?_) AllReadyH.nil
          go_simp
          go_at_call 13
          refine (HIS.out _ hHeld _ _).mono ?_
          rintro e x7 ⟨rfl, hb7⟩
          refine hK.out _ _ (hHeld.trans (hb7.mono hHeld.size)) (fun hHeld' => ?_)
          clear hK K hHeld
          have hHeld := hHeld'
          clear hHeld'
          try simp only [Act.put, List.setIfInBounds_toArray, List.set_cons_zero, List.set_cons_succ]
          refine wpAnyH_take (i := 24) (oi := { dst := some 114, op := Go.Op.unOp Go.UnOp.not 4 (Go.Operand.tmp 113), type := 4, pos := "law.go:112", after := #[{ on := 23, ground := Go.Ground.data }, { on := 15, ground := Go.Ground.guard }], guard := some (15, false) }) (v := .bool false) rfl (by kernel_rfl) (by kernel_rfl) (by kernel_rfl) (fun _ _ _ h => h) (Or.inl ⟨by rfl, ?hy24d⟩) hHeld ?rest24d
          case hy24d => (intro W hSw; (try dsimp only at hSw); go_simp; try with_reducible rfl)
          try simp only [Act.put, List.setIfInBounds_toArray, List.set_cons_zero, List.set_cons_succ]
          refine wpAnyH_take (i := 25) (oi := { dst := some 115, op := Go.Op.pick (Go.Operand.tmp 105) (Go.Operand.const (Go.Value.bool true)) (Go.Operand.tmp 114), type := 4, pos := "law.go:112", after := #[{ on := 15, ground := Go.Ground.data }, { on := 24, ground := Go.Ground.data }], guard := none }) (v := .bool false) rfl (by kernel_rfl) (by kernel_rfl) (by kernel_rfl) (fun _ _ _ h => h) (Or.inl ⟨by rfl, ?hy25d⟩) hHeld ?rest25d
          case hy25d => (intro W hSw; (try dsimp only at hSw); go_simp; try with_reducible rfl)
          try simp only [Act.put, List.setIfInBounds_toArray, List.set_cons_zero, List.set_cons_succ]
          refine wpAnyH_done (by kernel_rfl) ?_ _
          try dsimp only
          try simp only [Act.put, List.setIfInBounds_toArray, List.set_cons_zero, List.set_cons_succ]
          -- END hand_lpD
          go_wp2_with fail
          go_roundw
          case rel => exact ⟨k + 1, q', cl', D', t', rfl, by go_num, by omega, hDL5, Lib.hid ⟨HT5.out.ls.keep hHeld, HT5.out.box.keep hHeld, HT5.out.le⟩⟩
          case measure => simp [intOf]; omega
    · have hr := HT.out.box.range
      have HIS := Lib.hid (is_ls HT.out.ls hf 0 99)
      have HBW := Lib.hid HT.out.ls.run.bel
      have HW := Lib.hid (fun W (hb : Below w.heap.size w W) => works_trueL W (HE.out.below hb HE.out.lt))
      go_wp2_with (first
        | (refine wpList_load_mid rfl 38 _ rfl _ _ rfl _ _ hr huL rfl hinfL ?_; simp only [Act.put, Array.toArray_toList, List.setIfInBounds_toArray, List.set_cons_zero, List.set_cons_succ])
        | (go_at_call 13; refine HIS.out.mono ?_; rintro e x6 ⟨rfl, hb6⟩; have HB6 := Lib.hid (HBW.out.trans (hb6.mono HBW.out.size)); clear hb6)
        | (go_at_call 6; refine (HW.out _ HB6.out).mono ?_; rintro e x7 ⟨rfl, hb7⟩))
      go_ret
      exact ⟨rfl, HB6.out.trans (hb7.mono HB6.out.size)⟩
theorem lawPlays_true (room file : Int) (oa : Option Addr) (cap : Nat) (l : List ActL) (w : World) (hv : ActsL w oa l) (hET : HasET w) (hl : l.length ≤ 9223372036854775807) :
    Calls Tryz.prog 3 #[.int .i64 room, .int .i64 file, .slice oa l.length cap] w fun e w' => e = .returned (.bool true) ∧ Below w.heap.size w w' := by
  by_cases h : room < 1 ∨ 3000 < room ∨ fewL l 30 = false
  · exact lawPlays_far room file oa cap l w hv hET hl h
  · have h0 : 1 ≤ room := by omega
    have h1 : room ≤ 3000 := by omega
    have hfw : fewL l 30 = true := by
      cases hq : fewL l 30 with
      | true => rfl
      | false => exact absurd (.inr (.inr hq)) h
    obtain ⟨r, rfl⟩ : ∃ r : Nat, room = r := ⟨room.toNat, by omega⟩
    by_cases hf : file < 0 ∨ 63 < file
    · exact lawPlays_bad r file oa cap l w hv hET hl (by omega) (by omega) hfw hf
    · obtain ⟨g, rfl⟩ : ∃ g : Nat, file = g := ⟨file.toNat, by omega⟩
      exact lawPlays_in r g oa cap l w hv hET (by omega) (by omega) hfw (by omega)
end Go.Proofs.YtbhgcioeibhjeaaGreatDoor
