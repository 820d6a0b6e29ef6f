/-
  swingbridgelaw09.DiskHolds: a list of calls that may be.
-/
import Derived.Test.YtlnemefegkjjiaaDoorDActT
import Derived.BigQuiet
namespace Go.Proofs.YtlnemefegkjjiaaDoor
open Go.RowKit

set_option maxRecDepth 1000000 in
set_option maxHeartbeats 4000000 in
theorem lawH_ok (room keep torn f : Nat) (oa : Option Addr) (cap : Nat) (acts : List ActV) (w : World) (hET : HasET w) (ha : ActsIn w oa acts) (hl : acts.length ≤ 20) (hfew : fewA acts 20 = true) (hr0 : 1 ≤ room) (hr1 : room ≤ 2000) (hf : f < 64) (hk : keep ≤ 9223372036854775807) (ht : torn ≤ 9223372036854775807) :
    Calls Tryd.prog 3 #[.int .i64 room, .slice oa acts.length cap, .int .i64 keep, .int .i64 torn, .int .i64 f] w fun e w' => e = .returned (.bool true) ∧ Below w.heap.size w w' := by
  have HF := Lib.hid (few_acts oa cap acts 20 w ha (by decide) (by decide) (by omega))
  rw [hfew] at HF
  have HA := Lib.hid ha
  have HE := Lib.hid hET
  have HN := Lib.hid (run_new room w hr0 (by omega))
  have HL := Lib.hid hl
  have q0 : ¬ ((room : Int) < 1) := by omega
  have q1 : ¬ (2000 < (room : Int)) := by omega
  have q2 : ¬ ((f : Int) < 0) := by omega
  have q3 : ¬ (63 < (f : Int)) := by omega
  have q4 : ¬ ((keep : Int) < 0) := by omega
  have q5 : ¬ ((torn : Int) < 0) := by omega
  have HS : Hid (∀ W p, Run w W p (newD room) → HRun w (W.alloc (.cells #[.string ⟨#[]⟩] 9)) p (newD room) (.slice (some ⟨W.heap.size, 0, none⟩) 1 1) [[]]) := Lib.hid fun W p h => HRun.lit h
  have hi0 : (acts.length : Int) ≤ 20 := by omega
  clear ha hET hfew hl
  go_enter Tryd.func3, Tryd.ntmps3
  go_upto_region 5 with (first | (go_at_call 4; refine HF.out.mono ?_; rintro e w1 ⟨rfl, rfl⟩) | (go_at_call 6; refine HN.out.mono ?_; rintro e w2 ⟨p, rfl, hr2⟩))
  have HS2 := Lib.hid (HS.out w2 p hr2)
  clear hr2 HS HN
  go_wp2_with fail
  go_loopw [11, 13, 14] (fun d hv i wr => ∃ (k p : Nat) (D : Dk) (H : List (List UInt8)) (v : Value), k ≤ acts.length ∧ d = .pointer (some ⟨p, 0, none⟩) ∧ i = .int .i64 k ∧ v = hv ∧ Hid (HRun w wr p D v H ∧ HadOf f D H ∧ D.L.length ≤ k ∧ H.length ≤ k + 1)) (fun _ _ i _ => acts.length - (intOf i).toNat)
  case atStart => exact ⟨0, p, newD room, [[]], _, by omega, rfl, rfl, rfl, Lib.hid ⟨HS2.out, HadOf.new room f, Nat.le_refl _, Nat.le_refl _⟩⟩
  case round =>
    obtain ⟨k, p, D, H, hv, hk', rfl, rfl, hvv, HI⟩ := hrel
    subst hvv
    clear HS2
    by_cases hlt : k < acts.length
    · obtain ⟨x, hx⟩ : ∃ x, acts[k] = x := ⟨_, rfl⟩
      have HA2 : Hid (∀ W, Below w.heap.size w W → ∃ a, oa = some a ∧ W.cell? (a.add (k * 5)) = some (.int .i64 x.wh) ∧ W.cell? ⟨(a.add (k * 5)).block, (a.add (k * 5)).off + 1, none⟩ = some (.int .i64 x.fi) ∧ W.cell? ⟨(a.add (k * 5)).block, (a.add (k * 5)).off + 2, none⟩ = some (.int .i64 x.nn) ∧ W.cell? ⟨(a.add (k * 5)).block, (a.add (k * 5)).off + 3, none⟩ = some (.int .i64 x.tn) ∧ W.cell? ⟨(a.add (k * 5)).block, (a.add (k * 5)).off + 4, none⟩ = some x.bs ∧ BtAt W x.bs x.l) := Lib.hid fun W hb => by
        have h := (HA.out.keep hb) k hlt
        rw [hx] at h
        exact h
      obtain ⟨a, rfl, x0, x1, x2, x3, x4, hbt⟩ := HA2.out wr HI.out.1.bel
      obtain ⟨ob, cb, hbs, _⟩ := hbt
      have hlt' : (k : Int) < acts.length := by omega
      by_cases h5 : x.wh = 5
      · rw [h5] at x0
        clear x1 x2 x3 x4 HA2 hx hbs
        go_wp2_with (first | (go_at_call 7; refine (lnum_any _ _).mono ?_; rintro e w3 ⟨rfl, rfl⟩))
        go_roundw
        case rel => exact ⟨k + 1, p, D, H, _, by omega, rfl, by go_num, rfl, Lib.hid ⟨HI.out.1, HI.out.2.1, by have := HI.out.2.2.1; omega, by have := HI.out.2.2.2; omega⟩⟩
        case measure => simp [intOf]; omega
      · have HD : Hid (∀ W, Below wr.heap.size wr W → Calls Tryd.prog 8 #[.pointer (some ⟨p, 0, none⟩), .agg zD, .agg #[.int .i64 x.wh, .int .i64 x.fi, .int .i64 x.nn, .int .i64 x.tn, x.bs]] W (ActP w (actD D x) hv H)) := Lib.hid fun W hb => by
          have h := HI.out.1.below hb
          have hb2 := HA2.out W h.bel
          obtain ⟨_, _, _, _, _, _, _, hb3⟩ := hb2
          exact act_any h HE.out (by have := HI.out.2.2.1; have := HL.out; omega) x hb3 h5
        have HC : Hid (∀ W, Below w.heap.size w W → W.cell? (a.add (k * 5)) = some (.int .i64 x.wh) ∧ W.cell? ⟨(a.add (k * 5)).block, (a.add (k * 5)).off + 1, none⟩ = some (.int .i64 x.fi) ∧ W.cell? ⟨(a.add (k * 5)).block, (a.add (k * 5)).off + 2, none⟩ = some (.int .i64 x.nn) ∧ W.cell? ⟨(a.add (k * 5)).block, (a.add (k * 5)).off + 3, none⟩ = some (.int .i64 x.tn) ∧ W.cell? ⟨(a.add (k * 5)).block, (a.add (k * 5)).off + 4, none⟩ = some x.bs) := Lib.hid fun W hb => by
          obtain ⟨a', e, y0, y1, y2, y3, y4, _⟩ := HA2.out W hb
          cases e
          exact ⟨y0, y1, y2, y3, y4⟩
        have HB := Lib.hid HI.out.1.bel
        have H5 : Hid (∀ W, Below w.heap.size w W → (loadVar 33 (a.add (k * 5))).run Tryd.prog W = .ok (.agg #[.int .i64 x.wh, .int .i64 x.fi, .int .i64 x.nn, .int .i64 x.tn, x.bs]) W) := Lib.hid fun W hb => by
          obtain ⟨y0, y1, y2, y3, y4⟩ := HC.out W hb
          exact act5_load _ x W y0 y1 y2 y3 y4
        have HN2 := Lib.hid (rNew_any wr.drew)
        clear HA2 hx
        go_upto_region 9 with (first | (go_at_call 7; refine (lnum_any _ _).mono ?_; rintro e w3 ⟨rfl, rfl⟩))
        clear x0 x1 x2 x3 x4 hbs
        -- BEGIN hand_lawH
        refine wp_region_held_drew (S := fun W => Below w.heap.size w W) (by kernel_rfl) ?_ (fun hHeld => ?_)
        · exact HB.out.drew
        refine wpAnyH_take (i := 0) (oi := { dst := some 70, op := Go.Op.move (Go.Operand.tmp 11), type := 25, pos := "law.go:169", after := #[], guard := none }) (v := ?v0h) rfl (by kernel_rfl) (by kernel_rfl) (by kernel_rfl) (fun _ _ _ h => h) (Or.inl ⟨by rfl, ?hy0h⟩) hHeld ?rest0h
        case hy0h => (intro W hSw; (try dsimp only at hSw); go_simp; try with_reducible rfl)
        try simp only [Act.put, List.setIfInBounds_toArray, List.set_cons_zero, List.set_cons_succ]
        refine wpAnyH_take (i := 2) (oi := { dst := some 72, op := Go.Op.move (Go.Operand.tmp 1), type := 22, pos := "law.go:169", after := #[], guard := none }) (v := ?v2h) rfl (by kernel_rfl) (by kernel_rfl) (by kernel_rfl) (fun _ _ _ h => h) (Or.inl ⟨by rfl, ?hy2h⟩) hHeld ?rest2h
        case hy2h => (intro W hSw; (try dsimp only at hSw); go_simp; try with_reducible rfl)
        try simp only [Act.put, List.setIfInBounds_toArray, List.set_cons_zero, List.set_cons_succ]
        refine wpAnyH_take (i := 3) (oi := { dst := some 73, op := Go.Op.move (Go.Operand.tmp 14), type := 3, pos := "law.go:169", after := #[], guard := none }) (v := ?v3h) rfl (by kernel_rfl) (by kernel_rfl) (by kernel_rfl) (fun _ _ _ h => h) (Or.inl ⟨by rfl, ?hy3h⟩) hHeld ?rest3h
        case hy3h => (intro W hSw; (try dsimp only at hSw); go_simp; try with_reducible rfl)
        try simp only [Act.put, List.setIfInBounds_toArray, List.set_cons_zero, List.set_cons_succ]
        refine wpAnyH_take (i := 4) (oi := { dst := some 74, op := Go.Op.indexAddr 22 (Go.Operand.tmp 72) (Go.Operand.tmp 73), type := 0, pos := "law.go:169", after := #[{ on := 2, ground := Go.Ground.data }, { on := 3, ground := Go.Ground.data }], guard := none }) (v := ?v4h) rfl (by kernel_rfl) (by kernel_rfl) (by kernel_rfl) (fun _ _ _ h => h) (Or.inl ⟨by rfl, ?hy4h⟩) hHeld ?rest4h
        case hy4h => (intro W hSw; (try dsimp only at hSw); go_simp; try with_reducible rfl)
        try simp only [Act.put, List.setIfInBounds_toArray, List.set_cons_zero, List.set_cons_succ]
        refine wpAnyH_take (i := 5) (oi := { dst := some 75, op := Go.Op.load 33 (Go.Operand.tmp 74), type := 33, pos := "law.go:169", after := #[{ on := 4, ground := Go.Ground.data }], guard := none }) (v := (.agg #[.int .i64 x.wh, .int .i64 x.fi, .int .i64 x.nn, .int .i64 x.tn, x.bs])) rfl (by kernel_rfl) (by kernel_rfl) (by kernel_rfl) (fun _ _ _ h => h) (yieldsIf_load_at (by rfl) 33 _ rfl (a.add (k * 5)) rfl (.agg #[.int .i64 x.wh, .int .i64 x.fi, .int .i64 x.nn, .int .i64 x.tn, x.bs]) (fun W hSw => H5.out W hSw)) hHeld ?_
        try simp only [Act.put, List.setIfInBounds_toArray, List.set_cons_zero, List.set_cons_succ]
        refine wpAnyH_ready (rs := [1]) (by kernel_rfl) (by simp) ?_
        refine AllReadyH.cons (o := { dst := some 71, op := Go.Op.call { callee := Go.Callee.value (Go.Operand.func 9), args := #[Go.Operand.const (Go.Value.int Go.IntKind.i64 1)], argTypes := #[3] }, type := 37, pos := "law.go:169", after := #[], guard := none }) rfl (fun K hK => ?_) AllReadyH.nil
        go_simp
        go_at_call 9
        refine (HN2.out).mono ?_
        rintro e w3 ⟨rfl, hb3⟩
        refine hK.out _ _ (HB.out.trans ((((Below.refl _ wr).drew).trans hb3).mono HB.out.size)) (fun hHeld' => ?_)
        clear hK K hHeld
        have hHeld := hHeld'
        clear hHeld'
        try simp only [Act.put, List.setIfInBounds_toArray, List.set_cons_zero, List.set_cons_succ]
        have HB3 := Lib.hid (((Below.refl _ wr).drew).trans hb3)
        clear hb3
        refine wpAnyH_ready (rs := [6]) (by kernel_rfl) (by simp) ?_
        refine AllReadyH.cons (o := { dst := some 76, op := Go.Op.call { callee := Go.Callee.value (Go.Operand.func 8), args := #[Go.Operand.tmp 70, Go.Operand.tmp 71, Go.Operand.tmp 75], argTypes := #[25, 37, 33] }, type := 38, pos := "law.go:169", after := #[{ on := 0, ground := Go.Ground.data }, { on := 1, ground := Go.Ground.data }, { on := 5, ground := Go.Ground.data }, { on := 1, ground := Go.Ground.chain }], guard := none }) rfl (fun K hK => ?_) AllReadyH.nil
        go_simp
        go_at_call 8
        refine (HD.out w3 HB3.out).mono ?_
        rintro e w4 ⟨p2, v2, b2, rfl, hr4⟩
        refine hK.out _ _ (hr4.bel) (fun hHeld' => ?_)
        clear hK K hHeld
        have hHeld := hHeld'
        clear hHeld'
        try simp only [Act.put, List.setIfInBounds_toArray, List.set_cons_zero, List.set_cons_succ]
        have HR4 := Lib.hid hr4
        clear hr4
        refine wpAnyH_take (i := 7) (oi := { dst := some 69, op := Go.Op.move (Go.Operand.tmp 76), type := 38, pos := "law.go:169", after := #[{ on := 6, ground := Go.Ground.data }], guard := none }) (v := ?v7h) rfl (by kernel_rfl) (by kernel_rfl) (by kernel_rfl) (fun _ _ _ h => h) (Or.inl ⟨by rfl, ?hy7h⟩) hHeld ?rest7h
        case hy7h => (intro W hSw; (try dsimp only at hSw); go_simp; try with_reducible rfl)
        try simp only [Act.put, List.setIfInBounds_toArray, List.set_cons_zero, List.set_cons_succ]
        refine wpAnyH_take (i := 8) (oi := { dst := some 77, op := Go.Op.extract (Go.Operand.tmp 69) 0, type := 25, pos := "law.go:169", after := #[{ on := 7, ground := Go.Ground.data }], guard := none }) (v := ?v8h) rfl (by kernel_rfl) (by kernel_rfl) (by kernel_rfl) (fun _ _ _ h => h) (Or.inl ⟨by rfl, ?hy8h⟩) hHeld ?rest8h
        case hy8h => (intro W hSw; (try dsimp only at hSw); go_simp; try with_reducible rfl)
        try simp only [Act.put, List.setIfInBounds_toArray, List.set_cons_zero, List.set_cons_succ]
        refine wpAnyH_take (i := 9) (oi := { dst := some 78, op := Go.Op.extract (Go.Operand.tmp 69) 1, type := 37, pos := "law.go:169", after := #[{ on := 7, ground := Go.Ground.data }, { on := 11, ground := Go.Ground.gcOnly Go.Departure.lateStores }], guard := none }) (v := ?v9h) rfl (by kernel_rfl) (by kernel_rfl) (by kernel_rfl) (fun _ _ _ h => h) (Or.inl ⟨by rfl, ?hy9h⟩) hHeld ?rest9h
        case hy9h => (intro W hSw; (try dsimp only at hSw); go_simp; try with_reducible rfl)
        try simp only [Act.put, List.setIfInBounds_toArray, List.set_cons_zero, List.set_cons_succ]
        refine wpAnyH_take (i := 10) (oi := { dst := some 79, op := Go.Op.extract (Go.Operand.tmp 69) 2, type := 4, pos := "law.go:169", after := #[{ on := 7, ground := Go.Ground.data }, { on := 11, ground := Go.Ground.gcOnly Go.Departure.lateStores }], guard := none }) (v := ?v10h) rfl (by kernel_rfl) (by kernel_rfl) (by kernel_rfl) (fun _ _ _ h => h) (Or.inl ⟨by rfl, ?hy10h⟩) hHeld ?rest10h
        case hy10h => (intro W hSw; (try dsimp only at hSw); go_simp; try with_reducible rfl)
        try simp only [Act.put, List.setIfInBounds_toArray, List.set_cons_zero, List.set_cons_succ]
        refine wpAnyH_take (i := 11) (oi := { dst := some 11, op := Go.Op.assign (Go.Operand.tmp 77), type := 25, pos := "law.go:169", after := #[{ on := 8, ground := Go.Ground.data }, { on := 6, ground := Go.Ground.chain }, { on := 0, ground := Go.Ground.phase }, { on := 1, ground := Go.Ground.phase }, { on := 2, ground := Go.Ground.phase }, { on := 3, ground := Go.Ground.phase }, { on := 4, ground := Go.Ground.phase }, { on := 5, ground := Go.Ground.phase }, { on := 6, ground := Go.Ground.phase }, { on := 7, ground := Go.Ground.phase }, { on := 8, ground := Go.Ground.phase }, { on := 9, ground := Go.Ground.textOnly Go.Departure.lateStores }, { on := 10, ground := Go.Ground.textOnly Go.Departure.lateStores }], guard := none }) (v := ?v11h) rfl (by kernel_rfl) (by kernel_rfl) (by kernel_rfl) (fun _ _ _ h => h) (Or.inl ⟨by rfl, ?hy11h⟩) hHeld ?rest11h
        case hy11h => (intro W hSw; (try dsimp only at hSw); go_simp; try with_reducible rfl)
        try simp only [Act.put, List.setIfInBounds_toArray, List.set_cons_zero, List.set_cons_succ]
        refine wpAnyH_done (by kernel_rfl) ?_ _
        try dsimp only
        try simp only [Act.put, List.setIfInBounds_toArray, List.set_cons_zero, List.set_cons_succ]
        -- END hand_lawH
        have z0 := (HC.out w4 HR4.out.bel).1
        by_cases h4 : x.wh = 4
        · rw [h4] at z0
          have HRd : Hid (Calls Tryd.prog 10 #[.pointer (some ⟨p2, 0, none⟩), .int .i64 f] w4 fun e W' => e = .returned (.string ⟨((actD D x).F f).toArray⟩) ∧ HRun w W' p2 (actD D x) nilS ([] : List (List UInt8))) := Lib.hid (by
            have h := h_read (HR4.out.nil) HE.out f
            rw [readS_nat _ _ hf] at h
            exact h)
          have HAp : Hid (∀ w5, HRun w w5 p2 (actD D x) nilS ([] : List (List UInt8)) → ∃ v6 w6, (Builtin.append_ #[29, 29] 29 #[nilS, .slice (some ⟨w5.heap.size, 0, none⟩) 1 1]).run Tryd.prog (w5.alloc (.cells #[.string ⟨((actD D x).F f).toArray⟩] 9)) = .ok v6 w6 ∧ HRun w w6 p2 (actD D x) v6 (([] : List (List UInt8)) ++ [(actD D x).F f])) := Lib.hid fun w5 h5 => HRun.append (h5.below ((Below.refl _ w5).alloc (Nat.le_refl _) _)) w5.heap.size (alloc_cell rfl) (by simp)
          have HO := Lib.hid (And.intro (HadOf.act4 (f := f) (D := D) x h4) (show (actD D x).L.length ≤ k + 1 ∧ (([] : List (List UInt8)) ++ [(actD D x).F f]).length ≤ k + 1 + 1 from (by have h1 := few_act D x; have h2 := HI.out.2.2.1; have h3 := HI.out.2.2.2; exact ⟨by omega, by rw [List.length_append]; simp; try omega⟩)))
          clear HI HR4 HD HC H5 HN2 HB3 HB
          generalize (actD D x).F f = fx at *
          generalize actD D x = DD at *
          go_wp2_with (first | (go_at_call 10; refine HRd.out.mono ?_; rintro e w5 ⟨rfl, hr5⟩; obtain ⟨v6, w6, hap, hr6⟩ := HAp.out w5 hr5; have HR6 := Lib.hid hr6; clear hr6 hr5) | (at_builtin; refine wpList_app rfl _ _ _ _ rfl _ _ rfl rfl _ w6 hap ?_))
          go_roundw
          case rel => exact ⟨k + 1, p2, DD, ([] : List (List UInt8)) ++ [fx], v6, by omega, rfl, by go_num, rfl, Lib.hid ⟨HR6.out, HO.out.1, HO.out.2.1, HO.out.2.2⟩⟩
          case measure => simp [intOf]; omega
        · have z1 : ¬ x.wh = 4 := h4
          have HRd : Hid (Calls Tryd.prog 10 #[.pointer (some ⟨p2, 0, none⟩), .int .i64 f] w4 fun e W' => e = .returned (.string ⟨((actD D x).F f).toArray⟩) ∧ HRun w W' p2 (actD D x) hv H) := Lib.hid (by
            have h := h_read (HR4.out) HE.out f
            rw [readS_nat _ _ hf] at h
            exact h)
          have HAp : Hid (∀ w5, HRun w w5 p2 (actD D x) hv H → ∃ v6 w6, (Builtin.append_ #[29, 29] 29 #[hv, .slice (some ⟨w5.heap.size, 0, none⟩) 1 1]).run Tryd.prog (w5.alloc (.cells #[.string ⟨((actD D x).F f).toArray⟩] 9)) = .ok v6 w6 ∧ HRun w w6 p2 (actD D x) v6 (H ++ [(actD D x).F f])) := Lib.hid fun w5 h5 => HRun.append (h5.below ((Below.refl _ w5).alloc (Nat.le_refl _) _)) w5.heap.size (alloc_cell rfl) (by have := HI.out.2.2.2; have := HL.out; omega)
          have HO := Lib.hid (And.intro (HI.out.2.1.act HI.out.1.inv x h4) (show (actD D x).L.length ≤ k + 1 ∧ (H ++ [(actD D x).F f]).length ≤ k + 1 + 1 from (by have h1 := few_act D x; have h2 := HI.out.2.2.1; have h3 := HI.out.2.2.2; exact ⟨by omega, by rw [List.length_append]; simp; try omega⟩)))
          clear HI HR4 HD HC H5 HN2 HB3 HB
          generalize (actD D x).F f = fx at *
          generalize actD D x = DD at *
          go_wp2_with (first | (go_at_call 10; refine HRd.out.mono ?_; rintro e w5 ⟨rfl, hr5⟩; obtain ⟨v6, w6, hap, hr6⟩ := HAp.out w5 hr5; have HR6 := Lib.hid hr6; clear hr6 hr5) | (at_builtin; refine wpList_app rfl _ _ _ _ rfl _ _ rfl rfl _ w6 hap ?_))
          go_roundw
          case rel => exact ⟨k + 1, p2, DD, H ++ [fx], v6, by omega, rfl, by go_num, rfl, Lib.hid ⟨HR6.out, HO.out.1, HO.out.2.1, HO.out.2.2⟩⟩
          case measure => simp [intOf]; omega
    · have hkl : k = acts.length := by omega
      obtain ⟨i0, a0, b0, e1, e2, hbt⟩ := crash_had HI.out.2.1 keep torn
      have HCr := Lib.hid (h_crash HI.out.1 keep torn hk ht)
      have hdl : (D.crashed (min keep D.L.length) torn).L.length = 0 := rfl
      have HW : Hid (∀ W, HRun w W p (D.crashed (min keep D.L.length) torn) hv H → Calls Tryd.prog 5 #[] W fun e W' => e = .returned (.bool true) ∧ Below w.heap.size w W') := Lib.hid fun W h => (works_trueD W (h.et HE.out)).mono (fun e W' ⟨h1, h2⟩ => ⟨h1, h.bel.trans (h2.mono h.bel.size)⟩)
      have HRd : Hid (∀ W, HRun w W p (D.crashed (min keep D.L.length) torn) hv H → Calls Tryd.prog 10 #[.pointer (some ⟨p, 0, none⟩), .int .i64 f] W fun e W' => e = .returned (.string ⟨((D.crashed (min keep D.L.length) torn).F f).toArray⟩) ∧ HRun w W' p (D.crashed (min keep D.L.length) torn) hv H) := Lib.hid fun W h => by
        have h2 := h_read h HE.out f
        rw [readS_nat _ _ hf] at h2
        exact h2
      have HLo : Hid (∀ W, HRun w W p (D.crashed (min keep D.L.length) torn) hv H → Calls Tryd.prog 12 #[.pointer (some ⟨p, 0, none⟩)] W fun e W' => e = .returned (.int .i64 0) ∧ HRun w W' p (D.crashed (min keep D.L.length) torn) hv H) := Lib.hid fun W h => by
        have h2 := h_loose h
        rw [hdl] at h2
        exact h2
      have hcb := condB_of hbt
      have hlen := HI.out.2.2.2
      have hlt0 := (List.getElem?_eq_some_iff.1 e1).1
      have hrow : ∃ g cap2, hv = .slice (some ⟨g, 0, none⟩) H.length cap2 ∧ ∀ W, HRun w W p (D.crashed (min keep D.L.length) torn) hv H → ∀ j l, H[j]? = some l → W.cell? ⟨g, j, none⟩ = some (.string ⟨l.toArray⟩) := by
        obtain ⟨_, _, _, _, h4, _⟩ := HI.out.1
        rcases h4.2 with ⟨_, h0⟩ | ⟨g, cap2, cur, e0, _⟩
        · omega
        · refine ⟨g, cap2, e0, fun W h j l hj => ?_⟩
          obtain ⟨_, _, _, _, h5, _⟩ := h
          have hc := h5.cells (g := g) (by rw [e0]; rfl) j (.string ⟨l.toArray⟩) (by rw [cS, List.getElem?_map, hj]; rfl)
          have e : ((⟨g, 0, none⟩ : Addr).add j) = ⟨g, j, none⟩ := by
            unfold Addr.add
            split
            · simp_all
            · simp
          rw [e] at hc
          exact hc
      obtain ⟨g, cap2, rfl, hcells⟩ := hrow
      have HCe := Lib.hid hcells
      have HI2 := Lib.hid (And.intro e1 e2)
      have hH : H.length ≤ 21 := by have := HL.out; omega
      clear HI hbt e1 e2 hcells hlen
      generalize D.crashed (min keep D.L.length) torn = DC at *
      generalize (DC.F f) = now at *
      obtain ⟨n, hn⟩ : ∃ n, H.length = n := ⟨_, rfl⟩
      obtain ⟨NN, hNN⟩ : ∃ NN : ByteArray, ⟨now.toArray⟩ = NN := ⟨_, rfl⟩
      rw [hNN] at HRd hcb
      rw [hn] at HCr HRd HLo HW HCe hlt0 hH
      have hn0 : (n : Int) ≤ 21 := by omega
      have hn1 : (1 : Int) ≤ n := by omega
      clear hNN hdl
      rw [hn]
      go_wp2_with (first | (go_at_call 7; refine (lnum_any _ _).mono ?_; rintro e w3 ⟨rfl, rfl⟩) | (go_at_call 11; refine HCr.out.mono ?_; rintro e w5 ⟨rfl, hr5⟩; have HR5 := Lib.hid hr5; clear hr5) | (go_at_call 12; refine (HLo.out _ HR5.out).mono ?_; rintro e w6 ⟨rfl, hr6⟩; have HR6 := Lib.hid hr6; clear hr6) | (go_at_call 10; refine (HRd.out _ HR6.out).mono ?_; rintro e w7 ⟨rfl, hr7⟩; have HR7 := Lib.hid hr7; clear hr7))
      clear HRd HLo HCr HR5 HR6 hk' hlt hkl q0 q1 q2 q3 q4 q5 HF HA
      go_loopw [16, 17] (fun i _ W => ∃ j : Nat, j ≤ i0 ∧ i = .int .i64 j ∧ Hid (HRun w W p DC (.slice (some ⟨g, 0, none⟩) n cap2) H)) (fun i _ _ => n - (intOf i).toNat)
      case atStart => exact ⟨0, Nat.zero_le _, rfl, HR7⟩
      case round =>
        obtain ⟨j, hji, rfl, HX⟩ := hrel
        clear HR7
        have hjn : j < n := by omega
        have hjH : j < H.length := by omega
        obtain ⟨m, hm⟩ : ∃ m, nextI H j = m := ⟨_, rfl⟩
        have hm1 : m = min (j + 1) (n - 1) := by rw [← hm, ← hn]; rfl
        have hmH : m < H.length := by omega
        obtain ⟨A, hA⟩ : ∃ A : ByteArray, ⟨(H[j]).toArray⟩ = A := ⟨_, rfl⟩
        obtain ⟨B, hB⟩ : ∃ B : ByteArray, ⟨(H[m]).toArray⟩ = B := ⟨_, rfl⟩
        have cA := HCe.out _ HX.out j _ (List.getElem?_eq_getElem hjH)
        rw [hA] at cA
        have cB := HCe.out _ HX.out m _ (List.getElem?_eq_getElem hmH)
        rw [hB] at cB
        have hno : ¬ condB NN A B → j + 1 ≤ i0 := fun hc => by
          rcases Nat.lt_or_ge j i0 with h | h
          · exact h
          · exfalso
            have e : j = i0 := by omega
            subst e
            have h1 := HI2.out.1
            have h2 := HI2.out.2
            rw [hm] at h2
            rw [List.getElem?_eq_getElem hjH] at h1
            rw [List.getElem?_eq_getElem hmH] at h2
            have h1' := Option.some.inj h1
            have h2' := Option.some.inj h2
            rw [← h1', hA, ← h2', hB] at hcb
            exact hc hcb
        have HNO := Lib.hid hno
        have hmin : min ((j : Int) + 1) ((n : Int) - 1) = (m : Int) := by omega
        have hj0 : (0 : Int) ≤ (j : Int) := by omega
        have hj1 : (j : Int) < (n : Int) := by omega
        have hm0 : (0 : Int) ≤ (m : Int) := by omega
        have hm2 : (m : Int) < (n : Int) := by omega
        have HXq := Lib.hid (fun q => HX.out.below (below_drewN (Below.refl _ _) q))
        have HWq := Lib.hid (fun q => HW.out _ (HXq.out q))
        clear hno hcb hm hm1 hmH hA hB hjH HI2 HCe HX HW
        go_upto_region 20 with fail
        by_cases c1 : NN = A
        · have d1 : (NN.toList == A.toList) = true := tl_true c1
          clear c1 HNO
          go_quiet (fail)
          go_wp2_with (first | (go_at_call 5; refine (HWq.out nq).mono ?_; rintro e w8 ⟨rfl, hb8⟩))
          go_ret
          exact ⟨rfl, hb8⟩
        · have d1 : (NN.toList == A.toList) = false := tl_false c1
          by_cases c2 : (NN.size : Int) ≤ (B.size : Int)
          · have d2 : decide ((NN.size : Int) ≤ (B.size : Int)) = true := decide_eq_true c2
            by_cases c3 : (A.size : Int) ≤ (NN.size : Int)
            · have d3 : decide ((A.size : Int) ≤ (NN.size : Int)) = true := decide_eq_true c3
              by_cases c4 : B.extract 0 NN.size = NN
              · have d4 : ((B.extract 0 NN.size).toList == NN.toList) = true := tl_true c4
                by_cases c5 : NN.extract 0 A.size = A
                · have d5 : ((NN.extract 0 A.size).toList == A.toList) = true := tl_true c5
                  clear c1 c4 c5 HNO
                  go_quiet (fail)
                  go_wp2_with (first | (go_at_call 5; refine (HWq.out nq).mono ?_; rintro e w8 ⟨rfl, hb8⟩))
                  go_ret
                  exact ⟨rfl, hb8⟩
                · have d5 : ((NN.extract 0 A.size).toList == A.toList) = false := tl_false c5
                  have hc : ¬ condB NN A B := fun h => by
                    rcases h with h | ⟨h1, h2, h3, h4⟩
                    · exact c1 h
                    · exact c5 h4
                  clear c1 c4 c5
                  go_quiet (fail)
                  go_wp2_with fail
                  go_roundw
                  case rel => exact ⟨j + 1, HNO.out hc, by go_num, Lib.hid (HXq.out nq)⟩
                  case measure => simp [intOf]; omega
              · have d4 : ((B.extract 0 NN.size).toList == NN.toList) = false := tl_false c4
                have hc : ¬ condB NN A B := fun h => by
                  rcases h with h | ⟨h1, h2, h3, h4⟩
                  · exact c1 h
                  · exact c4 h3
                clear c1 c4
                go_quiet (fail)
                go_wp2_with fail
                go_roundw
                case rel => exact ⟨j + 1, HNO.out hc, by go_num, Lib.hid (HXq.out nq)⟩
                case measure => simp [intOf]; omega
            · have d3 : decide ((A.size : Int) ≤ (NN.size : Int)) = false := decide_eq_false c3
              have hc : ¬ condB NN A B := fun h => by
                rcases h with h | ⟨h1, h2, h3, h4⟩
                · exact c1 h
                · exact c3 h2
              clear c1
              go_quiet (fail)
              go_wp2_with fail
              go_roundw
              case rel => exact ⟨j + 1, HNO.out hc, by go_num, Lib.hid (HXq.out nq)⟩
              case measure => simp [intOf]; omega
          · have d2 : decide ((NN.size : Int) ≤ (B.size : Int)) = false := decide_eq_false c2
            have hc : ¬ condB NN A B := fun h => by
              rcases h with h | ⟨h1, h2, h3, h4⟩
              · exact c1 h
              · exact c2 h1
            clear c1
            go_quiet (fail)
            go_wp2_with fail
            go_roundw
            case rel => exact ⟨j + 1, HNO.out hc, by go_num, Lib.hid (HXq.out nq)⟩
            case measure => simp [intOf]; omega
end Go.Proofs.YtlnemefegkjjiaaDoor
