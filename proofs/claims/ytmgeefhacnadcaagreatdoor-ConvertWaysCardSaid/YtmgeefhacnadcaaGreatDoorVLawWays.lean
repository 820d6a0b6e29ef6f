/-
  swingbridgelaw06.ConvertWays: true.
-/
import Derived.Test.YtmgeefhacnadcaaGreatDoorVWys
namespace Go.Proofs.YtmgeefhacnadcaaGreatDoor
open Go.RowKit Go.Shelf
attribute [local go_sem] Oper.semAt_some

theorem add_block6 (a : Addr) (n : Nat) : (a.add n).block = a.block := by unfold Addr.add; split <;> rfl
set_option maxRecDepth 100000 in
set_option maxHeartbeats 8000000 in
theorem lawW6_true (many : Int) (w : World) (hE : Env w) (hm0 : -9223372036854775808 ≤ many) (hm1 : many ≤ 9223372036854775807) :
    Calls Tryz.prog 5 #[.int .i64 many] w fun e w' => e = .returned (.bool true) ∧ Below w.heap.size w w' := by
  obtain ⟨i0, hi0, hz0, hz1, hz2⟩ := info_parts infoP
  have HWK : Hid (∀ W, Below w.heap.size w W → Calls Tryz.prog 9 #[] W fun e w' => e = .returned (.bool true) ∧ Below W.heap.size W w') := Lib.hid (fun W hb => l6works_true W (hE.keep hb))
  have HI0 := Lib.hid hi0
  have HZ0 := Lib.hid (And.intro hz0 (And.intro hz1 hz2))
  clear hE hi0 hz0 hz1 hz2
  refine (callsIn_wide (n := 5)).1 ?_
  refine callsIn_of_wp_marks Tryz.func5 rfl trivial ?_ rfl
  simp only [Tryz.ntmps5, List.size_toArray, List.length_cons, List.length_nil, Nat.reduceAdd, Nat.reduceSub, Array.replicate_succ, Array.replicate_zero, List.push_toArray, List.append_toArray, List.nil_append, List.cons_append]
  refine wpIn_wide.2 ?_
  go_wp2_with fail
  obtain ⟨W0, hW0⟩ : ∃ W0, ((w.alloc (.cells #[.int .i64 many] 3)).alloc (.cells #[.bool false] 4)).alloc (.cells #[.slice none 0 0] 45) = W0 := ⟨_, rfl⟩
  have hS0 : Sw w many W0 (.slice none 0 0) (.slice none 0 0) [] := by
    subst hW0
    exact ⟨by simp [go_sem], by simp [go_sem], by simp [go_sem], by simp [go_sem], by simp [go_sem], World.ownsRow_nil _ _ _ _, (((Below.refl _ w).alloc (by simp) _).alloc (by simp) _).alloc (by simp; omega) _⟩
  rw [hW0]
  have HS0 := Lib.hid hS0
  clear hS0 hW0
  go_loopw [4] (fun i wr => ∃ (a : Nat) (v : Value), a ≤ 4 ∧ i = .int .i64 ((a : Int) + 1) ∧ Hid (Sw w many wr v v ((List.range (4 * a)).filter isW))) (fun i _ => 5 - (intOf i).toNat)
  case atStart => exact ⟨0, _, by omega, rfl, HS0⟩
  case round =>
    obtain ⟨a, v0, ha, rfl, HS1⟩ := hrel
    clear HS0
    by_cases h4 : a < 4
    · have hd : decide ((a : Int) + 1 ≤ 4) = true := decide_eq_true (by omega)
      go_wp2_with fail
      clear hd
      go_loopw [5] (fun i wr => ∃ (b : Nat) (v : Value), b ≤ 4 ∧ i = .int .i64 ((b : Int) + 1) ∧ Hid (Sw w many wr v v ((List.range (4 * a + b)).filter isW))) (fun i _ => 5 - (intOf i).toNat)
      case atStart => exact ⟨0, _, by omega, rfl, HS1⟩
      case round =>
        obtain ⟨b, v, hb, rfl, HS⟩ := hrel
        clear HS1
        by_cases hb4 : b < 4
        · have hway := isW_way a b h4 hb4
          have C := fun W => r6Way_any ((a : Int) + 1) ((b : Int) + 1) W
          rw [hway] at C
          have HC := Lib.hid C
          clear C hway
          cases hi : isW (4 * a + b)
          · have HS2 := Lib.hid (show Sw w many wr v v ((List.range (4 * a + (b + 1))).filter isW) by rw [show 4 * a + (b + 1) = 4 * a + b + 1 by omega, List.range_succ, filt_skip hi]; exact HS.out)
            rw [hi] at HC
            clear hi HS
            go_wp2_with (first | (go_at_call 16; refine (HC.out _).mono ?_; rintro e w2 ⟨rfl, rfl⟩))
            go_roundw
            case rel => exact ⟨b + 1, v, by omega, by go_num, HS2⟩
            case measure => simp [intOf]; omega
          · rw [hi] at HC
            have hc3 : wr.cell? ⟨w.heap.size + 1 + 1, 0, none⟩ = some v := HS.out.at3
            have hz := HS.out.size
            have HNX := Lib.hid (show pcells ((List.range (4 * a + (b + 1))).filter isW) = pcells ((List.range (4 * a + b)).filter isW) ++ [.int .i64 ((a : Int) + 1), .int .i64 ((b : Int) + 1)] by
              rw [show 4 * a + (b + 1) = 4 * a + b + 1 by omega, List.range_succ, filt_next hi, pcells_snoc]
              unfold pc2
              rw [show (4 * a + b) / 4 = a by omega, show (4 * a + b) % 4 = b by omega])
            have HNL := Lib.hid (show ((List.range (4 * a + (b + 1))).filter isW).length = ((List.range (4 * a + b)).filter isW).length + 1 by
              rw [show 4 * a + (b + 1) = 4 * a + b + 1 by omega, List.range_succ, filt_next hi]
              simp)
            have hle : ((List.range (4 * a + b)).filter isW).length ≤ 16 := Nat.le_trans (List.length_filter_le _ _) (by simp; omega)
            clear hi
            generalize ((List.range (4 * a + b)).filter isW) = l at *
            obtain ⟨l', hl'⟩ : ∃ l', ((List.range (4 * a + (b + 1))).filter isW) = l' := ⟨_, rfl⟩
            have HL := Lib.hid hl'
            rw [hl'] at HNX HNL
            clear hl'
            have hlb : w.heap.size + 2 < wr.heap.size := by omega
            go_wp2_with (first | (go_at_call 16; refine (HC.out _).mono ?_; rintro e w2 ⟨rfl, rfl⟩) | (at_builtin; refine wpList_append_own _ rfl _ _ 45 rfl (w.heap.size + 3) 46 i0 (.agg #[.int .i64 0, .int .i64 0]) 2 16 Tryz.underlying45 HI0.out HZ0.out.1 HZ0.out.2.1 HZ0.out.2.2 rfl (by decide) _ l.length (pcells l) rfl (HS.out.row.alloc _) ⟨wr.heap.size, 0, none⟩ 1 1 [.int .i64 ((a : Int) + 1), .int .i64 ((b : Int) + 1)] rfl rfl ?e1 ?e2 ?e3 ?e4 ?e5 ?_))
            case e1 =>
              intro j' u' hj'
              match j', hj' with
              | 0, hj' => simp at hj'; subst hj'; simp [Addr.add]
              | 1, hj' => simp at hj'; subst hj'; simp [Addr.add]
            case e2 => intro u' hu'; simp at hu'; rcases hu' with rfl | rfl <;> rfl
            case e3 => unfold maxLen; omega
            case e4 => omega
            case e5 => simp; omega
            intro v4 w4 hown4 hg4 _
            rw [← HNX.out, ← HNL.out] at hown4
            obtain ⟨aa, ca, e4⟩ := row2_slice hown4
            subst e4
            have hS4 : Sw w many w4 v (.slice aa l'.length ca) l' := (HS.out.alloc _).grown hg4 (fun k hk => (HS.out.row.lt k hk).1) hown4
            have h3 : w4.cell? ⟨w.heap.size + 1 + 1, 0, none⟩ = some v := hS4.at3
            have h3F : w4.frozen? ⟨w.heap.size + 1 + 1, 0, none⟩ = false := hS4.at3F
            have HS5 := Lib.hid (hS4.put (.slice aa l'.length ca))
            clear hown4 hg4 hS4 hc3
            go_wp2_with fail
            go_roundw
            case rel => exact ⟨b + 1, .slice aa l'.length ca, by omega, by go_num, by rw [HL.out]; exact HS5⟩
            case measure => simp [intOf]; omega
        · obtain rfl : b = 4 := by omega
          have HS2 := Lib.hid (show Sw w many wr v v ((List.range (4 * (a + 1))).filter isW) from HS.out)
          clear HS
          go_wp2_with fail
          go_roundw
          case rel => exact ⟨a + 1, v, by omega, by go_num, HS2⟩
          case measure => simp [intOf]; omega
    · obtain rfl : a = 4 := by omega
      have HS2 : Hid (Sw w many wr v0 v0 waysP) := Lib.hid HS1.out
      obtain ⟨w2, hw2⟩ : ∃ w2, wr = w2 := ⟨_, rfl⟩
      subst hw2
      have hElen : waysP.length ≤ 16 := by decide
      have HSEQ := Lib.hid (fun W => ways_turns 4 (by decide) W)
      clear HS1 h4
      generalize waysP = E at *
      have hnf : ∀ W, (binOp .eql 48 (.func (.func 35) #[] #[]) .nilFunc).run Tryz.prog W = .ok (.bool false) W := fun W => rfl
      go_wp2_with (first | (go_at_call 17; refine (Ways_any _).mono ?_; rintro e w' ⟨rfl, rfl⟩))
      refine wp_loop_rounds 3 ?_
      rw [rounds_succ]
      go_wp2_with fail
      obtain ⟨W3, hW3⟩ : ∃ W3, (wr.alloc (.cells #[.int .i64 0] 3)).alloc (.cells #[.int .i64 0] 3) = W3 := ⟨_, rfl⟩
      have HB0 : Hid (Below wr.heap.size wr W3) := Lib.hid (by rw [← hW3]; exact ((Below.refl _ _).alloc (Nat.le_refl _) _).alloc (by simp) _)
      have hz3 : W3.heap.size = wr.heap.size + 1 + 1 := by rw [← hW3]; simp
      have hz13 : wr.heap.size + 1 < W3.heap.size := by omega
      have hzw2 : w.heap.size ≤ wr.heap.size := by have := HS2.out.size; omega
      have hzw : w.heap.size ≤ W3.heap.size := by omega
      have HT0 : Hid (W3.cell? ⟨wr.heap.size, 0, none⟩ = some (.int .i64 0)) := Lib.hid (by rw [← hW3]; simp [go_sem])
      have HEI0 : Hid (EI w W3 (wr.heap.size + 1) 0 W3) := Lib.hid ⟨Nat.le_refl _, fun _ _ _ => rfl, HS2.out.below.trans (HB0.out.mono hzw2), by rw [← hW3]; simp [go_sem], by rw [← hW3]; simp [go_sem]⟩
      rw [hW3]
      clear hW3
      refine (wpIn_wide (n := 5)).1 ?_
      refine wpIn_turns (F := Fence.wide) (G := fun _ => False) rfl (by decide) (gf := 35) (lb := #[]) rfl trivial (enters_of Tryz.func35 (by kernel_rfl) rfl)
        (HSEQ.out W3) (fun k hk => hk.elim) (fun x => rfl)
        (fun pre W => EI w W3 (wr.heap.size + 1) pre.length W ∧ (pre = [] ∨ (pre.length : Int) < many))
        (fun c pre W => c = .exit 6 ∧ EI w W3 (wr.heap.size + 1) pre.length W ∧ 1 ≤ pre.length ∧ many ≤ pre.length ∧ (pre.length = 1 ∨ (pre.length : Int) - 1 < many))
        (fun s A A' h hb => ⟨h.1.keep hb hz13 hzw, h.2⟩)
        (fun c s A A' h hb => ⟨h.1, h.2.1.keep hb hz13 hzw, h.2.2⟩)
        ⟨HEI0.out, .inl rfl⟩
        (fun x => { tmps := #[Value.int .i64 many, Value.pointer (some { block := w.heap.size, off := 0 }), Value.pointer (some { block := w.heap.size + 1, off := 0 }), Value.pointer (some { block := w.heap.size + 1 + 1, off := 0 }), Value.int .i64 5, u5, Value.func (.func 35) #[] #[], Value.pointer (some { block := wr.heap.size, off := 0 }), Value.pointer (some { block := wr.heap.size + 1, off := 0 }), .int .i64 ((x / 4 : Nat) + 1 : Int), .int .i64 ((x % 4 : Nat) + 1 : Int), Value.int .i64 5, Value.bool false, u13, u14, u15, u16, u17, u18, u19, u20, u21, u22, u23, u24, u25, u26, u27, Value.func (.func 35) #[] #[], Value.func (.func 35) #[] #[], Value.bool false, Value.int .i64 0, Value.bool true, undef, undef, Value.func (.func 35) #[] #[], .int .i64 ((x / 4 : Nat) + 1 : Int), .int .i64 ((x % 4 : Nat) + 1 : Int), undef, undef, undef, undef, undef, undef, undef, undef, undef, undef, undef, undef, undef, undef, undef, undef, undef, undef, undef, undef, undef, undef, undef, undef, undef, undef, undef, undef, undef, undef, undef, undef, undef, undef, undef, undef, undef, undef, undef, undef, undef, undef, undef, undef, undef, undef, undef, undef, undef, undef, undef, undef, undef, undef], defers := [] }) ?assign0 ?body0 ?done0 ?stop0
      case assign0 =>
        intro l x W K hK
        simp only [encP]
        gi_wp2
        exact hK
      case body0 =>
        rintro l pre x W ⟨hei, hq⟩ hsp hszW
        obtain ⟨hlt, hx⟩ := pre_at hsp
        obtain ⟨a3, c3, e3, h3lo, h3hi, h3⟩ := row2_cell HS2.out.row rfl (by omega)
        have hsz := HB0.out.size
        have hzs := HS2.out.size
        have up : ∀ p : Addr, p.block < wr.heap.size → W.cell? p = wr.cell? p := fun p hp => (hei.cell (by omega) (by omega)).trans (HB0.out.cell hp)
        have g4 : W.cell? ⟨w.heap.size, 0, none⟩ = some (.int .i64 many) := (up _ (by simp; omega)).trans HS2.out.many
        have g3 : W.cell? ⟨w.heap.size + 1 + 1, 0, none⟩ = some v0 := (up _ (by simp; omega)).trans HS2.out.at3
        have g7 : W.cell? ⟨wr.heap.size, 0, none⟩ = some (.int .i64 0) := (hei.cell (by simp; omega) (by simp)).trans HT0.out
        have g8 := hei.at13
        have g8F := hei.at13F
        have h3x := h3 pre.length hlt
        rw [hx] at h3x
        have k5 := (up (a3.add (pre.length * 2)) (by rw [add_block6]; omega)).trans h3x.1
        have k6 := (up ⟨(a3.add (pre.length * 2)).block, (a3.add (pre.length * 2)).off + 1, none⟩ (by show (a3.add (pre.length * 2)).block < _; rw [add_block6]; omega)).trans h3x.2
        rw [e3] at g3
        have hd : decide ((E.length : Int) ≤ (pre.length : Int)) = false := by simp; omega
        have hlt2 : (pre.length : Int) < (E.length : Int) := by omega
        have hlen : (pre ++ [x]).length = pre.length + 1 := by simp
        have HEIB := Lib.hid hei
        have HQ := Lib.hid hq
        have HLEN := Lib.hid hlen
        clear hei hq up h3 h3x e3 hx hsp hlen
        dsimp only
        generalize ((x / 4 : Nat) + 1 : Int) = p at *
        generalize ((x % 4 : Nat) + 1 : Int) = q at *
        by_cases hmb : many ≤ (pre.length : Int) + 1
        · gi_wp2_with fail
          exact ⟨(Keep.refl _ _ W).setCell (p := ⟨wr.heap.size + 1, 0, none⟩) (show wr.heap.size + 1 < _ by omega) (fun h => h) _, rfl, by rw [HLEN.out]; exact HEIB.out.next (by omega), by rw [HLEN.out]; omega, by rw [HLEN.out]; omega, by rw [HLEN.out]; rcases HQ.out with h | h; (· left; rw [h]; rfl); (· right; omega)⟩
        · gi_wp2_with fail
          exact ⟨(Keep.refl _ _ W).setCell (p := ⟨wr.heap.size + 1, 0, none⟩) (show wr.heap.size + 1 < _ by omega) (fun h => h) _, by rw [HLEN.out]; exact HEIB.out.next (by omega), .inr (by rw [HLEN.out]; omega)⟩
      case done0 =>
        rintro xs Wa hxs ⟨hei, hq⟩ hD
        rw [hxs] at hei hq
        clear hxs xs
        have hsz := HB0.out.size
        have hzs := HS2.out.size
        have up : ∀ p : Addr, p.block < wr.heap.size → Wa.cell? p = wr.cell? p := fun p hp => (hei.cell (by omega) (by omega)).trans (HB0.out.cell hp)
        have g4 : Wa.cell? ⟨w.heap.size, 0, none⟩ = some (.int .i64 many) := (up _ (by simp; omega)).trans HS2.out.many
        have g3 : Wa.cell? ⟨w.heap.size + 1 + 1, 0, none⟩ = some v0 := (up _ (by simp; omega)).trans HS2.out.at3
        have g7 : Wa.cell? ⟨wr.heap.size, 0, none⟩ = some (.int .i64 0) := (hei.cell (by simp; omega) (by simp)).trans HT0.out
        have g8 := hei.at13
        have g8F := hei.at13F
        obtain ⟨a3, c3, e3⟩ := row2_slice HS2.out.row
        rw [e3] at g3
        clear e3
        have HEI := Lib.hid hei
        have HD := Lib.hid hD
        obtain ⟨M, hM⟩ : ∃ M, max (1 : Int) many = M := ⟨_, rfl⟩
        have hmn : min (E.length : Int) M = E.length := by rcases hq with h | h; (· subst h; simp; omega); (· omega)
        have hne : ((E.length : Int) != (E.length : Int)) = false := by simp
        clear up hei hD hq
        go_wp2_with fail
        have HUP := Lib.hid (HEI.out.up HS2.out.below HB0.out (by omega))
        rw [rounds_succ]
        go_wp2_with fail
        obtain ⟨W4, hW4⟩ : ∃ W4, (Wa.alloc (.cells #[.int .i64 1] 3)).alloc (.cells #[.int .i64 0] 3) = W4 := ⟨_, rfl⟩
        have hzW : wr.heap.size + 1 < Wa.heap.size := by have := HEI.out.size; omega
        have HB1 : Hid (Below wr.heap.size wr W4) := Lib.hid (by rw [← hW4]; exact (HUP.out.alloc HUP.out.size _).alloc (by have := HUP.out.size; simp; omega) _)
        have hz4 : W4.heap.size = Wa.heap.size + 1 + 1 := by rw [← hW4]; simp
        have hz13 : Wa.heap.size + 1 < W4.heap.size := by omega
        have hzw : w.heap.size ≤ W4.heap.size := by omega
        have HT1 : Hid (W4.cell? ⟨Wa.heap.size, 0, none⟩ = some (.int .i64 1)) := Lib.hid (by rw [← hW4]; simp [go_sem])
        have HEI1 : Hid (EI w W4 (Wa.heap.size + 1) 0 W4) := Lib.hid ⟨Nat.le_refl _, fun _ _ _ => rfl, HS2.out.below.trans (HB1.out.mono hzw2), by rw [← hW4]; simp [go_sem], by rw [← hW4]; simp [go_sem]⟩
        have HD4 : Hid (W4.heap[W3.heap.size]? = some (.deferred (some []))) := Lib.hid (by rw [← hW4, Below.heap_alloc _ _ _ (by have := (Array.getElem?_eq_some_iff.1 HD.out).1; simp; omega), Below.heap_alloc _ _ _ (Array.getElem?_eq_some_iff.1 HD.out).1]; exact HD.out)
        try rw [hW4]
        refine (wpIn_wide (n := 5)).1 ?_
        refine wpIn_turns (F := Fence.wide) (G := fun _ => False) rfl (by decide) (gf := 35) (lb := #[]) rfl trivial (enters_of Tryz.func35 (by kernel_rfl) rfl)
          (HSEQ.out W4) (fun k hk => hk.elim) (fun x => rfl)
          (fun pre W => EI w W4 (Wa.heap.size + 1) pre.length W ∧ True)
          (fun _ _ _ => False)
          (fun s A A' h hb => ⟨h.1.keep hb hz13 hzw, h.2⟩)
          (fun _ _ _ _ h _ => h)
          ⟨HEI1.out, trivial⟩
          (fun x => { tmps := #[Value.int .i64 many, Value.pointer (some { block := w.heap.size, off := 0 }), Value.pointer (some { block := w.heap.size + 1, off := 0 }), Value.pointer (some { block := w.heap.size + 1 + 1, off := 0 }), Value.int .i64 5, u5, Value.func (.func 35) #[] #[], Value.pointer (some { block := Wa.heap.size, off := 0 }), Value.pointer (some { block := Wa.heap.size + 1, off := 0 }), .int .i64 ((x / 4 : Nat) + 1 : Int), .int .i64 ((x % 4 : Nat) + 1 : Int), Value.int .i64 5, Value.bool false, u13, u14, u15, u16, u17, u18, u19, u20, u21, u22, u23, u24, u25, u26, u27, Value.func (.func 35) #[] #[], Value.func (.func 35) #[] #[], Value.bool false, Value.int .i64 1, Value.bool true, Value.int .i64 0, Value.int .i64 1, Value.func (.func 35) #[] #[], .int .i64 ((x / 4 : Nat) + 1 : Int), .int .i64 ((x % 4 : Nat) + 1 : Int), undef, undef, undef, undef, undef, undef, undef, undef, undef, undef, undef, undef, undef, undef, undef, undef, undef, undef, undef, undef, undef, undef, undef, undef, undef, undef, undef, undef, undef, undef, undef, Value.int .i64 0, Value.bool true, Value.bool true, Value.int .i64 ↑E.length, Value.slice a3 E.length c3, Value.int .i64 ↑E.length, Value.int .i64 many, Value.int .i64 M, Value.int .i64 ↑E.length, Value.bool false, Value.bool false, Value.bool false, Value.int .i64 0, Value.bool false, Value.bool false, undef, undef, undef, undef, Value.bool false, Value.bool false, Value.int .i64 0, undef], defers := [] }) ?assign1 ?body1 ?done1 ?stop1
        case assign1 =>
          intro l x W K hK
          simp only [encP]
          gi_wp2
          exact hK
        case body1 =>
          rintro l pre x W ⟨hei, hq⟩ hsp hszW
          obtain ⟨hlt, hx⟩ := pre_at hsp
          obtain ⟨a3, c3, e3, h3lo, h3hi, h3⟩ := row2_cell HS2.out.row rfl (by omega)
          have hsz := HB1.out.size
          have hzs := HS2.out.size
          have up : ∀ p : Addr, p.block < wr.heap.size → W.cell? p = wr.cell? p := fun p hp => (hei.cell (by omega) (by omega)).trans (HB1.out.cell hp)
          have g4 : W.cell? ⟨w.heap.size, 0, none⟩ = some (.int .i64 many) := (up _ (by simp; omega)).trans HS2.out.many
          have g3 : W.cell? ⟨w.heap.size + 1 + 1, 0, none⟩ = some v0 := (up _ (by simp; omega)).trans HS2.out.at3
          have g7 : W.cell? ⟨Wa.heap.size, 0, none⟩ = some (.int .i64 1) := (hei.cell (by simp; omega) (by simp)).trans HT1.out
          have g8 := hei.at13
          have g8F := hei.at13F
          have h3x := h3 pre.length hlt
          rw [hx] at h3x
          have k5 := (up (a3.add (pre.length * 2)) (by rw [add_block6]; omega)).trans h3x.1
          have k6 := (up ⟨(a3.add (pre.length * 2)).block, (a3.add (pre.length * 2)).off + 1, none⟩ (by show (a3.add (pre.length * 2)).block < _; rw [add_block6]; omega)).trans h3x.2
          rw [e3] at g3
          have hd : decide ((E.length : Int) ≤ (pre.length : Int)) = false := by simp; omega
          have hlt2 : (pre.length : Int) < (E.length : Int) := by omega
          have hlen : (pre ++ [x]).length = pre.length + 1 := by simp
          have HEIB := Lib.hid hei
          have HQ := Lib.hid hq
          have HLEN := Lib.hid hlen
          clear hei hq up h3 h3x e3 hx hsp hlen
          dsimp only
          generalize ((x / 4 : Nat) + 1 : Int) = p at *
          generalize ((x % 4 : Nat) + 1 : Int) = q at *
          gi_wp2_with fail
          exact ⟨(Keep.refl _ _ W).setCell (p := ⟨Wa.heap.size + 1, 0, none⟩) (show Wa.heap.size + 1 < _ by omega) (fun h => h) _, by rw [HLEN.out]; exact HEIB.out.next (by omega), trivial⟩
        case done1 =>
          rintro xs Wb hxs ⟨hei, _⟩ hD
          rw [hxs] at hei
          clear hxs xs
          have hsz := HB1.out.size
          have hzs := HS2.out.size
          have up : ∀ p : Addr, p.block < wr.heap.size → Wb.cell? p = wr.cell? p := fun p hp => (hei.cell (by omega) (by omega)).trans (HB1.out.cell hp)
          have g4 : Wb.cell? ⟨w.heap.size, 0, none⟩ = some (.int .i64 many) := (up _ (by simp; omega)).trans HS2.out.many
          have g3 : Wb.cell? ⟨w.heap.size + 1 + 1, 0, none⟩ = some v0 := (up _ (by simp; omega)).trans HS2.out.at3
          have g7 : Wb.cell? ⟨Wa.heap.size, 0, none⟩ = some (.int .i64 1) := (hei.cell (by simp; omega) (by simp)).trans HT1.out
          have g8 := hei.at13
          have g8F := hei.at13F
          obtain ⟨a3, c3, e3⟩ := row2_slice HS2.out.row
          rw [e3] at g3
          clear e3
          have HEIb := Lib.hid hei
          have HDb := Lib.hid hD
          have HUPb := Lib.hid (HEIb.out.up HS2.out.below HB1.out (by omega))
          have hne : ((E.length : Int) != (E.length : Int)) = false := by simp
          clear up hei hD
          go_wp2_with fail
          rw [rounds_succ]
          go_wp2_with fail
          refine (HWK.out _ (HS2.out.below.trans ((HUPb.out.alloc HUPb.out.size (.cells #[.int .i64 2] 3)).mono hzw2))).mono ?_
          rintro e w9 ⟨rfl, hb9⟩
          have HB9 := Lib.hid ((HUPb.out.alloc HUPb.out.size (.cells #[.int .i64 2] 3)).trans (hb9.mono (by have := HUPb.out.size; simp; omega)))
          have r0 : w9.cell? ⟨w.heap.size + 1, 0, none⟩ = some (.bool false) := by rw [HB9.out.cell (by have := HS2.out.size; simp; omega)]; exact HS2.out.res
          have r0F : w9.frozen? ⟨w.heap.size + 1, 0, none⟩ = false := by rw [HB9.out.frozen (by have := HS2.out.size; simp; omega)]; exact HS2.out.resF
          have hlb := (Array.getElem?_eq_some_iff.1 HDb.out).1
          have hla := (Array.getElem?_eq_some_iff.1 HD4.out).1
          have hl3 := (Array.getElem?_eq_some_iff.1 HD.out).1
          have D1 : w9.heap[W4.heap.size]? = some (.deferred (some [])) := (hb9.block _ (by simp; omega)).trans ((Below.heap_alloc _ _ _ hlb).trans HDb.out)
          have D0 : w9.heap[W3.heap.size]? = some (.deferred (some [])) := (hb9.block _ (by have := HEIb.out.size; simp; omega)).trans ((Below.heap_alloc _ _ _ (by have := HEIb.out.size; omega)).trans ((HEIb.out.same _ hla (by omega)).trans HD4.out))
          have HD1 := Lib.hid D1
          have HD0 := Lib.hid D0
          clear hb9 D1 D0
          go_wp2_with fail
          have e1 : (w9.setCell ⟨w.heap.size + 1, 0, none⟩ (.bool true)).heap[W4.heap.size]? = some (.deferred (some [])) := (Below.heap_setCell _ _ _ _ (by simp; omega)).trans HD1.out
          have e0 : (w9.setCell ⟨w.heap.size + 1, 0, none⟩ (.bool true)).heap[W3.heap.size]? = some (.deferred (some [])) := (Below.heap_setCell _ _ _ _ (by simp; omega)).trans HD0.out
          rw [hz4] at e1
          rw [hz3] at e0
          refine ⟨by simp, .inl ⟨_, _, rfl, run_takeDeferred e1, ?_⟩⟩
          have e2 : ((w9.setCell ⟨w.heap.size + 1, 0, none⟩ (.bool true)).putObj (Wa.heap.size + 1 + 1) (.deferred none)).heap[wr.heap.size + 1 + 1]? = some (.deferred (some [])) := (World.putObj_heap_other (by omega)).trans e0
          refine ⟨by simp, .inl ⟨_, _, rfl, run_takeDeferred e2, ?_⟩⟩
          have hcell : (((w9.setCell ⟨w.heap.size + 1, 0, none⟩ (.bool true)).putObj (Wa.heap.size + 1 + 1) (.deferred none)).putObj (wr.heap.size + 1 + 1) (.deferred none)).cell? ⟨w.heap.size + 1, 0, none⟩ = some (.bool true) := cell_put (cell_put (World.cell?_setCell_same' _ _ _ (by rw [r0]; rfl)) e1 _) e2 _
          exact ⟨.bool true, by simp [results, Tryz.results5, go_sem, hcell], rfl, below_put (below_put ((HS2.out.below.trans (HB9.out.mono hzw2)).setCell (p := ⟨w.heap.size + 1, 0, none⟩) (by simp) _) (by omega) _) (by omega) _⟩
        case stop1 =>
          intro c pre W _ hix
          exact hix.elim
      case stop0 =>
        rintro c pre Wa hsp ⟨rfl, hei, q1, q2, q3⟩ hD
        have hpl := pre_le hsp
        have hsz := HB0.out.size
        have hzs := HS2.out.size
        have up : ∀ p : Addr, p.block < wr.heap.size → Wa.cell? p = wr.cell? p := fun p hp => (hei.cell (by omega) (by omega)).trans (HB0.out.cell hp)
        have g4 : Wa.cell? ⟨w.heap.size, 0, none⟩ = some (.int .i64 many) := (up _ (by simp; omega)).trans HS2.out.many
        have g3 : Wa.cell? ⟨w.heap.size + 1 + 1, 0, none⟩ = some v0 := (up _ (by simp; omega)).trans HS2.out.at3
        have g7 : Wa.cell? ⟨wr.heap.size, 0, none⟩ = some (.int .i64 0) := (hei.cell (by simp; omega) (by simp)).trans HT0.out
        have g8 := hei.at13
        have g8F := hei.at13F
        obtain ⟨a3, c3, e3⟩ := row2_slice HS2.out.row
        rw [e3] at g3
        clear e3
        have HEI := Lib.hid hei
        have HD := Lib.hid hD
        obtain ⟨M, hM⟩ : ∃ M, max (1 : Int) many = M := ⟨_, rfl⟩
        have hmn : min (E.length : Int) M = (pre.length : Int) := by omega
        have hne : ((pre.length : Int) != (pre.length : Int)) = false := by simp
        clear up hei hD hsp q1 q2 q3
        refine wpIn_wide.2 ?_
        go_wp2_with fail
        have HUP := Lib.hid (HEI.out.up HS2.out.below HB0.out (by omega))
        rw [rounds_succ]
        go_wp2_with fail
        obtain ⟨W4, hW4⟩ : ∃ W4, (Wa.alloc (.cells #[.int .i64 1] 3)).alloc (.cells #[.int .i64 0] 3) = W4 := ⟨_, rfl⟩
        have hzW : wr.heap.size + 1 < Wa.heap.size := by have := HEI.out.size; omega
        have HB1 : Hid (Below wr.heap.size wr W4) := Lib.hid (by rw [← hW4]; exact (HUP.out.alloc HUP.out.size _).alloc (by have := HUP.out.size; simp; omega) _)
        have hz4 : W4.heap.size = Wa.heap.size + 1 + 1 := by rw [← hW4]; simp
        have hz13 : Wa.heap.size + 1 < W4.heap.size := by omega
        have hzw : w.heap.size ≤ W4.heap.size := by omega
        have HT1 : Hid (W4.cell? ⟨Wa.heap.size, 0, none⟩ = some (.int .i64 1)) := Lib.hid (by rw [← hW4]; simp [go_sem])
        have HEI1 : Hid (EI w W4 (Wa.heap.size + 1) 0 W4) := Lib.hid ⟨Nat.le_refl _, fun _ _ _ => rfl, HS2.out.below.trans (HB1.out.mono hzw2), by rw [← hW4]; simp [go_sem], by rw [← hW4]; simp [go_sem]⟩
        have HD4 : Hid (W4.heap[W3.heap.size]? = some (.deferred (some []))) := Lib.hid (by rw [← hW4, Below.heap_alloc _ _ _ (by have := (Array.getElem?_eq_some_iff.1 HD.out).1; simp; omega), Below.heap_alloc _ _ _ (Array.getElem?_eq_some_iff.1 HD.out).1]; exact HD.out)
        try rw [hW4]
        refine (wpIn_wide (n := 5)).1 ?_
        refine wpIn_turns (F := Fence.wide) (G := fun _ => False) rfl (by decide) (gf := 35) (lb := #[]) rfl trivial (enters_of Tryz.func35 (by kernel_rfl) rfl)
          (HSEQ.out W4) (fun k hk => hk.elim) (fun x => rfl)
          (fun pre W => EI w W4 (Wa.heap.size + 1) pre.length W ∧ True)
          (fun _ _ _ => False)
          (fun s A A' h hb => ⟨h.1.keep hb hz13 hzw, h.2⟩)
          (fun _ _ _ _ h _ => h)
          ⟨HEI1.out, trivial⟩
          (fun x => { tmps := #[Value.int .i64 many, Value.pointer (some { block := w.heap.size, off := 0 }), Value.pointer (some { block := w.heap.size + 1, off := 0 }), Value.pointer (some { block := w.heap.size + 1 + 1, off := 0 }), Value.int .i64 5, u5, Value.func (.func 35) #[] #[], Value.pointer (some { block := Wa.heap.size, off := 0 }), Value.pointer (some { block := Wa.heap.size + 1, off := 0 }), .int .i64 ((x / 4 : Nat) + 1 : Int), .int .i64 ((x % 4 : Nat) + 1 : Int), Value.int .i64 5, Value.bool false, u13, u14, u15, u16, u17, u18, u19, u20, u21, u22, u23, u24, u25, u26, u27, Value.func (.func 35) #[] #[], Value.func (.func 35) #[] #[], Value.bool false, Value.int .i64 1, Value.bool true, Value.int .i64 0, Value.int .i64 1, Value.func (.func 35) #[] #[], .int .i64 ((x / 4 : Nat) + 1 : Int), .int .i64 ((x % 4 : Nat) + 1 : Int), undef, undef, undef, undef, undef, undef, undef, undef, undef, undef, undef, undef, undef, undef, undef, undef, undef, undef, undef, undef, undef, undef, undef, undef, undef, undef, undef, undef, undef, undef, undef, Value.int .i64 0, Value.bool true, Value.bool true, Value.int .i64 ↑pre.length, Value.slice a3 E.length c3, Value.int .i64 ↑E.length, Value.int .i64 many, Value.int .i64 M, Value.int .i64 ↑pre.length, Value.bool false, Value.bool false, Value.bool false, Value.int .i64 0, Value.bool false, Value.bool false, undef, undef, undef, undef, Value.bool false, Value.bool false, Value.int .i64 0, undef], defers := [] }) ?assign1 ?body1 ?done1 ?stop1
        case assign1 =>
          intro l x W K hK
          simp only [encP]
          gi_wp2
          exact hK
        case body1 =>
          rintro l pre x W ⟨hei, hq⟩ hsp hszW
          obtain ⟨hlt, hx⟩ := pre_at hsp
          obtain ⟨a3, c3, e3, h3lo, h3hi, h3⟩ := row2_cell HS2.out.row rfl (by omega)
          have hsz := HB1.out.size
          have hzs := HS2.out.size
          have up : ∀ p : Addr, p.block < wr.heap.size → W.cell? p = wr.cell? p := fun p hp => (hei.cell (by omega) (by omega)).trans (HB1.out.cell hp)
          have g4 : W.cell? ⟨w.heap.size, 0, none⟩ = some (.int .i64 many) := (up _ (by simp; omega)).trans HS2.out.many
          have g3 : W.cell? ⟨w.heap.size + 1 + 1, 0, none⟩ = some v0 := (up _ (by simp; omega)).trans HS2.out.at3
          have g7 : W.cell? ⟨Wa.heap.size, 0, none⟩ = some (.int .i64 1) := (hei.cell (by simp; omega) (by simp)).trans HT1.out
          have g8 := hei.at13
          have g8F := hei.at13F
          have h3x := h3 pre.length hlt
          rw [hx] at h3x
          have k5 := (up (a3.add (pre.length * 2)) (by rw [add_block6]; omega)).trans h3x.1
          have k6 := (up ⟨(a3.add (pre.length * 2)).block, (a3.add (pre.length * 2)).off + 1, none⟩ (by show (a3.add (pre.length * 2)).block < _; rw [add_block6]; omega)).trans h3x.2
          rw [e3] at g3
          have hd : decide ((E.length : Int) ≤ (pre.length : Int)) = false := by simp; omega
          have hlt2 : (pre.length : Int) < (E.length : Int) := by omega
          have hlen : (pre ++ [x]).length = pre.length + 1 := by simp
          have HEIB := Lib.hid hei
          have HQ := Lib.hid hq
          have HLEN := Lib.hid hlen
          clear hei hq up h3 h3x e3 hx hsp hlen
          dsimp only
          generalize ((x / 4 : Nat) + 1 : Int) = p at *
          generalize ((x % 4 : Nat) + 1 : Int) = q at *
          gi_wp2_with fail
          exact ⟨(Keep.refl _ _ W).setCell (p := ⟨Wa.heap.size + 1, 0, none⟩) (show Wa.heap.size + 1 < _ by omega) (fun h => h) _, by rw [HLEN.out]; exact HEIB.out.next (by omega), trivial⟩
        case done1 =>
          rintro xs Wb hxs ⟨hei, _⟩ hD
          rw [hxs] at hei
          clear hxs xs
          have hsz := HB1.out.size
          have hzs := HS2.out.size
          have up : ∀ p : Addr, p.block < wr.heap.size → Wb.cell? p = wr.cell? p := fun p hp => (hei.cell (by omega) (by omega)).trans (HB1.out.cell hp)
          have g4 : Wb.cell? ⟨w.heap.size, 0, none⟩ = some (.int .i64 many) := (up _ (by simp; omega)).trans HS2.out.many
          have g3 : Wb.cell? ⟨w.heap.size + 1 + 1, 0, none⟩ = some v0 := (up _ (by simp; omega)).trans HS2.out.at3
          have g7 : Wb.cell? ⟨Wa.heap.size, 0, none⟩ = some (.int .i64 1) := (hei.cell (by simp; omega) (by simp)).trans HT1.out
          have g8 := hei.at13
          have g8F := hei.at13F
          obtain ⟨a3, c3, e3⟩ := row2_slice HS2.out.row
          rw [e3] at g3
          clear e3
          have HEIb := Lib.hid hei
          have HDb := Lib.hid hD
          have HUPb := Lib.hid (HEIb.out.up HS2.out.below HB1.out (by omega))
          have hne : ((E.length : Int) != (E.length : Int)) = false := by simp
          clear up hei hD
          go_wp2_with fail
          rw [rounds_succ]
          go_wp2_with fail
          refine (HWK.out _ (HS2.out.below.trans ((HUPb.out.alloc HUPb.out.size (.cells #[.int .i64 2] 3)).mono hzw2))).mono ?_
          rintro e w9 ⟨rfl, hb9⟩
          have HB9 := Lib.hid ((HUPb.out.alloc HUPb.out.size (.cells #[.int .i64 2] 3)).trans (hb9.mono (by have := HUPb.out.size; simp; omega)))
          have r0 : w9.cell? ⟨w.heap.size + 1, 0, none⟩ = some (.bool false) := by rw [HB9.out.cell (by have := HS2.out.size; simp; omega)]; exact HS2.out.res
          have r0F : w9.frozen? ⟨w.heap.size + 1, 0, none⟩ = false := by rw [HB9.out.frozen (by have := HS2.out.size; simp; omega)]; exact HS2.out.resF
          have hlb := (Array.getElem?_eq_some_iff.1 HDb.out).1
          have hla := (Array.getElem?_eq_some_iff.1 HD4.out).1
          have hl3 := (Array.getElem?_eq_some_iff.1 HD.out).1
          have D1 : w9.heap[W4.heap.size]? = some (.deferred (some [])) := (hb9.block _ (by simp; omega)).trans ((Below.heap_alloc _ _ _ hlb).trans HDb.out)
          have D0 : w9.heap[W3.heap.size]? = some (.deferred (some [])) := (hb9.block _ (by have := HEIb.out.size; simp; omega)).trans ((Below.heap_alloc _ _ _ (by have := HEIb.out.size; omega)).trans ((HEIb.out.same _ hla (by omega)).trans HD4.out))
          have HD1 := Lib.hid D1
          have HD0 := Lib.hid D0
          clear hb9 D1 D0
          go_wp2_with fail
          have e1 : (w9.setCell ⟨w.heap.size + 1, 0, none⟩ (.bool true)).heap[W4.heap.size]? = some (.deferred (some [])) := (Below.heap_setCell _ _ _ _ (by simp; omega)).trans HD1.out
          have e0 : (w9.setCell ⟨w.heap.size + 1, 0, none⟩ (.bool true)).heap[W3.heap.size]? = some (.deferred (some [])) := (Below.heap_setCell _ _ _ _ (by simp; omega)).trans HD0.out
          rw [hz4] at e1
          rw [hz3] at e0
          refine ⟨by simp, .inl ⟨_, _, rfl, run_takeDeferred e1, ?_⟩⟩
          have e2 : ((w9.setCell ⟨w.heap.size + 1, 0, none⟩ (.bool true)).putObj (Wa.heap.size + 1 + 1) (.deferred none)).heap[wr.heap.size + 1 + 1]? = some (.deferred (some [])) := (World.putObj_heap_other (by omega)).trans e0
          refine ⟨by simp, .inl ⟨_, _, rfl, run_takeDeferred e2, ?_⟩⟩
          have hcell : (((w9.setCell ⟨w.heap.size + 1, 0, none⟩ (.bool true)).putObj (Wa.heap.size + 1 + 1) (.deferred none)).putObj (wr.heap.size + 1 + 1) (.deferred none)).cell? ⟨w.heap.size + 1, 0, none⟩ = some (.bool true) := cell_put (cell_put (World.cell?_setCell_same' _ _ _ (by rw [r0]; rfl)) e1 _) e2 _
          exact ⟨.bool true, by simp [results, Tryz.results5, go_sem, hcell], rfl, below_put (below_put ((HS2.out.below.trans (HB9.out.mono hzw2)).setCell (p := ⟨w.heap.size + 1, 0, none⟩) (by simp) _) (by omega) _) (by omega) _⟩
        case stop1 =>
          intro c pre W _ hix
          exact hix.elim
end Go.Proofs.YtmgeefhacnadcaaGreatDoor
