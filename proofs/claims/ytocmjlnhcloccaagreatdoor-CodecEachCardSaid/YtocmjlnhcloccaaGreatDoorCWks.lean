/-
  swingbridgelaw04.few, short, num, works.
-/
import Derived.Test.YtocmjlnhcloccaaGreatDoorSFew
import Derived.Test.YtocmjlnhcloccaaGreatDoorCWid
import Derived.Test.YtocmjlnhcloccaaGreatDoorSWorks
namespace Go.Proofs.YtocmjlnhcloccaaGreatDoor
open Go.RowKit

set_option maxRecDepth 100000 in
set_option maxHeartbeats 2000000 in
theorem few4_any (p : SchV) (S : Sch) (w : World) (hS : SchIn w p S) (m0 : S.cols.length ≤ 9223372036854775807) (m1 : S.key.length ≤ 9223372036854775807) (m2 : S.uqs.length ≤ 9223372036854775807) (m3 : ∀ c ∈ S.cols, c.n.size ≤ 9223372036854775807) (m4 : ∀ l ∈ S.uqs, l.length ≤ 9223372036854775807) :
    Calls Tryz.prog 8 #[.agg #[.slice p.oc S.cols.length p.cc, .slice p.ok S.key.length p.ck, .slice p.ou S.uqs.length p.cu]] w fun e w' => e = .returned (.bool (fewOk S)) ∧ Below w.heap.size w w' := by
  have HC := Lib.hid hS.cols
  have HU := Lib.hid hS.uqs
  have HM3 := Lib.hid m3
  have HM4 := Lib.hid m4
  clear hS m3 m4
  obtain ⟨oc, cc, ok, ck, ou, cu⟩ := p
  obtain ⟨cols, key, uqs⟩ := S
  simp only at *
  by_cases h1 : cols.length ≤ 12 ∧ key.length ≤ 8 ∧ uqs.length ≤ 6
  · obtain ⟨h1, h2, h3⟩ := h1
    have HF := Lib.hid (show fewOk ⟨cols, key, uqs⟩ = (namesTo cols cols.length && placesTo uqs uqs.length) by unfold fewOk; simp [h1, h2, h3])
    have HD := Lib.hid h3
    go_enter Tryz.func8, Tryz.ntmps8
    go_wp2
    go_loop [3] (fun i => ∃ k : Nat, k ≤ cols.length ∧ i = .int .i64 k ∧ Hid (namesTo cols k = true)) (fun i => cols.length - (intOf i).toNat)
    case atStart => exact ⟨0, Nat.zero_le _, rfl, Lib.hid rfl⟩
    case round =>
      obtain ⟨k, hk, rfl, HK⟩ := hrel
      by_cases hlt : k < cols.length
      · obtain ⟨a, rfl, hat⟩ := HC.out k hlt
        obtain ⟨c, hc⟩ : ∃ c, cols[k] = c := ⟨_, rfl⟩
        have hcm := HM3.out c (hc ▸ List.getElem_mem hlt)
        rw [hc] at hat
        have hal := hat.lt
        obtain ⟨q0, q1, q2, q3⟩ := hat
        by_cases hn : c.n.size ≤ 40
        · have HN := Lib.hid (show namesTo cols (k + 1) = true by rw [namesTo_succ cols k c hlt hc, HK.out]; simp [hn])
          clear hc
          go_wp2
          go_round
          case rel => exact ⟨k + 1, by omega, by go_num, HN⟩
          case measure => simp [intOf]; omega
        · have HN := Lib.hid (show fewOk ⟨cols, key, uqs⟩ = false by rw [HF.out, namesTo_no cols k c hlt hc hn]; rfl)
          clear hc
          go_wp2
          go_ret
          exact ⟨by rw [HN.out]; rfl, by go_grown⟩
      · obtain rfl : k = cols.length := by omega
        have HF2 := Lib.hid (show fewOk ⟨cols, key, uqs⟩ = placesTo uqs uqs.length by rw [HF.out, HK.out]; rfl)
        go_wp2
        go_loop [4] (fun i => ∃ k : Nat, k ≤ uqs.length ∧ i = .int .i64 k ∧ Hid (placesTo uqs k = true)) (fun i => uqs.length - (intOf i).toNat)
        case atStart => exact ⟨0, Nat.zero_le _, rfl, Lib.hid rfl⟩
        case round =>
          obtain ⟨k, hk, rfl, HK⟩ := hrel
          by_cases hlt : k < uqs.length
          · obtain ⟨a, ob, cb, rfl, hat, _, _⟩ := HU.out k hlt
            obtain ⟨c, hc⟩ : ∃ c, uqs[k] = c := ⟨_, rfl⟩
            have hcm := HM4.out c (hc ▸ List.getElem_mem hlt)
            rw [hc] at hat
            have hal := World.block_lt_of_cell? w _ hat
            by_cases hn : c.length ≤ 8
            · have HN := Lib.hid (show placesTo uqs (k + 1) = true by rw [placesTo_succ uqs k c hlt hc, HK.out]; simp [hn])
              clear hc
              go_wp2
              go_round
              case rel => exact ⟨k + 1, by omega, by go_num, HN⟩
              case measure => simp [intOf]; omega
            · have HN := Lib.hid (show fewOk ⟨cols, key, uqs⟩ = false by rw [HF2.out, placesTo_no uqs k c hlt hc hn])
              clear hc
              go_wp2
              go_ret
              exact ⟨by rw [HN.out]; rfl, by go_grown⟩
          · obtain rfl : k = uqs.length := by omega
            have HN := Lib.hid (show fewOk ⟨cols, key, uqs⟩ = true by rw [HF2.out, HK.out])
            go_wp2
            go_ret
            exact ⟨by rw [HN.out]; rfl, by go_grown⟩
  · have HN := Lib.hid (show fewOk ⟨cols, key, uqs⟩ = false by
      unfold fewOk
      rw [show (decide (cols.length ≤ 12) && (decide (key.length ≤ 8) && decide (uqs.length ≤ 6))) = false by
        rw [Bool.eq_false_iff]; intro h; apply h1; simpa [and_assoc] using h]
      rfl)
    have hdis : 12 < cols.length ∨ 8 < key.length ∨ 6 < uqs.length := by omega
    clear h1
    go_enter Tryz.func8, Tryz.ntmps8
    go_wp2
    all_goals first
      | (exfalso; omega)
      | (go_ret; exact ⟨by rw [HN.out]; rfl, by go_grown⟩)

set_option maxRecDepth 100000 in
set_option maxHeartbeats 2000000 in
theorem short4_rows (oa : Option Addr) (ca : Nat) (l : List Vl) (w : World) (hl : l.length ≤ 9223372036854775807) (hr : ValsIn w oa l) (hs : ∀ v ∈ l, v.s.size ≤ 9223372036854775807) :
    Calls Tryz.prog 9 #[.slice oa l.length ca, .int .i64 12] w fun e w' => e = .returned (.bool (shortOk l 12)) ∧ w = w' := by
  have HR := Lib.hid hr
  have HS := Lib.hid hs
  clear hr hs
  go_enter Tryz.func9, Tryz.ntmps9
  go_wp2
  go_loop [5] (fun i => ∃ k : Nat, k ≤ l.length ∧ k ≤ 13 ∧ i = .int .i64 k ∧ Hid (sizesTo l k = true)) (fun i => l.length - (intOf i).toNat)
  case atStart => exact ⟨0, Nat.zero_le _, by omega, rfl, Lib.hid rfl⟩
  case round =>
    obtain ⟨k, hk, hk12, rfl, HK⟩ := hrel
    by_cases hlt : k < l.length
    · by_cases h12 : k ≤ 12
      · obtain ⟨a, rfl, hat⟩ := HR.out k hlt
        obtain ⟨c, hc⟩ : ∃ c, l[k] = c := ⟨_, rfl⟩
        have hcm := HS.out c (hc ▸ List.getElem_mem hlt)
        rw [hc] at hat
        obtain ⟨q0, q1, q2, q3⟩ := hat
        by_cases hn : c.s.size ≤ 300
        · have HN := Lib.hid (show sizesTo l (k + 1) = true by rw [sizesTo_succ l k c hlt hc, HK.out]; simp [hn])
          clear hc
          go_wp2
          go_round
          case rel => exact ⟨k + 1, by omega, by omega, by go_num, HN⟩
          case measure => simp [intOf]; omega
        · have HN := Lib.hid (show shortOk l 12 = false by unfold shortOk; rw [sizesTo_no l k _ c hlt (by omega) hc hn, Bool.and_false])
          clear hc
          go_wp2
          go_ret
          exact ⟨by rw [HN.out]; rfl, rfl⟩
      · have HN := Lib.hid (show shortOk l 12 = false by unfold shortOk; rw [show decide (l.length ≤ 12) = false by simp; omega]; rfl)
        have hd : decide ((l.length : Int) ≤ 12) = false := by rw [decide_eq_false_iff_not]; omega
        go_wp2
        go_ret
        exact ⟨by rw [HN.out]; rfl, rfl⟩
    · obtain rfl : k = l.length := by omega
      by_cases h12 : l.length ≤ 12
      · have HN := Lib.hid (show shortOk l 12 = true by unfold shortOk; rw [show min l.length (12 + 1) = l.length by omega, HK.out]; simp [h12])
        have hd : decide ((l.length : Int) ≤ 12) = true := by rw [decide_eq_true_eq]; omega
        go_wp2
        go_ret
        exact ⟨by rw [HN.out]; rfl, rfl⟩
      · have HN := Lib.hid (show shortOk l 12 = false by unfold shortOk; rw [show decide (l.length ≤ 12) = false by simp; omega]; rfl)
        have hd : decide ((l.length : Int) ≤ 12) = false := by rw [decide_eq_false_iff_not]; omega
        go_wp2
        go_ret
        exact ⟨by rw [HN.out]; rfl, rfl⟩

theorem l4num_any (n : Int) (w : World) : Calls Tryz.prog 15 #[.int .i64 n] w fun e w' => e = .returned (.int .i64 n) ∧ w = w' := by
  go_enter Tryz.func15, Tryz.ntmps15
  go_wp2
  go_ret
  exact ⟨rfl, rfl⟩
end Go.Proofs.YtocmjlnhcloccaaGreatDoor
namespace Go.Proofs.YtocmjlnhcloccaaGreatDoor
open Go.RowKit

/-- the boxes of s, of, less and null -/
def BX (w W : World) : Prop := W.cell? ⟨w.heap.size + 1 + 1, 0, none⟩ = some (.slice (some ⟨w.heap.size, 0, none⟩) 2 2) ∧ W.cell? ⟨w.heap.size + 1 + 1, 1, none⟩ = some (.slice (some ⟨w.heap.size + 1, 0, none⟩) 1 1) ∧ W.cell? ⟨w.heap.size + 1 + 1, 2, none⟩ = some (.slice none 0 0) ∧ W.cell? ⟨w.heap.size + 1 + 1 + 1, 0, none⟩ = some (.int .i64 1) ∧ W.cell? ⟨w.heap.size + 1 + 1 + 1, 1, none⟩ = some (.int .i64 1) ∧ W.cell? ⟨w.heap.size + 1 + 1 + 1, 2, none⟩ = some (.int .u64 0) ∧ W.cell? ⟨w.heap.size + 1 + 1 + 1, 3, none⟩ = some (.string ⟨#[]⟩) ∧ W.cell? ⟨w.heap.size + 1 + 1 + 1 + 1, 0, none⟩ = some (.int .i64 1) ∧ W.cell? ⟨w.heap.size + 1 + 1 + 1 + 1, 1, none⟩ = some (.int .i64 (-1)) ∧ W.cell? ⟨w.heap.size + 1 + 1 + 1 + 1, 2, none⟩ = some (.int .u64 0) ∧ W.cell? ⟨w.heap.size + 1 + 1 + 1 + 1, 3, none⟩ = some (.string ⟨#[]⟩) ∧ W.cell? ⟨w.heap.size + 1 + 1 + 1 + 1 + 1, 0, none⟩ = some (.int .i64 0) ∧ W.cell? ⟨w.heap.size + 1 + 1 + 1 + 1 + 1, 1, none⟩ = some (.int .i64 0) ∧ W.cell? ⟨w.heap.size + 1 + 1 + 1 + 1 + 1, 2, none⟩ = some (.int .u64 0) ∧ W.cell? ⟨w.heap.size + 1 + 1 + 1 + 1 + 1, 3, none⟩ = some (.string ⟨#[]⟩)
theorem BX.keep {w V W : World} (h : BX w V) (hb : Below V.heap.size V W) : BX w W := by
  obtain ⟨x0, x1, x2, o0, o1, o2, o3, l0, l1, l2, l3, z0, z1, z2, z3⟩ := h
  exact ⟨cell_old x0 hb, cell_old x1 hb, cell_old x2 hb, cell_old o0 hb, cell_old o1 hb, cell_old o2 hb, cell_old o3 hb, cell_old l0 hb, cell_old l1 hb, cell_old l2 hb, cell_old l3 hb, cell_old z0 hb, cell_old z1 hb, cell_old z2 hb, cell_old z3 hb⟩
theorem bytes3 {w : World} {b : Nat} {x y z : UInt8} (h0 : w.cell? ⟨b, 0, none⟩ = some (.int .u8 x.toNat)) (h1 : w.cell? ⟨b, 1, none⟩ = some (.int .u8 y.toNat)) (h2 : w.cell? ⟨b, 2, none⟩ = some (.int .u8 z.toNat)) : BytesAt w (.slice (some ⟨b, 0, none⟩) 3 3) [x, y, z] :=
  ⟨_, 3, rfl, Nat.le_refl _, fun j hj => by
    match j, hj with
    | 0, _ => exact ⟨_, rfl, by unfold Addr.add; exact h0⟩
    | 1, _ => exact ⟨_, rfl, by unfold Addr.add; exact h1⟩
    | 2, _ => exact ⟨_, rfl, by unfold Addr.add; exact h2⟩⟩
theorem bytes2 {w : World} {b : Nat} {x y : UInt8} (h0 : w.cell? ⟨b, 0, none⟩ = some (.int .u8 x.toNat)) (h1 : w.cell? ⟨b, 1, none⟩ = some (.int .u8 y.toNat)) : BytesAt w (.slice (some ⟨b, 0, none⟩) 2 2) [x, y] :=
  ⟨_, 2, rfl, Nat.le_refl _, fun j hj => by
    match j, hj with
    | 0, _ => exact ⟨_, rfl, by unfold Addr.add; exact h0⟩
    | 1, _ => exact ⟨_, rfl, by unfold Addr.add; exact h1⟩⟩

set_option maxRecDepth 100000 in
set_option maxHeartbeats 8000000 in
theorem cworks_true (w : World) (hg : HasET w) :
    Calls Tryz.prog 10 #[] w fun e w' => e = .returned (.bool true) ∧ Below w.heap.size w w' := by
  have HG := Lib.hid (fun W hb => hg.below (w' := W) hb hg.lt)
  clear hg
  go_enter Tryz.func10, Tryz.ntmps10
  go_wp2_with fail
  obtain ⟨W1, hW1⟩ : ∃ W1, (((((w.alloc (.cells #[.string ⟨#[97]⟩, .int .i64 1, .int .i64 1, .bool false, .string ⟨#[98]⟩, .int .i64 4, .int .i64 2, .bool true] 64)).alloc (.cells #[.int .i64 0] 3)).alloc (.cells #[.slice (some ⟨w.heap.size, 0, none⟩) 2 2, .slice (some ⟨w.heap.size + 1, 0, none⟩) 1 1, .slice none 0 0] 26)).alloc (.cells #[.int .i64 1, .int .i64 1, .int .u64 0, .string ⟨#[]⟩] 68)).alloc (.cells #[.int .i64 1, .int .i64 (-1), .int .u64 0, .string ⟨#[]⟩] 68)).alloc (.cells #[.int .i64 0, .int .i64 0, .int .u64 0, .string ⟨#[]⟩] 68) = W1 := ⟨_, rfl⟩
  have hb1 : Below w.heap.size w W1 := by rw [← hW1]; go_grown
  have hS1 : SchIn W1 (p0 w.heap.size) s0 := by
    refine sch0 ?_ ?_
    · rw [← hW1]
      exact heap_old (heap_old (heap_old (heap_old (heap_old (heap_alloc_at _ _) _) _) _) _) _
    · rw [← hW1]
      simp [go_sem]
  have hbx : BX w W1 := by
    unfold BX
    rw [← hW1]
    exact ⟨by simp [go_sem], by simp [go_sem], by simp [go_sem], by simp [go_sem], by simp [go_sem], by simp [go_sem], by simp [go_sem], by simp [go_sem], by simp [go_sem], by simp [go_sem], by simp [go_sem], by simp [go_sem], by simp [go_sem], by simp [go_sem], by simp [go_sem]⟩
  have hsz : w.heap.size + 1 + 1 + 1 + 1 + 1 < W1.heap.size := by rw [← hW1]; simp
  have hz6 : w.heap.size + 1 + 1 + 1 + 1 + 1 + 1 = W1.heap.size := by rw [← hW1]; simp
  rw [hW1, hz6]
  clear hW1 hz6
  have HS := Lib.hid (fun W (hb : Below W1.heap.size W1 W) => hS1.keep hb (Nat.le_refl _))
  have HX := Lib.hid (fun W (hb : Below W1.heap.size W1 W) => hbx.keep hb)
  have HB := Lib.hid (fun W (hb : Below W1.heap.size W1 W) => hb1.trans (hb.mono hb1.size))
  have HT := Lib.hid (fun W (hb : Below W1.heap.size W1 W) => HG.out W (hb1.trans (hb.mono hb1.size)))
  clear hS1 hbx hb1
  have hnm : ∀ c ∈ s0.cols, c.n.size ≤ 9223372036854775807 := by decide
  have HEN : ∀ (l : List Vl) (bs : List UInt8), l.length ≤ 1000 → (∀ v ∈ l, v.s.size ≤ 300) → (∀ v ∈ l, 0 ≤ v.u ∧ v.u < 18446744073709551616) → rowN s0 l = 0 → encL s0 l = bs → Hid (∀ W b, Below W1.heap.size W1 W → ValsIn W (some ⟨b, 0, none⟩) l → Calls Tryz.prog 11 #[.agg #[.slice (some ⟨w.heap.size, 0, none⟩) 2 2, .slice (some ⟨w.heap.size + 1, 0, none⟩) 1 1, .slice none 0 0], .slice (some ⟨b, 0, none⟩) l.length l.length] W fun e w' => ∃ v, e = .returned (.tuple #[v, .int .i64 0]) ∧ BytesOf w' v bs ∧ Below W.heap.size W w') := fun l bs h1 h2 h3 h4 h5 => Lib.hid (fun W b hb hv => (Encode_any (p0 w.heap.size) s0 (some ⟨b, 0, none⟩) l.length l W (HT.out W hb) hnm (by decide) (by decide) (HS.out W hb) h1 hv h2 h3).mono fun e w' ⟨v, he, hv, hb'⟩ => ⟨v, by rw [he, h4], by rw [← h5]; exact hv, hb'⟩)
  have E1 : Hid (∀ W b, Below W1.heap.size W1 W → ValsIn W (some ⟨b, 0, none⟩) [vI (-1), v0] → Calls Tryz.prog 11 #[.agg #[.slice (some ⟨w.heap.size, 0, none⟩) 2 2, .slice (some ⟨w.heap.size + 1, 0, none⟩) 1 1, .slice none 0 0], .slice (some ⟨b, 0, none⟩) 2 2] W fun e w' => ∃ v, e = .returned (.tuple #[v, .int .i64 0]) ∧ BytesOf w' v [1, 255, 0] ∧ Below W.heap.size W w') := HEN [vI (-1), v0] [1, 255, 0] (by decide) (by decide) (by decide) (by decide +kernel) (by decide +kernel)
  have E2 : Hid (∀ W b, Below W1.heap.size W1 W → ValsIn W (some ⟨b, 0, none⟩) [vI 1, vB ⟨#[2, 3]⟩] → Calls Tryz.prog 11 #[.agg #[.slice (some ⟨w.heap.size, 0, none⟩) 2 2, .slice (some ⟨w.heap.size + 1, 0, none⟩) 1 1, .slice none 0 0], .slice (some ⟨b, 0, none⟩) 2 2] W fun e w' => ∃ v, e = .returned (.tuple #[v, .int .i64 0]) ∧ BytesOf w' v [1, 1, 1, 1, 2, 2, 3] ∧ Below W.heap.size W w') := HEN [vI 1, vB ⟨#[2, 3]⟩] [1, 1, 1, 1, 2, 2, 3] (by decide) (by decide) (by decide) (by decide +kernel) (by decide +kernel)
  have HDE : ∀ (bs : List UInt8) (l : List Vl) (n : Int), bs.length ≤ 1000000 → decL s0 bs = l → decE s0 bs = n → Hid (∀ W b, Below W1.heap.size W1 W → BytesAt W (.slice (some ⟨b, 0, none⟩) bs.length bs.length) bs → Calls Tryz.prog 16 #[.agg #[.slice (some ⟨w.heap.size, 0, none⟩) 2 2, .slice (some ⟨w.heap.size + 1, 0, none⟩) 1 1, .slice none 0 0], .slice (some ⟨b, 0, none⟩) bs.length bs.length] W fun e w' => ∃ v, e = .returned (.tuple #[v, .int .i64 n]) ∧ SliceOf w' v l ∧ Below W.heap.size W w') := fun bs l n h1 h2 h3 => Lib.hid (fun W b hb hv => (Decode_any (p0 w.heap.size) s0 (some ⟨b, 0, none⟩) bs.length bs W (HT.out W hb) hnm (by decide) (by decide) (HS.out W hb) hv h1).mono fun e w' ⟨v, he, hv, hb'⟩ => ⟨v, by rw [he, h3], by rw [← h2]; exact hv, hb'⟩)
  have D1 : Hid (∀ W b, Below W1.heap.size W1 W → BytesAt W (.slice (some ⟨b, 0, none⟩) 3 3) [1, 255, 0] → Calls Tryz.prog 16 #[.agg #[.slice (some ⟨w.heap.size, 0, none⟩) 2 2, .slice (some ⟨w.heap.size + 1, 0, none⟩) 1 1, .slice none 0 0], .slice (some ⟨b, 0, none⟩) 3 3] W fun e w' => ∃ v, e = .returned (.tuple #[v, .int .i64 0]) ∧ SliceOf w' v [vI (-1), v0] ∧ Below W.heap.size W w') := HDE [1, 255, 0] [vI (-1), v0] 0 (by decide) (by kernel_rfl) (by decide +kernel)
  have D2 : Hid (∀ W b, Below W1.heap.size W1 W → BytesAt W (.slice (some ⟨b, 0, none⟩) 2 2) [1, 255] → Calls Tryz.prog 16 #[.agg #[.slice (some ⟨w.heap.size, 0, none⟩) 2 2, .slice (some ⟨w.heap.size + 1, 0, none⟩) 1 1, .slice none 0 0], .slice (some ⟨b, 0, none⟩) 2 2] W fun e w' => ∃ v, e = .returned (.tuple #[v, .int .i64 140]) ∧ SliceOf w' v [] ∧ Below W.heap.size W w') := HDE [1, 255] [] 140 (by decide) (by kernel_rfl) (by decide +kernel)
  have D3 : Hid (∀ W b, Below W1.heap.size W1 W → BytesAt W (.slice (some ⟨b, 0, none⟩) 3 3) [1, 255, 2] → Calls Tryz.prog 16 #[.agg #[.slice (some ⟨w.heap.size, 0, none⟩) 2 2, .slice (some ⟨w.heap.size + 1, 0, none⟩) 1 1, .slice none 0 0], .slice (some ⟨b, 0, none⟩) 3 3] W fun e w' => ∃ v, e = .returned (.tuple #[v, .int .i64 140]) ∧ SliceOf w' v [] ∧ Below W.heap.size W w') := HDE [1, 255, 2] [] 140 (by decide) (by kernel_rfl) (by decide +kernel)
  have WD : Hid (∀ W, Below W1.heap.size W1 W → Calls Tryz.prog 13 #[.agg #[.slice (some ⟨w.heap.size, 0, none⟩) 2 2, .slice (some ⟨w.heap.size + 1, 0, none⟩) 1 1, .slice none 0 0]] W fun e w' => e = .returned (.tuple #[.int .i64 3, .int .i64 7, .int .i64 0]) ∧ Below W.heap.size W w') := Lib.hid (fun W hb => (Width_any (p0 w.heap.size) s0 W (HT.out W hb) hnm (by decide) (by decide) (HS.out W hb)).mono fun e w' ⟨he, hb'⟩ => ⟨by rw [he, show widLo s0 = 3 by decide +kernel, show widHi s0 = 7 by decide +kernel, show schN s0 = 0 by decide +kernel], hb'⟩)
  have HSM : Hid (∀ W v b, Below W1.heap.size W1 W → SliceOf W v [vI (-1), v0] → ValsIn W (some ⟨b, 0, none⟩) [vI (-1), v0] → Calls Tryz.prog 17 #[v, .slice (some ⟨b, 0, none⟩) 2 2] W fun e w' => e = .returned (.bool true) ∧ Below W1.heap.size W1 w') := Lib.hid (fun W v b hb h1 h2 => (rSame_any v (.slice (some ⟨b, 0, none⟩) 2 2) [vI (-1), v0] [vI (-1), v0] W h1 (h2.sl (cap := 2) (by decide)) (by decide) (by decide)).mono fun e w' ⟨he, hb'⟩ => ⟨by rw [show lists [vI (-1), v0] [vI (-1), v0] = 0 by decide +kernel] at he; exact he, hb.trans (hb'.mono hb.size)⟩)
  clear hnm HEN HDE HS HG
  obtain ⟨x0, x1, x2, o0, o1, o2, o3, l0, l1, l2, l3, z0, z1, z2, z3⟩ := HX.out W1 (Below.refl _ _)
  go_wp2_with fail
  refine (E1.out _ _ ((Below.refl _ _).alloc (Nat.le_refl _) _) (vals2 ⟨by simp [go_sem, vI], by simp [go_sem, vI], by simp [go_sem, vI], by simp [go_sem, vI]⟩ ⟨by simp [go_sem, v0], by simp [go_sem, v0], by simp [go_sem, v0], by simp [go_sem, v0]⟩)).mono ?_
  rintro e w2 ⟨a, rfl, ha, hb2⟩
  have HA2 := Lib.hid ha
  have HB2 := Lib.hid (((Below.refl W1.heap.size W1).alloc (Nat.le_refl _) _).trans (hb2.mono (by simp)))
  clear ha hb2 x0 x1 x2 o0 o1 o2 o3 l0 l1 l2 l3 z0 z1 z2 z3
  obtain ⟨x0, x1, x2, o0, o1, o2, o3, l0, l1, l2, l3, z0, z1, z2, z3⟩ := HX.out w2 HB2.out
  have q2 := HB2.out.size
  go_wp2_with fail
  refine (E2.out _ _ (HB2.out.alloc HB2.out.size _) (vals2 ⟨by simp [go_sem, vI], by simp [go_sem, vI], by simp [go_sem, vI], by simp [go_sem, vI]⟩ ⟨by simp [go_sem, vB], by simp [go_sem, vB], by simp [go_sem, vB], by simp [go_sem, vB]⟩)).mono ?_
  rintro e w3 ⟨b, rfl, hd, hb3⟩
  have K3 := Lib.hid (((Below.refl w2.heap.size w2).alloc (Nat.le_refl _) _).trans (hb3.mono (by simp)))
  have HB3 := Lib.hid (HB2.out.trans (K3.out.mono HB2.out.size))
  have HA3 := Lib.hid (HA2.out.keep K3.out (Nat.le_refl _))
  have HC3 := Lib.hid hd
  clear hd hb3 x0 x1 x2 o0 o1 o2 o3 l0 l1 l2 l3 z0 z1 z2 z3 q2
  obtain ⟨x0, x1, x2, o0, o1, o2, o3, l0, l1, l2, l3, z0, z1, z2, z3⟩ := HX.out w3 HB3.out
  have q3 := HB3.out.size
  go_wp2_with fail
  refine (D1.out _ _ (HB3.out.alloc HB3.out.size _) (bytes3 (x := 1) (y := 255) (z := 0) (by simp [go_sem]) (by simp [go_sem]) (by simp [go_sem]))).mono ?_
  rintro e w4 ⟨d, rfl, hd, hb4⟩
  have K4 := Lib.hid (((Below.refl w3.heap.size w3).alloc (Nat.le_refl _) _).trans (hb4.mono (by simp)))
  have HB4 := Lib.hid (HB3.out.trans (K4.out.mono HB3.out.size))
  have HA4 := Lib.hid (HA3.out.keep K4.out (Nat.le_refl _))
  have HC4 := Lib.hid (HC3.out.keep K4.out (Nat.le_refl _))
  have HD4 := Lib.hid hd
  clear hd hb4 x0 x1 x2 o0 o1 o2 o3 l0 l1 l2 l3 z0 z1 z2 z3 q3
  obtain ⟨x0, x1, x2, o0, o1, o2, o3, l0, l1, l2, l3, z0, z1, z2, z3⟩ := HX.out w4 HB4.out
  have q4 := HB4.out.size
  go_wp2_with fail
  refine (D2.out _ _ (HB4.out.alloc HB4.out.size _) (bytes2 (x := 1) (y := 255) (by simp [go_sem]) (by simp [go_sem]))).mono ?_
  rintro e w5 ⟨d2, rfl, hd, hb5⟩
  have K5 := Lib.hid (((Below.refl w4.heap.size w4).alloc (Nat.le_refl _) _).trans (hb5.mono (by simp)))
  have HB5 := Lib.hid (HB4.out.trans (K5.out.mono HB4.out.size))
  have HA5 := Lib.hid (HA4.out.keep K5.out (Nat.le_refl _))
  have HC5 := Lib.hid (HC4.out.keep K5.out (Nat.le_refl _))
  have HD5 := Lib.hid (HD4.out.keep K5.out (Nat.le_refl _))
  clear hd hb5 x0 x1 x2 o0 o1 o2 o3 l0 l1 l2 l3 z0 z1 z2 z3 q4
  obtain ⟨x0, x1, x2, o0, o1, o2, o3, l0, l1, l2, l3, z0, z1, z2, z3⟩ := HX.out w5 HB5.out
  have q5 := HB5.out.size
  go_wp2_with fail
  refine (D3.out _ _ (HB5.out.alloc HB5.out.size _) (bytes3 (x := 1) (y := 255) (z := 2) (by simp [go_sem]) (by simp [go_sem]) (by simp [go_sem]))).mono ?_
  rintro e w6 ⟨d3, rfl, hd, hb6⟩
  have K6 := Lib.hid (((Below.refl w5.heap.size w5).alloc (Nat.le_refl _) _).trans (hb6.mono (by simp)))
  have HB6 := Lib.hid (HB5.out.trans (K6.out.mono HB5.out.size))
  have HA6 := Lib.hid (HA5.out.keep K6.out (Nat.le_refl _))
  have HC6 := Lib.hid (HC5.out.keep K6.out (Nat.le_refl _))
  have HD6 := Lib.hid (HD5.out.keep K6.out (Nat.le_refl _))
  clear hd hb6 x0 x1 x2 o0 o1 o2 o3 l0 l1 l2 l3 z0 z1 z2 z3 q5
  obtain ⟨x0, x1, x2, o0, o1, o2, o3, l0, l1, l2, l3, z0, z1, z2, z3⟩ := HX.out w6 HB6.out
  have q6 := HB6.out.size
  go_wp2_with fail
  refine (WD.out _ HB6.out).mono ?_
  rintro e w7 ⟨rfl, hb7⟩
  have K7 := Lib.hid hb7
  have HB7 := Lib.hid (HB6.out.trans (hb7.mono HB6.out.size))
  have HA7 := Lib.hid (HA6.out.keep K7.out (Nat.le_refl _))
  have HC7 := Lib.hid (HC6.out.keep K7.out (Nat.le_refl _))
  have HD7 := Lib.hid (HD6.out.keep K7.out (Nat.le_refl _))
  have cA := bytes_string HA7.out.at
  have cC := bytes_string HC7.out.at
  clear hb7 x0 x1 x2 o0 o1 o2 o3 l0 l1 l2 l3 z0 z1 z2 z3 q6
  obtain ⟨x0, x1, x2, o0, o1, o2, o3, l0, l1, l2, l3, z0, z1, z2, z3⟩ := HX.out w7 HB7.out
  have q7 := HB7.out.size
  go_wp2_with (first | (go_at_call 15; refine (l4num_any _ _).mono ?_; rintro e w' ⟨rfl, rfl⟩) | (go_at_call 17; refine (HSM.out _ _ _ (HB7.out.alloc HB7.out.size _) (HD7.out.keep ((Below.refl _ _).alloc (Nat.le_refl _) _) (Nat.le_refl _)) (vals2 ⟨by simp [go_sem, vI], by simp [go_sem, vI], by simp [go_sem, vI], by simp [go_sem, vI]⟩ ⟨by simp [go_sem, v0], by simp [go_sem, v0], by simp [go_sem, v0], by simp [go_sem, v0]⟩)).mono ?_; rintro e w8 ⟨rfl, hb8⟩))
  go_ret
  exact ⟨rfl, HB.out _ hb8⟩
end Go.Proofs.YtocmjlnhcloccaaGreatDoor
