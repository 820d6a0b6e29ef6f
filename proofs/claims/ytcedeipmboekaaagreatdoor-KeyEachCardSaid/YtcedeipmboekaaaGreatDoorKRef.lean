/-
  swingbridgeref05.Read, Decode.
-/
import Derived.Test.YtcedeipmboekaaaGreatDoorKLawBytes
import Derived.Lib.MinMax
import Derived.RegionTactic
import Derived.BigQuiet
namespace Go.Proofs.YtcedeipmboekaaaGreatDoor
open Go.RowKit

theorem readG_big : ∀ (f : Nat) (l : List UInt8) (c : Nat), 200 < c → readG f l c = none
  | 0, _, _, _ => rfl
  | f + 1, l, c, h => by
    by_cases h9 : l.length < 9
    · rw [readG, if_pos h9]
    · by_cases hm : (l.getD 8 0).toNat = 9
      · rw [readG_more h9 hm, if_pos (by omega)]
      · rw [readG_last h9 hm, if_neg (by omega)]
theorem readG_short {f : Nat} {l : List UInt8} {c : Nat} (h : l.length < 9) : readG f l c = none := by
  cases f with
  | zero => rfl
  | succ f => rw [readG, if_pos h]
/-- acc is read, 9 * k bytes are taken -/
def GRel (l : List UInt8) (k : Nat) (acc : List UInt8) : Prop := readG 30 (l.drop 1) 0 = (readG (30 - k) (l.drop (1 + 9 * k)) (8 * k)).map fun x => (acc ++ x.1, 9 * k + x.2)
theorem GRel.zero (l : List UInt8) : GRel l 0 [] := by
  unfold GRel
  show readG 30 (l.drop 1) 0 = (readG 30 (l.drop 1) 0).map _
  cases readG 30 (l.drop 1) 0 <;> simp
theorem GRel.none {l : List UInt8} {k : Nat} {acc : List UInt8} (h : GRel l k acc) (hn : readG (30 - k) (l.drop (1 + 9 * k)) (8 * k) = Option.none) : readG 30 (l.drop 1) 0 = Option.none := by
  unfold GRel at h
  rw [h, hn]
  rfl
theorem GRel.next {l : List UInt8} {k : Nat} {acc : List UInt8} (h : GRel l k acc) (hk : k ≤ 26) (h9 : ¬ (l.drop (1 + 9 * k)).length < 9) (hm : ((l.drop (1 + 9 * k)).getD 8 0).toNat = 9) : GRel l (k + 1) (acc ++ (l.drop (1 + 9 * k)).take 8) := by
  unfold GRel at h ⊢
  rw [h, show 30 - k = (30 - (k + 1)) + 1 by omega, readG_more h9 hm, List.drop_drop, show 1 + 9 * k + 9 = 1 + 9 * (k + 1) by omega, show 8 * k + 8 = 8 * (k + 1) by omega]
  by_cases hb : 200 < 8 * (k + 1)
  · rw [if_pos hb, readG_big _ _ _ hb]
    rfl
  · rw [if_neg hb]
    cases readG (30 - (k + 1)) (l.drop (1 + 9 * (k + 1))) (8 * (k + 1)) with
    | none => rfl
    | some x => simp; omega
theorem GRel.last {l : List UInt8} {k m : Nat} {acc : List UInt8} (h : GRel l k acc) (hk : k ≤ 26) (h9 : ¬ (l.drop (1 + 9 * k)).length < 9) (hm : ((l.drop (1 + 9 * k)).getD 8 0).toNat = m) (h8 : m ≤ 8) (hz : ∀ j, m ≤ j → j < 8 → (l.drop (1 + 9 * k)).getD j 0 = 0) (h0 : ¬ (m = 0 ∧ 0 < 8 * k)) (h2 : 8 * k + m ≤ 200) : readG 30 (l.drop 1) 0 = some (acc ++ (l.drop (1 + 9 * k)).take m, 9 * k + 9) := by
  unfold GRel at h
  have hd : (l.drop (1 + 9 * k)).take 8 = (l.drop (1 + 9 * k)).take m ++ List.replicate (8 - m) 0 := by
    generalize l.drop (1 + 9 * k) = d at *
    apply List.ext_getElem
    · rw [List.length_append, List.length_take, List.length_take, List.length_replicate]; omega
    · intro j h1 h2
      rw [List.length_take] at h1
      rw [List.getElem_take]
      by_cases hj : j < m
      · rw [List.getElem_append_left (by rw [List.length_take]; omega), List.getElem_take]
      · rw [List.getElem_append_right (by rw [List.length_take]; omega), List.getElem_replicate]
        have := hz j (by omega) (by omega)
        rw [List.getD_eq_getElem?_getD, List.getElem?_eq_getElem (by omega)] at this
        exact this
  rw [h, show 30 - k = (30 - (k + 1)) + 1 by omega, readG_last h9 (by omega), hm, if_pos ⟨h8, hd, h0, h2⟩]
  rfl
theorem GRel.bad {l : List UInt8} {k m : Nat} {acc : List UInt8} (h : GRel l k acc) (hk : k ≤ 26) (h9 : ¬ (l.drop (1 + 9 * k)).length < 9) (hm : ((l.drop (1 + 9 * k)).getD 8 0).toNat = m) (hx : m ≠ 9) (hb : 8 < m ∨ (∃ j, m ≤ j ∧ j < 8 ∧ (l.drop (1 + 9 * k)).getD j 0 ≠ 0) ∨ (m = 0 ∧ 0 < 8 * k) ∨ 200 < 8 * k + m) : readG 30 (l.drop 1) 0 = Option.none := by
  refine h.none ?_
  rw [show 30 - k = (30 - (k + 1)) + 1 by omega, readG_last h9 (by omega), hm, if_neg]
  rintro ⟨a1, a2, a3, a4⟩
  rcases hb with h | ⟨j, j1, j2, j3⟩ | h | h
  · omega
  · generalize l.drop (1 + 9 * k) = d at *
    have e : (d.take 8).getD j 0 = (d.take m ++ List.replicate (8 - m) 0).getD j 0 := by rw [← a2]
    rw [List.getD_eq_getElem?_getD, List.getD_eq_getElem?_getD, List.getElem?_take_of_lt j2, List.getElem?_append_right (by rw [List.length_take]; omega)] at e
    rw [List.getElem?_replicate, if_pos (by rw [List.length_take]; omega)] at e
    rw [List.getD_eq_getElem?_getD, e] at j3
    exact j3 rfl
  · exact a3 h
  · omega
structure RB (w wr : World) (acc : ByteArray) : Prop where
  c0 : wr.cell? ⟨w.heap.size, 0, none⟩ = some (.int .i64 4)
  c1 : wr.cell? ⟨w.heap.size, 1, none⟩ = some (.int .i64 0)
  c2 : wr.cell? ⟨w.heap.size, 2, none⟩ = some (.int .u64 0)
  c3 : wr.cell? ⟨w.heap.size, 3, none⟩ = some (.string acc)
  d0 : wr.cell? ⟨w.heap.size + 1, 0, none⟩ = some (.int .i64 0)
  d1 : wr.cell? ⟨w.heap.size + 1, 1, none⟩ = some (.int .i64 0)
  d2 : wr.cell? ⟨w.heap.size + 1, 2, none⟩ = some (.int .u64 0)
  d3 : wr.cell? ⟨w.heap.size + 1, 3, none⟩ = some (.string ⟨#[]⟩)
  f : ∀ o, wr.frozen? ⟨w.heap.size, o, none⟩ = false
  g : ∀ o, wr.frozen? ⟨w.heap.size + 1, o, none⟩ = false
  b : Below w.heap.size w wr
theorem RB.new (w : World) : RB w ((w.alloc (.cells #[.int .i64 4, .int .i64 0, .int .u64 0, .string ⟨#[]⟩] 42)).alloc (.cells #[.int .i64 0, .int .i64 0, .int .u64 0, .string ⟨#[]⟩] 42)) ⟨#[]⟩ :=
  ⟨by simp [go_sem], by simp [go_sem], by simp [go_sem], by simp [go_sem], by simp [go_sem], by simp [go_sem], by simp [go_sem], by simp [go_sem], fun o => by simp [go_sem], fun o => by simp [go_sem], ((Below.refl _ _).alloc (Nat.le_refl _) _).alloc (by simp) _⟩
theorem RB.set {w wr : World} {acc : ByteArray} (h : RB w wr acc) (x : ByteArray) : RB w (wr.setCell ⟨w.heap.size, 3, none⟩ (.string x)).drew x := by
  have q : ∀ (a : Addr) (v : Value), a ≠ ⟨w.heap.size, 3, none⟩ → wr.cell? a = some v → (wr.setCell ⟨w.heap.size, 3, none⟩ (.string x)).drew.cell? a = some v := fun a v ha hv => (World.cell?_setCell_other (h := fun e => ha e.symm) ..).trans hv
  exact ⟨q _ _ (by simp) h.c0, q _ _ (by simp) h.c1, q _ _ (by simp) h.c2, World.cell?_setCell_same (h := h.c3) .., q _ _ (by simp) h.d0, q _ _ (by simp) h.d1, q _ _ (by simp) h.d2, q _ _ (by simp) h.d3, fun o => (World.frozen?_setCell ..).trans (h.f o), fun o => (World.frozen?_setCell ..).trans (h.g o), (h.b.setCell (by simp) _).drew⟩
theorem byte_at (s : ByteArray) (i j : Nat) (h : i + j < s.size) : (s.data.toList.drop i).getD j 0 = s[i + j]'h := by
  rw [List.getD_eq_getElem?_getD, List.getElem?_drop, List.getElem?_eq_getElem (by simpa using h)]
  rfl
theorem wrap_u8 (b : UInt8) : wrap64 (b.toNat : Int) = (b.toNat : Int) := by
  have := b.toNat_lt
  unfold wrap64
  omega
/-- what read tells -/
def grpRes : Option (List UInt8 × Nat) → Value
  | some (b, n) => .tuple #[.agg #[.int .i64 4, .int .i64 0, .int .u64 0, .string ⟨b.toArray⟩], .int .i64 ((1 + n : Nat) : Int)]
  | none => .tuple #[.agg #[.int .i64 0, .int .i64 0, .int .u64 0, .string ⟨#[]⟩], .int .i64 0]
theorem grp_some {y : ByteArray} {b : List UInt8} {n : Nat} {x : Int} (h : y.data.toList = b) (hx : x = ((1 + n : Nat) : Int)) : Value.tuple #[.agg #[.int .i64 4, .int .i64 0, .int .u64 0, .string y], .int .i64 x] = grpRes (some (b, n)) := by
  subst h hx
  rfl
set_option maxRecDepth 100000 in
set_option maxHeartbeats 2000000 in
theorem rqread_any (s : ByteArray) (hs : s.size ≤ 1000000) (w : World) : Calls Tryz.prog 33 #[.string s, .agg #[.int .i64 4, .int .i64 0, .int .u64 0, .string ⟨#[]⟩]] w fun e w' => e = .returned (grpRes (readG 30 (s.data.toList.drop 1) 0)) ∧ Below w.heap.size w w' := by
  have hl : s.data.toList.length = s.size := by simp
  have HG0 := Lib.hid (GRel.zero s.data.toList)
  have HR0 := Lib.hid (RB.new w)
  obtain ⟨l, hll⟩ : ∃ l, s.data.toList = l := ⟨_, rfl⟩
  have HLL := Lib.hid hll
  rw [hll] at HG0 hl ⊢
  clear hll
  go_enter Tryz.func33, Tryz.ntmps33
  go_wp2
  go_loopw [6] (fun i wr => ∃ (k : Nat) (acc : ByteArray), k ≤ 26 ∧ i = .int .i64 ((1 + 9 * k : Nat) : Int) ∧ acc.size = 8 * k ∧ Hid (GRel l k acc.data.toList) ∧ Hid (RB w wr acc)) (fun i _ => s.size - (intOf i).toNat)
  case atStart => exact ⟨0, ⟨#[]⟩, by omega, rfl, rfl, HG0, HR0⟩
  case round =>
    obtain ⟨k, acc, hk, rfl, ha, HG, HR⟩ := hrel
    have c0 := HR.out.c0
    have c1 := HR.out.c1
    have c2 := HR.out.c2
    have c3 := HR.out.c3
    have d0 := HR.out.d0
    have d1 := HR.out.d1
    have d2 := HR.out.d2
    have d3 := HR.out.d3
    have f := HR.out.f
    have g := HR.out.g
    by_cases hA : 1 + 9 * k + 9 ≤ s.size
    · by_cases hB : 8 * k ≤ 200
      · have h9 : ¬ (l.drop (1 + 9 * k)).length < 9 := by rw [List.length_drop, hl]; omega
        have hbt := byte_at s (1 + 9 * k) 8 (by omega)
        rw [HLL.out] at hbt
        obtain ⟨b, hb⟩ : ∃ b, s[1 + 9 * k + 8]'(by omega) = b := ⟨_, rfl⟩
        rw [hb] at hbt
        have hbt2 : ((l.drop (1 + 9 * k)).getD 8 0).toNat = b.toNat := by rw [hbt]
        have HBT := Lib.hid hbt2
        have hw := wrap_u8 b
        clear hbt hbt2
        by_cases hb1 : 9 < b.toNat
        · have HN := Lib.hid (HG.out.bad hk h9 HBT.out (by omega) (.inl (by omega)))
          clear h9
          go_wp2
          rw [HN.out]
          refine bodyPost_ret (v := .tuple #[.agg #[.int .i64 0, .int .i64 0, .int .u64 0, .string ⟨#[]⟩], .int .i64 0]) (by simp [results, Tryz.results33, go_sem, d0, d1, d2, d3]) rfl ⟨rfl, by ((repeat refine Below.setCell ?_ (by simp) _); exact HR.out.b)⟩
        · by_cases hb2 : b.toNat = 9
          · have HGN := Lib.hid (HG.out.next hk h9 (by rw [HBT.out, hb2]))
            have hb3 : (b.toNat : Int) = 9 := by omega
            clear h9 hb1 hb2
            go_wp2
            go_region
            rw [show ((1 : Int) + 9 * (k : Int) + min 9 8).toNat = 1 + 9 * k + 8 by omega]
            have hex : (s.extract (1 + 9 * k) (1 + 9 * k + 8)).data.toList = (l.drop (1 + 9 * k)).take 8 := by rw [extract_cut]; simp [cutS, HLL.out]
            have hexs : (s.extract (1 + 9 * k) (1 + 9 * k + 8)).size = 8 := by
              show (s.extract (1 + 9 * k) (1 + 9 * k + 8)).data.size = 8
              rw [← Array.length_toList, hex, List.length_take, List.length_drop, hl]
              omega
            have HRN := Lib.hid (HR.out.set (acc ++ s.extract (1 + 9 * k) (1 + 9 * k + 8)))
            have HGN2 : Hid (GRel l (k + 1) (acc ++ s.extract (1 + 9 * k) (1 + 9 * k + 8)).data.toList) := Lib.hid (by rw [show (acc ++ s.extract (1 + 9 * k) (1 + 9 * k + 8)).data.toList = acc.data.toList ++ (s.extract (1 + 9 * k) (1 + 9 * k + 8)).data.toList by simp, hex]; exact HGN.out)
            have hsz : (acc ++ s.extract (1 + 9 * k) (1 + 9 * k + 8)).size = 8 * (k + 1) := by rw [ByteArray.size_append, hexs]; omega
            clear c0 c1 c2 c3 d0 d1 d2 d3 f g HR HGN hex hexs
            go_wp2
            go_roundw
            case rel => exact ⟨k + 1, _, by omega, by go_num, hsz, HGN2, HRN⟩
            case measure => simp [intOf]; omega
          · obtain ⟨m, hm⟩ : ∃ m, b.toNat = m := ⟨_, rfl⟩
            have hb3 : (b.toNat : Int) = (m : Int) := by rw [hm]
            rw [hm] at HBT hb1 hb2
            clear hm
            have hm8 : m ≤ 8 := by omega
            have hm9 : ((m : Int) == 9) = false := by rw [beq_eq_false_iff_ne]; omega
            have hmin : min (m : Int) 8 = m := by omega
            have h9' : ¬ (9 : Int) < (m : Int) := by omega
            clear hb1 hb2
            have H9 := Lib.hid h9
            clear h9
            go_wp2
            go_region
            have hex : (s.extract (1 + 9 * k) (1 + 9 * k + m)).data.toList = (l.drop (1 + 9 * k)).take m := by rw [extract_cut]; simp [cutS, HLL.out]
            have hexs : (s.extract (1 + 9 * k) (1 + 9 * k + m)).size = m := by
              show (s.extract (1 + 9 * k) (1 + 9 * k + m)).data.size = m
              rw [← Array.length_toList, hex, List.length_take, List.length_drop, hl]
              omega
            have HRN := Lib.hid (HR.out.set (acc ++ s.extract (1 + 9 * k) (1 + 9 * k + m)))
            have HEX : Hid ((acc ++ s.extract (1 + 9 * k) (1 + 9 * k + m)).data.toList = acc.data.toList ++ (l.drop (1 + 9 * k)).take m) := Lib.hid (by rw [← hex]; simp)
            have hsz : (acc ++ s.extract (1 + 9 * k) (1 + 9 * k + m)).size = 8 * k + m := by rw [ByteArray.size_append, hexs]; omega
            clear c0 c1 c2 c3 d0 d1 d2 d3 f g HR hex hexs hb
            generalize (wr.setCell ⟨w.heap.size, 3, none⟩ (.string (acc ++ s.extract (1 + 9 * k) (1 + 9 * k + m)))).drew = w1 at HRN ⊢
            generalize acc ++ s.extract (1 + 9 * k) (1 + 9 * k + m) = acc2 at *
            have HR1 := HRN
            have c0 := HR1.out.c0
            have c1 := HR1.out.c1
            have c2 := HR1.out.c2
            have c3 := HR1.out.c3
            have d0 := HR1.out.d0
            have d1 := HR1.out.d1
            have d2 := HR1.out.d2
            have d3 := HR1.out.d3
            have f := HR1.out.f
            have g := HR1.out.g
            go_wp2
            go_loop [8] (fun i => ∃ j : Nat, m ≤ j ∧ j ≤ 8 ∧ i = .int .i64 ((1 + 9 * k + j : Nat) : Int) ∧ Hid (∀ x, m ≤ x → x < j → (l.drop (1 + 9 * k)).getD x 0 = 0)) (fun i => 1 + 9 * k + 8 - (intOf i).toNat)
            case atStart => exact ⟨m, Nat.le_refl _, hm8, by go_num, Lib.hid (fun x h1 h2 => by omega)⟩
            case round =>
              obtain ⟨j, hj1, hj2, rfl, HZ⟩ := hrel
              by_cases hj : j < 8
              · have hct := byte_at s (1 + 9 * k) j (by omega)
                rw [HLL.out] at hct
                obtain ⟨c, hc⟩ : ∃ c, s[1 + 9 * k + j]'(by omega) = c := ⟨_, rfl⟩
                rw [hc] at hct
                have HCT := Lib.hid hct
                clear hct
                by_cases hc0 : c = 0
                · subst hc0
                  have HZ2 : Hid (∀ x, m ≤ x → x < j + 1 → (l.drop (1 + 9 * k)).getD x 0 = 0) := Lib.hid (fun x h1 h2 => by
                    rcases Nat.lt_or_ge x j with h | h
                    · exact HZ.out x h1 h
                    · obtain rfl : x = j := by omega
                      exact HCT.out)
                  go_wp2
                  go_round
                  case rel => exact ⟨j + 1, by omega, by omega, by go_num, HZ2⟩
                  case measure => simp [intOf]; omega
                · have HN := Lib.hid (HG.out.bad hk H9.out HBT.out (by omega) (.inr (.inl ⟨j, hj1, hj, by rw [HCT.out]; exact hc0⟩)))
                  have hcn : ((c.toNat : Int) != 0) = true := by
                    rw [bne_iff_ne]
                    intro e
                    apply hc0
                    apply UInt8.toNat_inj.1
                    have : c.toNat = 0 := by omega
                    rw [this]
                    rfl
                  clear hc0
                  go_wp2
                  first | rw [HN.out] | (have HN1 := HN.out; simp only [List.drop_one] at HN1; rw [HN1])
                  refine bodyPost_ret (v := .tuple #[.agg #[.int .i64 0, .int .i64 0, .int .u64 0, .string ⟨#[]⟩], .int .i64 0]) (by simp [results, Tryz.results33, go_sem, d0, d1, d2, d3]) rfl ⟨rfl, by ((repeat refine Below.setCell ?_ (by simp) _); exact HR1.out.b)⟩
              · obtain rfl : j = 8 := by omega
                by_cases hx2 : 200 < 8 * k + m
                · have HN := Lib.hid (HG.out.bad hk H9.out HBT.out (by omega) (.inr (.inr (.inr hx2))))
                  have hx3 : (200 : Int) < 8 * (k : Int) + (m : Int) := by omega
                  go_wp2
                  first | rw [HN.out] | (have HN1 := HN.out; simp only [List.drop_one] at HN1; rw [HN1])
                  refine bodyPost_ret (v := .tuple #[.agg #[.int .i64 0, .int .i64 0, .int .u64 0, .string ⟨#[]⟩], .int .i64 0]) (by simp [results, Tryz.results33, go_sem, d0, d1, d2, d3]) rfl ⟨rfl, by ((repeat refine Below.setCell ?_ (by simp) _); exact HR1.out.b)⟩
                · have hx3 : decide ((200 : Int) < 8 * (k : Int) + (m : Int)) = false := by rw [decide_eq_false_iff_not]; omega
                  by_cases hm0 : m = 0
                  · subst hm0
                    by_cases hk0 : k = 0
                    · subst hk0
                      have HN := Lib.hid (HG.out.last (by omega) H9.out HBT.out (by omega) (fun x h1 h2 => HZ.out x h1 h2) (by omega) (by omega))
                      go_wp2
                      first | rw [HN.out] | (have HN1 := HN.out; simp only [List.drop_one] at HN1; rw [HN1])
                      refine bodyPost_ret (v := .tuple #[.agg #[.int .i64 4, .int .i64 0, .int .u64 0, .string acc2], .int .i64 10]) (by simp [results, Tryz.results33, go_sem, d0, d1, d2, d3]) rfl ⟨congrArg _ (grp_some HEX.out (by omega)), by ((repeat refine Below.setCell ?_ (by simp) _); exact HR1.out.b)⟩
                    · have HN := Lib.hid (HG.out.bad hk H9.out HBT.out (by omega) (.inr (.inr (.inl ⟨rfl, by omega⟩))))
                      go_wp2
                      first | rw [HN.out] | (have HN1 := HN.out; simp only [List.drop_one] at HN1; rw [HN1])
                      refine bodyPost_ret (v := .tuple #[.agg #[.int .i64 0, .int .i64 0, .int .u64 0, .string ⟨#[]⟩], .int .i64 0]) (by simp [results, Tryz.results33, go_sem, d0, d1, d2, d3]) rfl ⟨rfl, by ((repeat refine Below.setCell ?_ (by simp) _); exact HR1.out.b)⟩
                  · have HN := Lib.hid (HG.out.last hk H9.out HBT.out (by omega) (fun x h1 h2 => HZ.out x h1 h2) (by omega) (by omega))
                    have hm1 : ((m : Int) == 0) = false := by rw [beq_eq_false_iff_ne]; omega
                    go_wp2
                    first | rw [HN.out] | (have HN1 := HN.out; simp only [List.drop_one] at HN1; rw [HN1])
                    refine bodyPost_ret (v := .tuple #[.agg #[.int .i64 4, .int .i64 0, .int .u64 0, .string acc2], .int .i64 (1 + 9 * (k : Int) + 9)]) (by simp [results, Tryz.results33, go_sem, d0, d1, d2, d3]) rfl ⟨congrArg _ (grp_some HEX.out (by omega)), by ((repeat refine Below.setCell ?_ (by simp) _); exact HR1.out.b)⟩
      · have HN := Lib.hid (HG.out.none (readG_big _ _ _ (by omega)))
        go_wp2
        first | rw [HN.out] | (have HN1 := HN.out; simp only [List.drop_one] at HN1; rw [HN1])
        refine bodyPost_ret (v := .tuple #[.agg #[.int .i64 0, .int .i64 0, .int .u64 0, .string ⟨#[]⟩], .int .i64 0]) (by simp [results, Tryz.results33, go_sem, d0, d1, d2, d3]) rfl ⟨rfl, by ((repeat refine Below.setCell ?_ (by simp) _); exact HR.out.b)⟩
    · have HN := Lib.hid (HG.out.none (readG_short (by rw [List.length_drop, hl]; omega)))
      go_wp2
      first | rw [HN.out] | (have HN1 := HN.out; simp only [List.drop_one] at HN1; rw [HN1])
      refine bodyPost_ret (v := .tuple #[.agg #[.int .i64 0, .int .i64 0, .int .u64 0, .string ⟨#[]⟩], .int .i64 0]) (by simp [results, Tryz.results33, go_sem, d0, d1, d2, d3]) rfl ⟨rfl, by ((repeat refine Below.setCell ?_ (by simp) _); exact HR.out.b)⟩
end Go.Proofs.YtcedeipmboekaaaGreatDoor
namespace Go.Proofs.YtcedeipmboekaaaGreatDoor
open Go.RowKit

theorem cell_oldK {w w' : World} {a : Addr} {v : Value} (h : w.cell? a = some v) (hb : Below w.heap.size w w') : w'.cell? a = some v := by
  rw [hb.cell (World.block_lt_of_cell? w a h)]
  exact h
/-- what Read tells -/
def keyRes : Option (Vl × Nat) → Value
  | some (v, n) => .tuple #[.agg #[.int .i64 v.k, .int .i64 v.i, .int .u64 v.u, .string v.s], .int .i64 (n : Int)]
  | none => .tuple #[.agg #[.int .i64 0, .int .i64 0, .int .u64 0, .string ⟨#[]⟩], .int .i64 0]
def KRPost (w : World) (o : Option (Vl × Nat)) (e : Ending) (w' : World) : Prop := e = .returned (keyRes o) ∧ Below w.heap.size w w'
theorem head_at {t : ByteArray} {h : UInt8} {r : List UInt8} (e : t.data.toList = h :: r) : ∃ p : 0 < t.size, t[0]'p = h := by
  have hz : t.data.toList.length = t.size := by simp
  rw [e] at hz
  simp at hz
  refine ⟨by omega, ?_⟩
  show t.data[0]'_ = h
  rw [← Array.getElem_toList]
  simp [e]
set_option maxRecDepth 100000 in
set_option maxHeartbeats 1000000 in
theorem rrd_nil (t : ByteArray) (w : World) (h : t.size = 0) : Calls Tryz.prog 16 #[.string t] w (KRPost w none) := by
  unfold KRPost keyRes
  go_enter Tryz.func16, Tryz.ntmps16
  go_wp2_with fail
  refine bodyPost_ret (v := .tuple #[.agg #[.int .i64 0, .int .i64 0, .int .u64 0, .string ⟨#[]⟩], .int .i64 0]) (by simp [results, Tryz.results16, go_sem]) rfl ⟨rfl, by ((repeat refine Below.setCell ?_ (by simp) _); exact ((Below.refl _ _).alloc (Nat.le_refl _) _))⟩
set_option maxRecDepth 100000 in
set_option maxHeartbeats 1000000 in
theorem rrd_big (t : ByteArray) (b : UInt8) (w : World) (hs : t.size ≤ 1000000) (hp : 0 < t.size) (hb : t[0]'hp = b) (h : 4 < b.toNat) : Calls Tryz.prog 16 #[.string t] w (KRPost w none) := by
  unfold KRPost keyRes
  have h4 : (4 : Int) < (b.toNat : Int) := by omega
  have hz : ((t.size : Int) == 0) = false := by rw [beq_eq_false_iff_ne]; omega
  have hp2 : (0 : Int) < (t.size : Int) := by omega
  go_enter Tryz.func16, Tryz.ntmps16
  go_wp2_with fail
  refine bodyPost_ret (v := .tuple #[.agg #[.int .i64 0, .int .i64 0, .int .u64 0, .string ⟨#[]⟩], .int .i64 0]) (by simp [results, Tryz.results16, go_sem]) rfl ⟨rfl, by ((repeat refine Below.setCell ?_ (by simp) _); exact ((Below.refl _ _).alloc (Nat.le_refl _) _))⟩
set_option maxRecDepth 100000 in
set_option maxHeartbeats 1000000 in
theorem rrd_0 (t : ByteArray) (w : World) (hs : t.size ≤ 1000000) (hp : 0 < t.size) (hb : t[0]'hp = 0) : Calls Tryz.prog 16 #[.string t] w (KRPost w (some (val0, 1))) := by
  unfold KRPost keyRes
  have hz : ((t.size : Int) == 0) = false := by rw [beq_eq_false_iff_ne]; omega
  have hp2 : (0 : Int) < (t.size : Int) := by omega
  go_enter Tryz.func16, Tryz.ntmps16
  go_wp2_with fail
  refine bodyPost_ret (v := .tuple #[.agg #[.int .i64 0, .int .i64 0, .int .u64 0, .string ⟨#[]⟩], .int .i64 1]) (by simp [results, Tryz.results16, go_sem]) rfl ⟨rfl, by ((repeat refine Below.setCell ?_ (by simp) _); exact ((Below.refl _ _).alloc (Nat.le_refl _) _).alloc (by simp) _)⟩
set_option maxRecDepth 100000 in
set_option maxHeartbeats 1000000 in
theorem rrd_4 (t : ByteArray) (w : World) (hs : t.size ≤ 1000000) (hp : 0 < t.size) (hb : t[0]'hp = 4) : Calls Tryz.prog 16 #[.string t] w fun e w' => e = .returned (grpRes (readG 30 (t.data.toList.drop 1) 0)) ∧ Below w.heap.size w w' := by
  have hz : ((t.size : Int) == 0) = false := by rw [beq_eq_false_iff_ne]; omega
  have hp2 : (0 : Int) < (t.size : Int) := by omega
  have HR := Lib.hid (fun W => rqread_any t hs W)
  obtain ⟨v, k, hr⟩ : ∃ (v : Vl) (k : Int), grpRes (readG 30 (t.data.toList.drop 1) 0) = .tuple #[.agg #[.int .i64 v.k, .int .i64 v.i, .int .u64 v.u, .string v.s], .int .i64 k] := by
    cases readG 30 (t.data.toList.drop 1) 0 with
    | none => exact ⟨val0, 0, rfl⟩
    | some x => exact ⟨⟨4, 0, 0, ⟨x.1.toArray⟩⟩, ((1 + x.2 : Nat) : Int), rfl⟩
  rw [hr] at HR ⊢
  clear hr
  go_enter Tryz.func16, Tryz.ntmps16
  go_wp2_with fail
  refine (HR.out _).mono ?_
  rintro e w1 ⟨rfl, hb1⟩
  have d0 : w1.cell? ⟨w.heap.size, 0, none⟩ = some (.int .i64 0) := cell_oldK (by simp [go_sem]) hb1
  have d1 : w1.cell? ⟨w.heap.size, 1, none⟩ = some (.int .i64 0) := cell_oldK (by simp [go_sem]) hb1
  have d2 : w1.cell? ⟨w.heap.size, 2, none⟩ = some (.int .u64 0) := cell_oldK (by simp [go_sem]) hb1
  have d3 : w1.cell? ⟨w.heap.size, 3, none⟩ = some (.string ⟨#[]⟩) := cell_oldK (by simp [go_sem]) hb1
  have g : ∀ o, w1.frozen? ⟨w.heap.size, o, none⟩ = false := fun o => by rw [hb1.frozen (by simp; omega)]; simp [go_sem]
  have HB : Hid (Below w.heap.size w w1) := Lib.hid ((((Below.refl w.heap.size w).alloc (Nat.le_refl _) _).alloc (by simp) _).trans (hb1.mono (by simp; omega)))
  clear hb1
  go_wp2_with fail
  refine bodyPost_ret (v := .tuple #[.agg #[.int .i64 v.k, .int .i64 v.i, .int .u64 v.u, .string v.s], .int .i64 k]) (by simp [results, Tryz.results16, go_sem, d0, d1, d2, d3]) rfl ⟨rfl, by ((repeat refine Below.setCell ?_ (by simp) _); exact HB.out)⟩
theorem xor_back (n : Nat) (h : n < 18446744073709551616) : wrap64 (bits .xor .u64 (n : Int) 9223372036854775808) = (n : Int) - 9223372036854775808 := by
  have e : bits .xor .u64 (n : Int) 9223372036854775808 = (((n : Int) + 9223372036854775808) % 18446744073709551616) := by
    show IntKind.u64.wrap ((BitVec.ofInt 64 (n : Int) ^^^ BitVec.ofInt 64 9223372036854775808).toNat : Int) = _
    rw [BitVec.toNat_xor, show (BitVec.ofInt 64 9223372036854775808).toNat = 2 ^ 63 by decide, BitVec.toNat_ofInt, IntKind.wrap_u64]
    have hn : ((n : Int) % (2 ^ 64 : Nat)).toNat = n := by omega
    rw [hn]
    by_cases hi : n < 2 ^ 63
    · rw [xor_top_lt _ hi]; omega
    · rw [xor_top_ge _ (by omega) (by omega)]; omega
  rw [e]
  unfold wrap64
  omega
set_option maxRecDepth 100000 in
set_option maxHeartbeats 1000000 in
theorem rrd_3 (t : ByteArray) (b : UInt8) (w : World) (hs : t.size ≤ 1000000) (hp : 1 < t.size) (hb : t[0]'(by omega) = 3) (hb1 : t[1]'hp = b) (h1 : b.toNat ≤ 1) : Calls Tryz.prog 16 #[.string t] w (KRPost w (some (⟨3, b.toNat, 0, ⟨#[]⟩⟩, 2))) := by
  unfold KRPost keyRes
  have hz : ((t.size : Int) == 0) = false := by rw [beq_eq_false_iff_ne]; omega
  have hp2 : (0 : Int) < (t.size : Int) := by omega
  have hp3 : (1 : Int) < (t.size : Int) := by omega
  have hp4 : (2 : Int) ≤ (t.size : Int) := by omega
  have h2 : (b.toNat : Int) ≤ 1 := by omega
  have hw := wrap_u8 b
  go_enter Tryz.func16, Tryz.ntmps16
  go_wp2_with fail
  refine bodyPost_ret (v := .tuple #[.agg #[.int .i64 3, .int .i64 b.toNat, .int .u64 0, .string ⟨#[]⟩], .int .i64 2]) (by simp [results, Tryz.results16, go_sem]) rfl ⟨rfl, by ((repeat refine Below.setCell ?_ (by simp) _); exact ((Below.refl _ _).alloc (Nat.le_refl _) _).alloc (by simp) _)⟩
set_option maxRecDepth 100000 in
set_option maxHeartbeats 1000000 in
theorem rrd_3b (t : ByteArray) (b : UInt8) (w : World) (hs : t.size ≤ 1000000) (hp : 1 < t.size) (hb : t[0]'(by omega) = 3) (hb1 : t[1]'hp = b) (h1 : 1 < b.toNat) : Calls Tryz.prog 16 #[.string t] w (KRPost w none) := by
  unfold KRPost keyRes
  have hz : ((t.size : Int) == 0) = false := by rw [beq_eq_false_iff_ne]; omega
  have hp2 : (0 : Int) < (t.size : Int) := by omega
  have hp3 : (1 : Int) < (t.size : Int) := by omega
  have hp4 : (2 : Int) ≤ (t.size : Int) := by omega
  have h2 : 1 < (b.toNat : Int) := by omega
  go_enter Tryz.func16, Tryz.ntmps16
  go_wp2_with fail
  refine bodyPost_ret (v := .tuple #[.agg #[.int .i64 0, .int .i64 0, .int .u64 0, .string ⟨#[]⟩], .int .i64 0]) (by simp [results, Tryz.results16, go_sem]) rfl ⟨rfl, by ((repeat refine Below.setCell ?_ (by simp) _); exact ((Below.refl _ _).alloc (Nat.le_refl _) _).alloc (by simp) _)⟩
set_option maxRecDepth 100000 in
set_option maxHeartbeats 1000000 in
theorem rrd_3s (t : ByteArray) (w : World) (hs : t.size = 1) (hb : t[0]'(by omega) = 3) : Calls Tryz.prog 16 #[.string t] w (KRPost w none) := by
  unfold KRPost keyRes
  have hz : ((t.size : Int) == 0) = false := by rw [beq_eq_false_iff_ne]; omega
  have hp2 : (t.size : Int) = 1 := by omega
  go_enter Tryz.func16, Tryz.ntmps16
  go_wp2_with fail
  refine bodyPost_ret (v := .tuple #[.agg #[.int .i64 0, .int .i64 0, .int .u64 0, .string ⟨#[]⟩], .int .i64 0]) (by simp [results, Tryz.results16, go_sem]) rfl ⟨rfl, by ((repeat refine Below.setCell ?_ (by simp) _); exact ((Below.refl _ _).alloc (Nat.le_refl _) _).alloc (by simp) _)⟩
set_option maxRecDepth 100000 in
set_option maxHeartbeats 1000000 in
theorem rrd_1s (t : ByteArray) (w : World) (hp : 0 < t.size) (hs : t.size < 9) (hb : t[0]'hp = 1) : Calls Tryz.prog 16 #[.string t] w (KRPost w none) := by
  unfold KRPost keyRes
  have hz : ((t.size : Int) == 0) = false := by rw [beq_eq_false_iff_ne]; omega
  have hp2 : (0 : Int) < (t.size : Int) := by omega
  have hp3 : (t.size : Int) < 9 := by omega
  go_enter Tryz.func16, Tryz.ntmps16
  go_wp2_with fail
  refine bodyPost_ret (v := .tuple #[.agg #[.int .i64 0, .int .i64 0, .int .u64 0, .string ⟨#[]⟩], .int .i64 0]) (by simp [results, Tryz.results16, go_sem]) rfl ⟨rfl, by ((repeat refine Below.setCell ?_ (by simp) _); exact ((Below.refl _ _).alloc (Nat.le_refl _) _).alloc (by simp) _)⟩
end Go.Proofs.YtcedeipmboekaaaGreatDoor
namespace Go.Proofs.YtcedeipmboekaaaGreatDoor
open Go.RowKit

set_option maxRecDepth 100000 in
set_option maxHeartbeats 1000000 in
theorem rrd_1 (t : ByteArray) (l : List UInt8) (w : World) (hs : t.size ≤ 1000000) (hp : 9 ≤ t.size) (hb : t[0]'(by omega) = 1) (he : (t.extract 1 9).data.toList = l) (hl : l.length = 8) : Calls Tryz.prog 16 #[.string t] w (KRPost w (some (⟨1, ((valOf l 0 : Nat) : Int) - 9223372036854775808, 0, ⟨#[]⟩⟩, 9))) := by
  unfold KRPost keyRes
  have hz : ((t.size : Int) == 0) = false := by rw [beq_eq_false_iff_ne]; omega
  have hp2 : (0 : Int) < (t.size : Int) := by omega
  have hp3 : (9 : Int) ≤ (t.size : Int) := by omega
  obtain ⟨x, hx0⟩ : ∃ x, t.extract 1 9 = x := ⟨_, rfl⟩
  rw [hx0] at he
  have hx : x.data.toList = l := he
  have hxl : l.length = x.size := by rw [← hx, Array.length_toList]; rfl
  have hz0 : ((w.alloc (.cells #[.int .i64 0, .int .i64 0, .int .u64 0, .string ⟨#[]⟩] 42)).alloc (.cells #[.int .i64 1, .int .i64 0, .int .u64 0, .string ⟨#[]⟩] 42)).heap.size = w.heap.size + 1 + 1 := by simp
  obtain ⟨cap, W1, hcv, hcap, hcells, hb1, _⟩ := conv_bytes 9 Tryz.underlying9 x ((w.alloc (.cells #[.int .i64 0, .int .i64 0, .int .u64 0, .string ⟨#[]⟩] 42)).alloc (.cells #[.int .i64 1, .int .i64 0, .int .u64 0, .string ⟨#[]⟩] 42))
  rw [hz0] at hcv hcells
  have hby : BytesAt W1 (.slice (some ⟨w.heap.size + 1 + 1, 0, none⟩) l.length cap) l := ⟨_, cap, rfl, by rw [← hxl] at hcap; exact hcap, fun j hj => ⟨_, rfl, by
    have h := hcells j (by rw [hx]; exact hj)
    rw [Addr.add_lit, Nat.zero_add]
    simpa [hx] using h⟩⟩
  have d0 : W1.cell? ⟨w.heap.size, 0, none⟩ = some (.int .i64 0) := cell_oldK (by simp [go_sem]) hb1
  have d1 : W1.cell? ⟨w.heap.size, 1, none⟩ = some (.int .i64 0) := cell_oldK (by simp [go_sem]) hb1
  have d2 : W1.cell? ⟨w.heap.size, 2, none⟩ = some (.int .u64 0) := cell_oldK (by simp [go_sem]) hb1
  have d3 : W1.cell? ⟨w.heap.size, 3, none⟩ = some (.string ⟨#[]⟩) := cell_oldK (by simp [go_sem]) hb1
  have c0 : W1.cell? ⟨w.heap.size + 1, 0, none⟩ = some (.int .i64 1) := cell_oldK (by simp [go_sem]) hb1
  have c1 : W1.cell? ⟨w.heap.size + 1, 1, none⟩ = some (.int .i64 0) := cell_oldK (by simp [go_sem]) hb1
  have c2 : W1.cell? ⟨w.heap.size + 1, 2, none⟩ = some (.int .u64 0) := cell_oldK (by simp [go_sem]) hb1
  have c3 : W1.cell? ⟨w.heap.size + 1, 3, none⟩ = some (.string ⟨#[]⟩) := cell_oldK (by simp [go_sem]) hb1
  have f : ∀ o, W1.frozen? ⟨w.heap.size + 1, o, none⟩ = false := fun o => by rw [hb1.frozen (by simp)]; simp [go_sem]
  have g : ∀ o, W1.frozen? ⟨w.heap.size, o, none⟩ = false := fun o => by rw [hb1.frozen (by simp; omega)]; simp [go_sem]
  have HB : Hid (Below w.heap.size w W1) := Lib.hid ((((Below.refl w.heap.size w).alloc (Nat.le_refl _) _).alloc (by simp) _).trans (hb1.mono (by simp; omega)))
  have HF := rReadFixed_any _ l W1 hby (by omega)
  rw [if_pos (by omega), hxl] at HF
  have hv := valOf_lt8 l (by omega)
  obtain ⟨n, hn⟩ : ∃ n, valOf l 0 = n := ⟨_, rfl⟩
  rw [hn] at HF hv ⊢
  have HXB := Lib.hid (xor_back n hv)
  have hxb := HXB.out
  have HFF := Lib.hid HF
  clear hn hby hcap hcells hb1 HF hx he hxl
  go_enter Tryz.func16, Tryz.ntmps16
  go_wp2_with fail
  refine HFF.out.mono ?_
  rintro e w' ⟨rfl, rfl⟩
  go_wp2_with fail
  refine bodyPost_ret (v := .tuple #[.agg #[.int .i64 1, .int .i64 ((n : Int) - 9223372036854775808), .int .u64 0, .string ⟨#[]⟩], .int .i64 9]) (by simp [results, Tryz.results16, go_sem, d0, d1, d2, d3, c0, c1, c2, c3]) rfl ⟨rfl, by ((repeat refine Below.setCell ?_ (by simp) _); exact HB.out)⟩
set_option maxRecDepth 100000 in
set_option maxHeartbeats 1000000 in
theorem rrd_2 (t : ByteArray) (l : List UInt8) (w : World) (hs : t.size ≤ 1000000) (hp : 0 < t.size) (hb : t[0]'hp = 2) (he : (t.extract 1 t.size).data.toList = l) (hl : l.length ≤ 1000000) : Calls Tryz.prog 16 #[.string t] w (KRPost w (match readN l with | some (n, k) => some (⟨2, 0, n, ⟨#[]⟩⟩, 1 + k) | none => none)) := by
  unfold KRPost
  have hz : ((t.size : Int) == 0) = false := by rw [beq_eq_false_iff_ne]; omega
  have hp2 : (0 : Int) < (t.size : Int) := by omega
  have hp3 : (1 : Int) ≤ (t.size : Int) := by omega
  obtain ⟨x, hx0⟩ : ∃ x, t.extract 1 t.size = x := ⟨_, rfl⟩
  rw [hx0] at he
  have hx : x.data.toList = l := he
  have hxl : l.length = x.size := by rw [← hx, Array.length_toList]; rfl
  have hz0 : ((w.alloc (.cells #[.int .i64 0, .int .i64 0, .int .u64 0, .string ⟨#[]⟩] 42)).alloc (.cells #[.int .i64 2, .int .i64 0, .int .u64 0, .string ⟨#[]⟩] 42)).heap.size = w.heap.size + 1 + 1 := by simp
  obtain ⟨cap, W1, hcv, hcap, hcells, hb1, _⟩ := conv_bytes 9 Tryz.underlying9 x ((w.alloc (.cells #[.int .i64 0, .int .i64 0, .int .u64 0, .string ⟨#[]⟩] 42)).alloc (.cells #[.int .i64 2, .int .i64 0, .int .u64 0, .string ⟨#[]⟩] 42))
  rw [hz0] at hcv hcells
  have hby : BytesAt W1 (.slice (some ⟨w.heap.size + 1 + 1, 0, none⟩) l.length cap) l := ⟨_, cap, rfl, by rw [← hxl] at hcap; exact hcap, fun j hj => ⟨_, rfl, by
    have h := hcells j (by rw [hx]; exact hj)
    rw [Addr.add_lit, Nat.zero_add]
    simpa [hx] using h⟩⟩
  have d0 : W1.cell? ⟨w.heap.size, 0, none⟩ = some (.int .i64 0) := cell_oldK (by simp [go_sem]) hb1
  have d1 : W1.cell? ⟨w.heap.size, 1, none⟩ = some (.int .i64 0) := cell_oldK (by simp [go_sem]) hb1
  have d2 : W1.cell? ⟨w.heap.size, 2, none⟩ = some (.int .u64 0) := cell_oldK (by simp [go_sem]) hb1
  have d3 : W1.cell? ⟨w.heap.size, 3, none⟩ = some (.string ⟨#[]⟩) := cell_oldK (by simp [go_sem]) hb1
  have c0 : W1.cell? ⟨w.heap.size + 1, 0, none⟩ = some (.int .i64 2) := cell_oldK (by simp [go_sem]) hb1
  have c1 : W1.cell? ⟨w.heap.size + 1, 1, none⟩ = some (.int .i64 0) := cell_oldK (by simp [go_sem]) hb1
  have c2 : W1.cell? ⟨w.heap.size + 1, 2, none⟩ = some (.int .u64 0) := cell_oldK (by simp [go_sem]) hb1
  have c3 : W1.cell? ⟨w.heap.size + 1, 3, none⟩ = some (.string ⟨#[]⟩) := cell_oldK (by simp [go_sem]) hb1
  have f : ∀ o, W1.frozen? ⟨w.heap.size + 1, o, none⟩ = false := fun o => by rw [hb1.frozen (by simp)]; simp [go_sem]
  have g : ∀ o, W1.frozen? ⟨w.heap.size, o, none⟩ = false := fun o => by rw [hb1.frozen (by simp; omega)]; simp [go_sem]
  have HB : Hid (Below w.heap.size w W1) := Lib.hid ((((Below.refl w.heap.size w).alloc (Nat.le_refl _) _).alloc (by simp) _).trans (hb1.mono (by simp; omega)))
  have HF := rReadNumber_any _ l W1 hby hl
  rw [hxl] at HF
  cases hr : readN l with
  | none =>
    rw [hr] at HF
    have HFF : Hid (Calls Tryz.prog 32 #[.slice (some ⟨w.heap.size + 1 + 1, 0, none⟩) x.size cap] W1 fun e w' => e = .returned (.tuple #[.int .u64 0, .int .i64 0, .int .i64 120]) ∧ W1 = w') := Lib.hid HF
    clear hr hby hcap hcells hb1 HF hx he hxl
    unfold keyRes
    go_enter Tryz.func16, Tryz.ntmps16
    go_wp2_with fail
    refine HFF.out.mono ?_
    rintro e w' ⟨rfl, rfl⟩
    go_wp2_with fail
    refine bodyPost_ret (v := .tuple #[.agg #[.int .i64 0, .int .i64 0, .int .u64 0, .string ⟨#[]⟩], .int .i64 0]) (by simp [results, Tryz.results16, go_sem, d0, d1, d2, d3, c0, c1, c2, c3]) rfl ⟨rfl, by ((repeat refine Below.setCell ?_ (by simp) _); exact HB.out)⟩
  | some y =>
    obtain ⟨n, k⟩ := y
    rw [hr] at HF
    have hk9 : k ≤ 9 := (readN_lt hr).2.2.1
    have HFF : Hid (Calls Tryz.prog 32 #[.slice (some ⟨w.heap.size + 1 + 1, 0, none⟩) x.size cap] W1 fun e w' => e = .returned (.tuple #[.int .u64 n, .int .i64 k, .int .i64 0]) ∧ W1 = w') := Lib.hid HF
    clear hr hby hcap hcells hb1 HF hx he hxl
    unfold keyRes
    simp only
    rw [show ((1 + k : Nat) : Int) = 1 + (k : Int) by omega]
    go_enter Tryz.func16, Tryz.ntmps16
    go_wp2_with fail
    refine HFF.out.mono ?_
    rintro e w' ⟨rfl, rfl⟩
    go_wp2_with fail
    refine bodyPost_ret (v := .tuple #[.agg #[.int .i64 2, .int .i64 0, .int .u64 (n : Int), .string ⟨#[]⟩], .int .i64 (1 + (k : Int))]) (by simp [results, Tryz.results16, go_sem, d0, d1, d2, d3, c0, c1, c2, c3]) rfl ⟨rfl, by ((repeat refine Below.setCell ?_ (by simp) _); exact HB.out)⟩
theorem rqRead_any (t : ByteArray) (w : World) (hs : t.size ≤ 1000000) : Calls Tryz.prog 16 #[.string t] w (KRPost w (readKey t.data.toList)) := by
  have hz : t.data.toList.length = t.size := by simp
  cases hd : t.data.toList with
  | nil =>
    rw [hd] at hz
    exact rrd_nil t w hz.symm
  | cons h r =>
    obtain ⟨p, hp⟩ := head_at hd
    rw [hd] at hz
    simp at hz
    by_cases h0 : h = 0
    · subst h0
      exact rrd_0 t w hs p hp
    by_cases h1 : h = 1
    · subst h1
      rw [readKey_1]
      by_cases h8 : 8 ≤ r.length
      · rw [if_pos h8]
        exact rrd_1 t (r.take 8) w hs (by omega) hp (by rw [show (9 : Nat) = 1 + 8 from rfl, extract_cut]; simp [cutS, hd]) (by rw [List.length_take]; omega)
      · rw [if_neg h8]
        exact rrd_1s t w p (by omega) hp
    by_cases h2 : h = 2
    · subst h2
      rw [readKey_2]
      exact rrd_2 t r w hs p hp (by rw [show t.size = 1 + r.length by omega, extract_cut]; simp [cutS, hd]) (by omega)
    by_cases h3 : h = 3
    · subst h3
      cases r with
      | nil => exact rrd_3s t w (by simpa using hz.symm) hp
      | cons y r =>
        simp at hz
        have hp1 : 1 < t.size := by omega
        have hy : t[1]'hp1 = y := by
          show t.data[1]'_ = y
          rw [← Array.getElem_toList]
          simp [hd]
        rw [readKey_3]
        by_cases hy1 : y.toNat ≤ 1
        · rw [if_pos hy1]
          exact rrd_3 t y w hs hp1 hp hy hy1
        · rw [if_neg hy1]
          exact rrd_3b t y w hs hp1 hp hy (by omega)
    by_cases h4 : h = 4
    · subst h4
      have hc := rrd_4 t w hs p hp
      rw [hd] at hc
      rw [readKey_4]
      refine hc.mono fun e w' ⟨he, hb⟩ => ⟨?_, hb⟩
      rw [he]
      show Ending.returned (grpRes (readG 30 r 0)) = _
      cases readG 30 r 0 <;> rfl
    · have hk : readKey (h :: r) = none := by
        unfold readKey
        simp [h0, h1, h2, h3, h4]
      rw [hk]
      refine rrd_big t h w hs p hp ?_
      have e : ∀ n : Nat, n < 256 → h.toNat = n → h = UInt8.ofNat n := fun n hn hh => by rw [← hh]; simp
      rcases Nat.lt_or_ge 4 h.toNat with hh | hh
      · exact hh
      · exfalso
        rcases (show h.toNat = 0 ∨ h.toNat = 1 ∨ h.toNat = 2 ∨ h.toNat = 3 ∨ h.toNat = 4 by omega) with q | q | q | q | q
        · exact h0 (e 0 (by omega) q)
        · exact h1 (e 1 (by omega) q)
        · exact h2 (e 2 (by omega) q)
        · exact h3 (e 3 (by omega) q)
        · exact h4 (e 4 (by omega) q)
end Go.Proofs.YtcedeipmboekaaaGreatDoor
namespace Go.Proofs.YtcedeipmboekaaaGreatDoor
open Go.RowKit

theorem DRel.nextR {s : ByteArray} {i k : Nat} {vs : List Vl} {v : Vl} (h : DRel s i vs) (hi : i < s.size) (hr : readKey (s.data.toList.drop i) = some (v, k)) : DRel s (i + k) (vs ++ [v]) := by
  obtain ⟨x, hx, _⟩ := drop_byte hi
  unfold DRel at h ⊢
  rw [h, hx, RK_cons, ← hx, hr]
  simp only
  rw [List.drop_drop]
  cases RK (s.data.toList.drop (i + k)) with
  | none => rfl
  | some ws => simp
theorem DRel.noR {s : ByteArray} {i : Nat} {vs : List Vl} (h : DRel s i vs) (hi : i < s.size) (hr : readKey (s.data.toList.drop i) = none) : RK s.data.toList = none := by
  obtain ⟨x, hx, _⟩ := drop_byte hi
  unfold DRel at h
  rw [h, hx, RK_cons, ← hx, hr]
  rfl
theorem own_keepV {w w' : World} {B : Nat} {v : Value} {n : Nat} {xs : List Value} (h : w.ownsRow B 42 4 v n xs) (hb : Below w.heap.size w w') : w'.ownsRow B 42 4 v n xs :=
  h.kept (kgrown_below hb none) (by cases hq : v.ownBlock with
    | none => exact .inl rfl
    | some k => exact .inr (by simp))
theorem rest_of (s : ByteArray) (i : Nat) (hi : i ≤ s.size) : (s.extract i s.size).data.toList = s.data.toList.drop i := by
  rw [show s.size = i + (s.size - i) by omega, extract_cut]
  simp only [cutS]
  rw [List.take_of_length_le (by rw [List.length_drop, Array.length_toList]; show s.size - i ≤ _; omega)]
set_option maxRecDepth 100000 in
set_option maxHeartbeats 2000000 in
theorem rqDecode_any (s : ByteArray) (w : World) (hs : s.size ≤ 1000000) : Calls Tryz.prog 15 #[.string s] w (DecPostK w s) := by
  by_cases h2 : 2000 < s.size
  · have hd : decO s = none := by unfold decO; rw [if_pos h2]
    unfold DecPostK
    rw [hd]
    have h2' : (2000 : Int) < (s.size : Int) := by omega
    go_enter Tryz.func15, Tryz.ntmps15
    go_wp2_with fail
    go_ret2
    exact ⟨rfl, Below.refl _ _⟩
  · have HD := Lib.hid (show decO s = RK s.data.toList by unfold decO; rw [if_neg h2])
    have h2' : (s.size : Int) ≤ 2000 := by omega
    go_enter Tryz.func15, Tryz.ntmps15
    go_wp2_with fail
    go_loopw [4, 5] (fun x j wr => ∃ (i : Nat) (vs : List Vl) (a : Option Addr) (c : Nat), i ≤ s.size ∧ vs.length ≤ i ∧ j = .int .i64 i ∧ x = .slice a vs.length c ∧ Hid (DRel s i vs) ∧ Hid (wr.ownsRow w.heap.size 42 4 (.slice a vs.length c) vs.length (vcellsK vs)) ∧ Hid (Below w.heap.size w wr)) (fun _ j _ => s.size - (intOf j).toNat)
    case atStart => exact ⟨0, [], none, 0, Nat.zero_le _, Nat.le_refl _, rfl, rfl, Lib.hid (DRel.zero s), Lib.hid (World.ownsRow_nil _ _ _ _), Lib.hid (Below.refl _ _)⟩
    case round =>
      obtain ⟨i, vs, a, c, hi, hvi, rfl, rfl, HR, HO, HB⟩ := hrel
      by_cases hlt : i < s.size
      · have HC := Lib.hid (fun W => rqRead_any (s.extract i s.size) W (by show (s.extract i s.size).data.size ≤ _; rw [← Array.length_toList, rest_of s i hi, List.length_drop, Array.length_toList]; show s.size - i ≤ _; omega))
        rw [rest_of s i hi] at HC
        cases hr : readKey (s.data.toList.drop i) with
        | none =>
          have HN := Lib.hid (HR.out.noR hlt hr)
          rw [hr] at HC
          unfold KRPost keyRes at HC
          clear hr
          go_wp2_with fail
          refine (HC.out _).mono ?_
          rintro e w1 ⟨rfl, hb1⟩
          have HB1 := Lib.hid (HB.out.trans (hb1.mono HB.out.size))
          clear hb1
          go_wp2_with fail
          go_ret2
          unfold DecPostK
          rw [HD.out, HN.out]
          exact ⟨rfl, HB1.out.alloc HB1.out.size _⟩
        | some y =>
          obtain ⟨v, k⟩ := y
          have HN := Lib.hid (HR.out.nextR hlt hr)
          have hk := readKey_lt hr
          rw [List.length_drop, Array.length_toList] at hk
          obtain ⟨hk1, hk2⟩ := hk
          have hk2' : i + k ≤ s.size := by have h3 : k ≤ s.size - i := hk2; omega
          have hk0 : ((k : Int) == 0) = false := by rw [beq_eq_false_iff_ne]; omega
          rw [hr] at HC
          unfold KRPost keyRes at HC
          clear hr hk2
          go_wp2_with fail
          refine (HC.out _).mono ?_
          rintro e w1 ⟨rfl, hb1⟩
          have HB1 := Lib.hid (HB.out.trans (hb1.mono HB.out.size))
          have hown1 := own_keepV HO.out hb1
          have hs1 := HB1.out.size
          obtain ⟨a8, c8, w3, hrun, r1, r2⟩ := appendV_run (x := v) (hown1.alloc (.cells #[.int .i64 v.k, .int .i64 v.i, .int .u64 v.u, .string v.s] 42)) (by omega) (by simp; omega) 22
          rw [show (w1.alloc (.cells #[.int .i64 v.k, .int .i64 v.i, .int .u64 v.u, .string v.s] 42)).heap.size = w1.heap.size + 1 by simp] at hrun
          have hb3 : Below w.heap.size w w3 := ((HB1.out.alloc hs1 (.cells #[.int .i64 v.k, .int .i64 v.i, .int .u64 v.u, .string v.s] 42)).alloc (by simp; omega) _).grown r2 (by simp; omega) (fun x hx => (hown1.lt x hx).1)
          have HO3 : Hid (w3.ownsRow w.heap.size 42 4 (.slice a8 (vs ++ [v]).length c8) (vs ++ [v]).length (vcellsK (vs ++ [v]))) := Lib.hid (by rw [List.length_append]; exact r1)
          have HB3 := Lib.hid hb3
          have HRUN := Lib.hid hrun
          clear hb1 hown1 r1 r2 hb3 hrun
          go_wp2_with (at_builtin; go_loud (refine Lib.wpList_append_run _ rfl _ _ _ _ rfl _ _ rfl rfl _ _ HRUN.out ?_))
          go_wp2_with fail
          go_roundw
          case rel => exact ⟨i + k, vs ++ [v], a8, c8, hk2', by rw [List.length_append]; simp; omega, by go_num, by simp, HN, HO3, HB3⟩
          case measure => simp [intOf]; omega
      · obtain rfl : i = s.size := by omega
        have HN := Lib.hid (HR.out.done)
        go_wp2_with fail
        go_ret2
        unfold DecPostK
        rw [HD.out, HN.out]
        exact ⟨⟨a, c, rfl, sliceK_own HO.out⟩, HB.out⟩
end Go.Proofs.YtcedeipmboekaaaGreatDoor
