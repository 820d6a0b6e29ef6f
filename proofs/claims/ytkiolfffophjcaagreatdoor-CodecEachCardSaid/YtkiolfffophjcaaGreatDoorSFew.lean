/-
  swingbridgelaw03.few and short.
-/
import Derived.Test.YtkiolfffophjcaaGreatDoorSSch
namespace Go.Proofs.YtkiolfffophjcaaGreatDoor
open Go.RowKit

def namesTo (l : List Col) (k : Nat) : Bool := (List.range k).all fun i => decide ((l.getD i col0).n.size ≤ 40)
def placesTo (l : List (List Int)) (k : Nat) : Bool := (List.range k).all fun i => decide ((l.getD i []).length ≤ 8)
/-- is a schema no more than is looked at? -/
def fewOk (S : Sch) : Bool := (decide (S.cols.length ≤ 12) && (decide (S.key.length ≤ 8) && decide (S.uqs.length ≤ 6))) && (namesTo S.cols S.cols.length && placesTo S.uqs S.uqs.length)
theorem fewOk_spec {S : Sch} (h : fewOk S = true) : S.few := by
  unfold fewOk namesTo placesTo at h
  simp only [Bool.and_eq_true, decide_eq_true_eq, List.all_eq_true, List.mem_range] at h
  refine ⟨h.1.1, fun c hc => ?_, h.1.2.1, h.1.2.2, fun l hl => ?_⟩
  · obtain ⟨i, hi, rfl⟩ := List.getElem_of_mem hc
    have := h.2.1 i hi
    rwa [List.getD_eq_getElem?_getD, List.getElem?_eq_getElem hi] at this
  · obtain ⟨i, hi, rfl⟩ := List.getElem_of_mem hl
    have := h.2.2 i hi
    rwa [List.getD_eq_getElem?_getD, List.getElem?_eq_getElem hi] at this
theorem namesTo_succ (l : List Col) (k : Nat) (c : Col) (hk : k < l.length) (hc : l[k] = c) : namesTo l (k + 1) = (namesTo l k && decide (c.n.size ≤ 40)) := by
  unfold namesTo
  rw [List.range_succ, List.all_append]
  have e : l.getD k col0 = c := by rw [List.getD_eq_getElem?_getD, List.getElem?_eq_getElem hk, hc]; rfl
  simp only [List.all_cons, List.all_nil, Bool.and_true]
  rw [e]
theorem namesTo_no (l : List Col) (k : Nat) (c : Col) (hk : k < l.length) (hc : l[k] = c) (h : ¬ c.n.size ≤ 40) : namesTo l l.length = false := by
  have : namesTo l (k + 1) = false := by rw [namesTo_succ l k c hk hc]; simp [h]
  unfold namesTo at *
  rw [List.all_eq_false] at *
  obtain ⟨x, hx, hp⟩ := this
  exact ⟨x, by rw [List.mem_range] at *; omega, hp⟩
theorem placesTo_succ (l : List (List Int)) (k : Nat) (c : List Int) (hk : k < l.length) (hc : l[k] = c) : placesTo l (k + 1) = (placesTo l k && decide (c.length ≤ 8)) := by
  unfold placesTo
  rw [List.range_succ, List.all_append]
  have e : l.getD k [] = c := by rw [List.getD_eq_getElem?_getD, List.getElem?_eq_getElem hk, hc]; rfl
  simp only [List.all_cons, List.all_nil, Bool.and_true]
  rw [e]
theorem placesTo_no (l : List (List Int)) (k : Nat) (c : List Int) (hk : k < l.length) (hc : l[k] = c) (h : ¬ c.length ≤ 8) : placesTo l l.length = false := by
  have : placesTo l (k + 1) = false := by rw [placesTo_succ l k c hk hc]; simp [h]
  unfold placesTo at *
  rw [List.all_eq_false] at *
  obtain ⟨x, hx, hp⟩ := this
  exact ⟨x, by rw [List.mem_range] at *; omega, hp⟩

set_option maxRecDepth 100000 in
set_option maxHeartbeats 2000000 in
theorem few_any (p : SchV) (S : Sch) (w : World) (hS : SchIn w p S) (m0 : S.cols.length ≤ 9223372036854775807) (m1 : S.key.length ≤ 9223372036854775807) (m2 : S.uqs.length ≤ 9223372036854775807) (m3 : ∀ c ∈ S.cols, c.n.size ≤ 9223372036854775807) (m4 : ∀ l ∈ S.uqs, l.length ≤ 9223372036854775807) :
    Calls Tryz.prog 11 #[.agg #[.slice p.oc S.cols.length p.cc, .slice p.ok S.key.length p.ck, .slice p.ou S.uqs.length p.cu]] w fun e w' => e = .returned (.bool (fewOk S)) ∧ Below w.heap.size w w' := by
  have HC := Lib.hid hS.cols
  have HU := Lib.hid hS.uqs
  have HM3 := Lib.hid m3
  have HM4 := Lib.hid m4
  clear hS m3 m4
  obtain ⟨oc, cc, ok, ck, ou, cu⟩ := p
  obtain ⟨cols, key, uqs⟩ := S
  simp only at *
  by_cases h1 : cols.length ≤ 12 ∧ key.length ≤ 8 ∧ uqs.length ≤ 6
  · obtain ⟨h1, h2, h3⟩ := h1
    have HF := Lib.hid (show fewOk ⟨cols, key, uqs⟩ = (namesTo cols cols.length && placesTo uqs uqs.length) by unfold fewOk; simp [h1, h2, h3])
    have HD := Lib.hid h3
    go_enter Tryz.func11, Tryz.ntmps11
    go_wp2
    go_loop [3] (fun i => ∃ k : Nat, k ≤ cols.length ∧ i = .int .i64 k ∧ Hid (namesTo cols k = true)) (fun i => cols.length - (intOf i).toNat)
    case atStart => exact ⟨0, Nat.zero_le _, rfl, Lib.hid rfl⟩
    case round =>
      obtain ⟨k, hk, rfl, HK⟩ := hrel
      by_cases hlt : k < cols.length
      · obtain ⟨a, rfl, hat⟩ := HC.out k hlt
        obtain ⟨c, hc⟩ : ∃ c, cols[k] = c := ⟨_, rfl⟩
        have hcm := HM3.out c (hc ▸ List.getElem_mem hlt)
        rw [hc] at hat
        have hal := hat.lt
        obtain ⟨q0, q1, q2, q3⟩ := hat
        by_cases hn : c.n.size ≤ 40
        · have HN := Lib.hid (show namesTo cols (k + 1) = true by rw [namesTo_succ cols k c hlt hc, HK.out]; simp [hn])
          clear hc
          go_wp2
          go_round
          case rel => exact ⟨k + 1, by omega, by go_num, HN⟩
          case measure => simp [intOf]; omega
        · have HN := Lib.hid (show fewOk ⟨cols, key, uqs⟩ = false by rw [HF.out, namesTo_no cols k c hlt hc hn]; rfl)
          clear hc
          go_wp2
          go_ret
          exact ⟨by rw [HN.out]; rfl, by go_grown⟩
      · obtain rfl : k = cols.length := by omega
        have HF2 := Lib.hid (show fewOk ⟨cols, key, uqs⟩ = placesTo uqs uqs.length by rw [HF.out, HK.out]; rfl)
        go_wp2
        go_loop [4] (fun i => ∃ k : Nat, k ≤ uqs.length ∧ i = .int .i64 k ∧ Hid (placesTo uqs k = true)) (fun i => uqs.length - (intOf i).toNat)
        case atStart => exact ⟨0, Nat.zero_le _, rfl, Lib.hid rfl⟩
        case round =>
          obtain ⟨k, hk, rfl, HK⟩ := hrel
          by_cases hlt : k < uqs.length
          · obtain ⟨a, ob, cb, rfl, hat, _, _⟩ := HU.out k hlt
            obtain ⟨c, hc⟩ : ∃ c, uqs[k] = c := ⟨_, rfl⟩
            have hcm := HM4.out c (hc ▸ List.getElem_mem hlt)
            rw [hc] at hat
            have hal := World.block_lt_of_cell? w _ hat
            by_cases hn : c.length ≤ 8
            · have HN := Lib.hid (show placesTo uqs (k + 1) = true by rw [placesTo_succ uqs k c hlt hc, HK.out]; simp [hn])
              clear hc
              go_wp2
              go_round
              case rel => exact ⟨k + 1, by omega, by go_num, HN⟩
              case measure => simp [intOf]; omega
            · have HN := Lib.hid (show fewOk ⟨cols, key, uqs⟩ = false by rw [HF2.out, placesTo_no uqs k c hlt hc hn])
              clear hc
              go_wp2
              go_ret
              exact ⟨by rw [HN.out]; rfl, by go_grown⟩
          · obtain rfl : k = uqs.length := by omega
            have HN := Lib.hid (show fewOk ⟨cols, key, uqs⟩ = true by rw [HF2.out, HK.out])
            go_wp2
            go_ret
            exact ⟨by rw [HN.out]; rfl, by go_grown⟩
  · have HN := Lib.hid (show fewOk ⟨cols, key, uqs⟩ = false by
      unfold fewOk
      rw [show (decide (cols.length ≤ 12) && (decide (key.length ≤ 8) && decide (uqs.length ≤ 6))) = false by
        rw [Bool.eq_false_iff]; intro h; apply h1; simpa [and_assoc] using h]
      rfl)
    have hdis : 12 < cols.length ∨ 8 < key.length ∨ 6 < uqs.length := by omega
    clear h1
    go_enter Tryz.func11, Tryz.ntmps11
    go_wp2
    all_goals first
      | (exfalso; omega)
      | (go_ret; exact ⟨by rw [HN.out]; rfl, by go_grown⟩)

def sizesTo (l : List Vl) (k : Nat) : Bool := (List.range k).all fun i => decide ((l.getD i val0).s.size ≤ 300)
/-- are values at most so many, of 300 bytes? -/
def shortOk (l : List Vl) (many : Nat) : Bool := decide (l.length ≤ many) && sizesTo l (min l.length (many + 1))
theorem shortOk_spec {l : List Vl} {many : Nat} (h : shortOk l many = true) : l.length ≤ many ∧ ∀ v ∈ l, v.s.size ≤ 300 := by
  unfold shortOk sizesTo at h
  simp only [Bool.and_eq_true, decide_eq_true_eq, List.all_eq_true, List.mem_range] at h
  refine ⟨h.1, fun v hv => ?_⟩
  obtain ⟨i, hi, rfl⟩ := List.getElem_of_mem hv
  have := h.2 i (by omega)
  rwa [List.getD_eq_getElem?_getD, List.getElem?_eq_getElem hi] at this
theorem sizesTo_succ (l : List Vl) (k : Nat) (c : Vl) (hk : k < l.length) (hc : l[k] = c) : sizesTo l (k + 1) = (sizesTo l k && decide (c.s.size ≤ 300)) := by
  unfold sizesTo
  rw [List.range_succ, List.all_append]
  have e : l.getD k val0 = c := by rw [List.getD_eq_getElem?_getD, List.getElem?_eq_getElem hk, hc]; rfl
  simp only [List.all_cons, List.all_nil, Bool.and_true]
  rw [e]
theorem sizesTo_no (l : List Vl) (k n : Nat) (c : Vl) (hk : k < l.length) (hn : k < n) (hc : l[k] = c) (h : ¬ c.s.size ≤ 300) : sizesTo l n = false := by
  have : sizesTo l (k + 1) = false := by rw [sizesTo_succ l k c hk hc]; simp [h]
  unfold sizesTo at *
  rw [List.all_eq_false] at *
  obtain ⟨x, hx, hp⟩ := this
  exact ⟨x, by rw [List.mem_range] at *; omega, hp⟩
set_option maxRecDepth 100000 in
set_option maxHeartbeats 2000000 in
theorem short_rows (oa : Option Addr) (ca : Nat) (l : List Vl) (w : World) (hl : l.length ≤ 9223372036854775807) (hr : ValsIn w oa l) (hs : ∀ v ∈ l, v.s.size ≤ 9223372036854775807) :
    Calls Tryz.prog 23 #[.slice oa l.length ca, .int .i64 12] w fun e w' => e = .returned (.bool (shortOk l 12)) ∧ w = w' := by
  have HR := Lib.hid hr
  have HS := Lib.hid hs
  clear hr hs
  go_enter Tryz.func23, Tryz.ntmps23
  go_wp2
  go_loop [5] (fun i => ∃ k : Nat, k ≤ l.length ∧ k ≤ 13 ∧ i = .int .i64 k ∧ Hid (sizesTo l k = true)) (fun i => l.length - (intOf i).toNat)
  case atStart => exact ⟨0, Nat.zero_le _, by omega, rfl, Lib.hid rfl⟩
  case round =>
    obtain ⟨k, hk, hk12, rfl, HK⟩ := hrel
    by_cases hlt : k < l.length
    · by_cases h12 : k ≤ 12
      · obtain ⟨a, rfl, hat⟩ := HR.out k hlt
        obtain ⟨c, hc⟩ : ∃ c, l[k] = c := ⟨_, rfl⟩
        have hcm := HS.out c (hc ▸ List.getElem_mem hlt)
        rw [hc] at hat
        obtain ⟨q0, q1, q2, q3⟩ := hat
        by_cases hn : c.s.size ≤ 300
        · have HN := Lib.hid (show sizesTo l (k + 1) = true by rw [sizesTo_succ l k c hlt hc, HK.out]; simp [hn])
          clear hc
          go_wp2
          go_round
          case rel => exact ⟨k + 1, by omega, by omega, by go_num, HN⟩
          case measure => simp [intOf]; omega
        · have HN := Lib.hid (show shortOk l 12 = false by unfold shortOk; rw [sizesTo_no l k _ c hlt (by omega) hc hn, Bool.and_false])
          clear hc
          go_wp2
          go_ret
          exact ⟨by rw [HN.out]; rfl, rfl⟩
      · have HN := Lib.hid (show shortOk l 12 = false by unfold shortOk; rw [show decide (l.length ≤ 12) = false by simp; omega]; rfl)
        have hd : decide ((l.length : Int) ≤ 12) = false := by rw [decide_eq_false_iff_not]; omega
        go_wp2
        go_ret
        exact ⟨by rw [HN.out]; rfl, rfl⟩
    · obtain rfl : k = l.length := by omega
      by_cases h12 : l.length ≤ 12
      · have HN := Lib.hid (show shortOk l 12 = true by unfold shortOk; rw [show min l.length (12 + 1) = l.length by omega, HK.out]; simp [h12])
        have hd : decide ((l.length : Int) ≤ 12) = true := by rw [decide_eq_true_eq]; omega
        go_wp2
        go_ret
        exact ⟨by rw [HN.out]; rfl, rfl⟩
      · have HN := Lib.hid (show shortOk l 12 = false by unfold shortOk; rw [show decide (l.length ≤ 12) = false by simp; omega]; rfl)
        have hd : decide ((l.length : Int) ≤ 12) = false := by rw [decide_eq_false_iff_not]; omega
        go_wp2
        go_ret
        exact ⟨by rw [HN.out]; rfl, rfl⟩
end Go.Proofs.YtkiolfffophjcaaGreatDoor
