/-
  swingbridgelaw10.LogHolds: what is no list of records for it.
-/
import Derived.Test.YtbhgcioeibhjeaaDoorLRows
import Derived.Test.YtbhgcioeibhjeaaDoorLWks
import Derived.Lib.MinMax
namespace Go.Proofs.YtbhgcioeibhjeaaDoor
open Go.RowKit

def maxL (L : List (List UInt8)) : Nat := L.foldl (fun n b => max n b.length) 0
theorem maxL_take {L : List (List UInt8)} {k : Nat} (h : k < L.length) : maxL (L.take (k + 1)) = max (maxL (L.take k)) L[k].length := by
  unfold maxL
  rw [List.take_succ_eq_append_getElem h, List.foldl_append]
  rfl
theorem maxL_foldl (L : List (List UInt8)) : ∀ n, n ≤ L.foldl (fun n b => max n b.length) n ∧ ∀ b ∈ L, b.length ≤ L.foldl (fun n b => max n b.length) n := by
  induction L with
  | nil => intro n; exact ⟨Nat.le_refl _, fun b hb => by cases hb⟩
  | cons a L ih =>
    intro n
    obtain ⟨h1, h2⟩ := ih (max n a.length)
    refine ⟨Nat.le_trans (Nat.le_max_left _ _) h1, fun b hb => ?_⟩
    rcases List.mem_cons.1 hb with rfl | hb
    · exact Nat.le_trans (Nat.le_max_right _ _) h1
    · exact h2 b hb
theorem maxL_le {L : List (List UInt8)} (h : maxL L ≤ 60) : ∀ b ∈ L, b.length ≤ 60 := fun b hb => Nat.le_trans ((maxL_foldl L 0).2 b hb) h
theorem pair_cells (w : World) (T : TypeId) (a b c d : Value) : ((w.alloc (.cells #[a, b] T)).alloc (.cells #[c, d] T)).cell? ⟨w.heap.size, 0, none⟩ = some a ∧ ((w.alloc (.cells #[a, b] T)).alloc (.cells #[c, d] T)).cell? ⟨w.heap.size, 1, none⟩ = some b ∧ ((w.alloc (.cells #[a, b] T)).alloc (.cells #[c, d] T)).cell? ⟨w.heap.size + 1, 0, none⟩ = some c ∧ ((w.alloc (.cells #[a, b] T)).alloc (.cells #[c, d] T)).cell? ⟨w.heap.size + 1, 1, none⟩ = some d := by
  have h0 : ((w.alloc (.cells #[a, b] T)).alloc (.cells #[c, d] T)).heap[w.heap.size]? = some (.cells #[a, b] T (0, 0)) := (Below.heap_alloc _ _ _ (by simp)).trans (heap_alloc_at w _)
  have h1 : ((w.alloc (.cells #[a, b] T)).alloc (.cells #[c, d] T)).heap[w.heap.size + 1]? = some (.cells #[c, d] T (0, 0)) := by
    have h := heap_alloc_at (w.alloc (.cells #[a, b] T)) (.cells #[c, d] T)
    rw [World.size_alloc] at h
    exact h
  exact ⟨by simp only [World.cell?]; rw [h0]; rfl, by simp only [World.cell?]; rw [h0]; rfl, by simp only [World.cell?]; rw [h1]; rfl, by simp only [World.cell?]; rw [h1]; rfl⟩
set_option maxRecDepth 100000 in
set_option maxHeartbeats 4000000 in
theorem lawL_bad (ol : Option Addr) (cl : Nat) (L : List (List UInt8)) (sy k0 k1 t0 t1 : Int) (w : World) (hET : HasET w) (hL : RowsK (fun _ => False) w w ol L) (hlen : L.length ≤ 9223372036854775807) (hbad : 20 < L.length ∨ 60 < maxL L ∨ sy < 0 ∨ (L.length : Int) < sy ∨ k0 < 0 ∨ k1 < 0 ∨ t0 < 0 ∨ t1 < 0) :
    Calls Tryd.prog 4 #[.slice ol L.length cl, .int .i64 sy, .agg #[.int .i64 k0, .int .i64 k1], .agg #[.int .i64 t0, .int .i64 t1]] w fun e w' => e = .returned (.bool true) ∧ Below w.heap.size w w' := by
  have HL := Lib.hid hL
  have HW := Lib.hid (fun (W : World) (hb : Below w.heap.size w W) => (works_trueL W (hET.below hb hET.lt)).mono (fun e w' h => And.intro h.1 (hb.trans (h.2.mono hb.size))))
  clear hL hET
  go_enter Tryd.func4, Tryd.ntmps4
  go_wp2_with fail
  obtain ⟨W1, hW1⟩ : ∃ W1, (w.alloc (.cells #[.int .i64 k0, .int .i64 k1] 41)).alloc (.cells #[.int .i64 t0, .int .i64 t1] 41) = W1 := ⟨_, rfl⟩
  have hb1 : Below w.heap.size w W1 := by rw [← hW1]; exact ((Below.refl _ w).alloc (Nat.le_refl _) _).alloc (by simp) _
  have hK : W1.cell? ⟨w.heap.size, 0, none⟩ = some (.int .i64 k0) ∧ W1.cell? ⟨w.heap.size, 1, none⟩ = some (.int .i64 k1) ∧ W1.cell? ⟨w.heap.size + 1, 0, none⟩ = some (.int .i64 t0) ∧ W1.cell? ⟨w.heap.size + 1, 1, none⟩ = some (.int .i64 t1) := by rw [← hW1]; exact pair_cells w _ _ _ _ _
  have HB1 := Lib.hid hb1
  have HK := Lib.hid hK
  have HW1 := Lib.hid (HW.out W1 hb1)
  rw [hW1]
  clear hW1 hb1 hK
  go_loopw [9, 10] (fun x i wr => ∃ k : Nat, wr = W1 ∧ k ≤ L.length ∧ k ≤ 21 ∧ x = .int .i64 (maxL (L.take k) : Nat) ∧ i = .int .i64 k) (fun _ i _ => 30 - (intOf i).toNat)
  case atStart => exact ⟨0, rfl, Nat.zero_le _, by omega, rfl, rfl⟩
  case round =>
    obtain ⟨k, rfl, h1, h2, rfl, rfl⟩ := hrel
    by_cases hk : k < L.length
    · by_cases hk2 : k ≤ 20
      · obtain ⟨a, v, hol, hcell, hB⟩ := HL.out.at HB1.out (fun k hk => hk.elim) k hk
        have hmx := Lib.hid (maxL_take hk)
        obtain ⟨vo, vc, hvf⟩ := hB.form
        subst hvf hol
        have hbl := World.block_lt_of_cell? _ _ hcell
        generalize hml : maxL (L.take k) = ml at *
        generalize hll : L[k].length = ll at *
        clear hB
        go_wp2_with fail
        go_roundw
        case rel => exact ⟨k + 1, trivial, by omega, by omega, by rw [hmx.out]; go_num, by go_num⟩
        case measure => simp [intOf]; omega
      · have h20 : 20 < L.length := by omega
        go_wp2_with (first | (go_at_call 5; with_reducible refine HW1.out.mono ?_; rintro e w2 ⟨rfl, hb2⟩))
        go_ret
        exact ⟨rfl, hb2⟩
    · obtain rfl : k = L.length := by omega
      rw [List.take_length]
      obtain ⟨q0, q1, q2, q3⟩ := HK.out
      generalize hml : maxL L = ml at *
      generalize hln : L.length = ln at *
      clear hml HL
      by_cases a0 : 20 < ln
      · clear hbad
        go_wp2_with (first | (go_at_call 5; with_reducible refine HW1.out.mono ?_; rintro e w2 ⟨rfl, hb2⟩))
        go_ret
        exact ⟨rfl, hb2⟩
      · skip
        by_cases a1 : 60 < ml
        · clear hbad
          go_wp2_with (first | (go_at_call 5; with_reducible refine HW1.out.mono ?_; rintro e w2 ⟨rfl, hb2⟩))
          go_ret
          exact ⟨rfl, hb2⟩
        · skip
          by_cases a2 : sy < 0
          · clear hbad
            go_wp2_with (first | (go_at_call 5; with_reducible refine HW1.out.mono ?_; rintro e w2 ⟨rfl, hb2⟩))
            go_ret
            exact ⟨rfl, hb2⟩
          · skip
            by_cases a3 : (ln : Int) < sy
            · clear hbad
              go_wp2_with (first | (go_at_call 5; with_reducible refine HW1.out.mono ?_; rintro e w2 ⟨rfl, hb2⟩))
              go_ret
              exact ⟨rfl, hb2⟩
            · skip
              by_cases a4 : k0 < 0
              · clear hbad
                go_wp2_with (first | (go_at_call 5; with_reducible refine HW1.out.mono ?_; rintro e w2 ⟨rfl, hb2⟩))
                go_ret
                exact ⟨rfl, hb2⟩
              · skip
                by_cases a5 : k1 < 0
                · clear hbad
                  go_wp2_with (first | (go_at_call 5; with_reducible refine HW1.out.mono ?_; rintro e w2 ⟨rfl, hb2⟩))
                  go_ret
                  exact ⟨rfl, hb2⟩
                · skip
                  by_cases a6 : t0 < 0
                  · clear hbad
                    go_wp2_with (first | (go_at_call 5; with_reducible refine HW1.out.mono ?_; rintro e w2 ⟨rfl, hb2⟩))
                    go_ret
                    exact ⟨rfl, hb2⟩
                  · skip
                    by_cases a7 : t1 < 0
                    · clear hbad
                      go_wp2_with (first | (go_at_call 5; with_reducible refine HW1.out.mono ?_; rintro e w2 ⟨rfl, hb2⟩))
                      go_ret
                      exact ⟨rfl, hb2⟩
                    · exact absurd hbad (by omega)
end Go.Proofs.YtbhgcioeibhjeaaDoor
