/-
  disk: mayPut, mayCut.
-/
import Derived.Test.YtlnemefegkjjiaaDoorDDisk
namespace Go.Proofs.YtlnemefegkjjiaaDoor
open Go.RowKit

def badFile (f : Int) : Prop := f < 0 ∨ 64 ≤ f
theorem fileE_nil (f : Int) : (¬ badFile f → fileE [] f = 0) ∧ (badFile f → fileE [] f = 4) := by
  unfold fileE badFile
  constructor
  · intro h
    simp only [List.all_nil, if_true]
    exact if_neg h
  · intro h
    simp only [List.all_nil, if_true]
    exact if_pos h
theorem nums_nil (w : World) : NumsIn w none [] := fun j hj => absurd hj (Nat.not_lt_zero j)
set_option maxRecDepth 100000 in
theorem isErr_err (x : Value) (W : World) : (binOp .eql 60 (.iface 90 x) .nilIface).run Tryd.prog W = .ok (.bool false) W := rfl
set_option maxRecDepth 100000 in
theorem isErr_nil (W : World) : (binOp .eql 60 .nilIface .nilIface).run Tryd.prog W = .ok (.bool true) W := rfl
theorem ltFile {f : Int} (h : ¬ badFile f) : ∃ n : Nat, f = n ∧ n < 64 := by
  unfold badFile at h
  exact ⟨f.toNat, by omega, by omega⟩
set_option maxRecDepth 100000 in
set_option maxHeartbeats 2000000 in
theorem mayPut_bad {N : Nat} {w : World} {Φ : Nat → Prop} {p : Nat} {D : Dk} (h : DkAt N w Φ p D) (f : Int) (m : Nat) (hf : badFile f) :
    Calls Tryd.prog 27 #[.pointer (some ⟨p, 0, none⟩), .int .i64 f, .int .i64 m] w (IsErr 4 w) := by
  obtain ⟨mf, ms, V, U, lv, B, h⟩ := h
  have HA := Lib.hid ((askFile_any p mf f none 0 [] w h.isDisk (nums_nil w) (by simp)).mono (fun e w' he => Told.err he (by rw [(fileE_nil f).2 hf]; decide)))
  rw [(fileE_nil f).2 hf] at HA
  have hq := isErr_err
  clear h hf
  go_enter Tryd.func27, Tryd.ntmps27
  go_wp2_with (first | (go_at_call 37; refine HA.out.mono ?_; rintro e w1 ⟨b, rfl, hb, hc, hbw⟩))
  go_ret
  exact ⟨b, rfl, hb, hc, hbw⟩
set_option maxRecDepth 100000 in
set_option maxHeartbeats 2000000 in
theorem mayPut_ok {N : Nat} {w : World} {Φ : Nat → Prop} {p : Nat} {D : Dk} (h : DkAt N w Φ p D) (ho : D.ok) (f : Int) (m : Nat) (hf : ¬ badFile f) :
    Calls Tryd.prog 27 #[.pointer (some ⟨p, 0, none⟩), .int .i64 f, .int .i64 m] w (Told (if D.left < m then 190 else 0) w) := by
  obtain ⟨mf, ms, V, U, lv, B, h0⟩ := id h
  have HA := Lib.hid ((askFile_any p mf f none 0 [] w h0.isDisk (nums_nil w) (by simp)))
  rw [(fileE_nil f).1 hf] at HA
  have HA := Lib.hid (HA.out.mono (fun e w' h => Told.ok h))
  have HL := Lib.hid (fun W (hb : Below w.heap.size w W) => left_any (h.below hb) ho)
  have hq := isErr_err
  have hq0 := isErr_nil
  obtain ⟨n, hn⟩ : ∃ n : Int, (if D.left < m then 190 else 0) = n := ⟨_, rfl⟩
  rw [hn]
  have HN := Lib.hid hn
  clear h h0 hf ho hn
  generalize D.left = dl at *
  by_cases hlt : dl < m
  · have hn2 : n = 190 := by rw [← HN.out, if_pos hlt]
    subst hn2
    clear HN
    go_enter Tryd.func27, Tryd.ntmps27
    go_wp2_with (first | (go_at_call 37; refine HA.out.mono ?_; rintro e w1 ⟨rfl, hb1⟩) | (go_at_call 30; refine (HL.out w1 hb1).mono ?_; rintro e w2 ⟨rfl, hb2⟩) | (go_at_call 39; refine (Of_any _ _ _).mono ?_; rintro e w' ⟨rfl, rfl⟩))
    go_ret
    exact .inr ⟨by decide, isErr_below (hb1.trans (hb2.mono hb1.size)) (isErr_of _ _ _)⟩
  · have hn2 : n = 0 := by rw [← HN.out, if_neg hlt]
    subst hn2
    clear HN
    go_enter Tryd.func27, Tryd.ntmps27
    go_wp2_with (first | (go_at_call 37; refine HA.out.mono ?_; rintro e w1 ⟨rfl, hb1⟩) | (go_at_call 30; refine (HL.out w1 hb1).mono ?_; rintro e w2 ⟨rfl, hb2⟩))
    go_ret
    exact .inl ⟨rfl, rfl, hb1.trans (hb2.mono hb1.size)⟩
/-- what a cut is refused by -/
def cutE (D : Dk) (f m : Int) : Int := if m < 0 then 2 else if f < 0 ∨ 64 ≤ f then 4 else if ((D.F f.toNat).length : Int) < m then 4 else 0
theorem nums_one (w : World) (m : Int) (B : Nat) (hB : w.heap.size = B) : NumsIn (w.alloc (.cells #[.int .i64 m] 3)) (some ⟨B, 0, none⟩) [m] := by
  subst hB
  intro j hj
  have hj0 : j = 0 := by simp at hj; omega
  subst hj0
  refine ⟨_, rfl, ?_⟩
  rw [show (⟨w.heap.size, 0, none⟩ : Addr).add 0 = ⟨w.heap.size, 0, none⟩ by unfold Addr.add; split <;> simp_all]
  simp [go_sem]
set_option maxRecDepth 100000 in
set_option maxHeartbeats 4000000 in
theorem mayCut_any {N : Nat} {w : World} {Φ : Nat → Prop} {p : Nat} {D : Dk} (h : DkAt N w Φ p D) (f m : Int) :
    Calls Tryd.prog 31 #[.pointer (some ⟨p, 0, none⟩), .int .i64 f, .int .i64 m] w (Told (cutE D f m) w) := by
  obtain ⟨mf, ms, V, U, lv, B, h0⟩ := id h
  have hbl : Below w.heap.size w (w.alloc (.cells #[.int .i64 m] 3)) := (Below.refl _ w).alloc (Nat.le_refl _) _
  have h1 := h0.keep hbl.size (fun k hk => hbl.block k (h0.lt k hk).2)
  have HA := Lib.hid (askFile_any p mf f (some ⟨w.heap.size, 0, none⟩) 1 [m] (w.alloc (.cells #[.int .i64 m] 3)) h1.isDisk (nums_one w m _ rfl) (by simp))
  have hq := isErr_err
  have hq0 := isErr_nil
  obtain ⟨n, hn⟩ : ∃ n : Int, cutE D f m = n := ⟨_, rfl⟩
  rw [hn]
  have hz1 : w.heap.size ≤ (w.alloc (.cells #[.int .i64 m] 3)).heap.size := hbl.size
  have bl : ∀ w1, Below (w.alloc (.cells #[.int .i64 m] 3)).heap.size (w.alloc (.cells #[.int .i64 m] 3)) w1 → Below w.heap.size w w1 := fun w1 hb => hbl.trans (hb.mono hz1)
  by_cases hbad : m < 0 ∨ f < 0 ∨ 64 ≤ f
  · obtain ⟨c, hc, hcn, hc0⟩ : ∃ c : Int, fileE [m] f = c ∧ n = c ∧ c ≠ 0 := by
      refine ⟨_, rfl, ?_, ?_⟩
      · rw [← hn]
        unfold cutE fileE
        by_cases hm : m < 0
        · have : ([m].all fun x => decide (0 ≤ x)) = false := by simp; omega
          rw [if_pos hm, this]
          rfl
        · have : ([m].all fun x => decide (0 ≤ x)) = true := by simp; omega
          rw [if_neg hm, this, if_pos rfl, if_pos (by omega), if_pos (by omega)]
      · unfold fileE
        by_cases hm : m < 0
        · have : ([m].all fun x => decide (0 ≤ x)) = false := by simp; omega
          rw [this, if_neg (by decide)]
          decide
        · have : ([m].all fun x => decide (0 ≤ x)) = true := by simp; omega
          rw [this, if_pos rfl, if_pos (by omega)]
          decide
    rw [hc] at HA
    subst hcn
    have HA := Lib.hid (HA.out.mono (fun e w' he => Told.err he hc0))
    have HB := Lib.hid bl
    clear h h0 h1 hn hc bl hbl hz1
    go_enter Tryd.func31, Tryd.ntmps31
    go_wp2_with (first | (go_at_call 37; refine HA.out.mono ?_; rintro e w1 ⟨b, rfl, hb, hcc, hbw⟩))
    go_ret
    exact .inr ⟨hc0, b, rfl, Nat.le_trans (by simp) hb, hcc, HB.out _ hbw⟩
  · have hm0 : ¬ m < 0 := fun e => hbad (.inl e)
    have hf : ¬ badFile f := fun e => hbad (.inr e)
    obtain ⟨k, rfl, hk⟩ := ltFile hf
    have hfe : fileE [m] k = 0 := by
      unfold fileE
      have : ([m].all fun x => decide (0 ≤ x)) = true := by simp; omega
      rw [this, if_pos rfl, if_neg (by omega)]
    rw [hfe] at HA
    have HA := Lib.hid (HA.out.mono (fun e w' h => Told.ok h))
    obtain ⟨oa, cap, hV⟩ := (h0.ff.row k).len
    have HW : Hid (∀ w1, Below (w.alloc (.cells #[.int .i64 m] 3)).heap.size (w.alloc (.cells #[.int .i64 m] 3)) w1 → w1.cell? ⟨p, 0, none⟩ = some (.map (some mf)) ∧ (Instr.lookup 48 (.map (some mf)) (.int .i64 k) false).run Tryd.prog w1 = .ok (.slice oa (D.F k).length cap) w1) := Lib.hid fun w1 hb => by
      have h2 := h0.keep (bl w1 hb).size (fun k hk => (bl w1 hb).block k (h0.lt k hk).2)
      refine ⟨h2.isDisk, ?_⟩
      rw [← hV]
      exact h2.ff.map.lookup Tryd.underlying48 Tryd.underlying3 (zeroB w1) k
    have hn3 : n = if ((D.F k).length : Int) < m then 4 else 0 := by
      rw [← hn]
      unfold cutE
      rw [if_neg hm0, if_neg (by omega)]
      rfl
    have HB := Lib.hid bl
    clear h h0 h1 hn hf hbad hbl hV bl hfe hz1
    generalize (D.F k).length = q at *
    by_cases hlt : (q : Int) < m
    · rw [if_pos hlt] at hn3
      subst hn3
      go_enter Tryd.func31, Tryd.ntmps31
      go_wp2_with (first | (go_at_call 37; refine HA.out.mono ?_; rintro e w1 ⟨rfl, hb1⟩; obtain ⟨hc0, hlk⟩ := HW.out w1 hb1) | (go_at_call 39; refine (Of_any _ _ _).mono ?_; rintro e w' ⟨rfl, rfl⟩))
      go_ret
      exact .inr ⟨by decide, isErr_below (HB.out _ hb1) (isErr_of _ _ _)⟩
    · rw [if_neg hlt] at hn3
      subst hn3
      go_enter Tryd.func31, Tryd.ntmps31
      go_wp2_with (first | (go_at_call 37; refine HA.out.mono ?_; rintro e w1 ⟨rfl, hb1⟩; obtain ⟨hc0, hlk⟩ := HW.out w1 hb1))
      go_ret
      exact .inl ⟨rfl, rfl, HB.out _ hb1⟩
end Go.Proofs.YtlnemefegkjjiaaDoor
