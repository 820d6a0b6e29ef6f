/-
  value.check and value.Check, of any value: the number 'chk'.
-/
import Derived.Test.YtocmjlnhcloccaaGreatDoorKChsA
import Derived.Test.YtocmjlnhcloccaaGreatDoorKChsB
import Derived.Test.YtocmjlnhcloccaaGreatDoorKErr
namespace Go.Proofs.YtocmjlnhcloccaaGreatDoor
open Go.RowKit

def onlyI (k i : Int) : Int := if k = 1 then i else if k = 3 then bits BinOp.and .i64 i 1 else 0
def onlyU (k u : Int) : Int := if k = 2 then u else 0
def onlyS (k : Int) (s : ByteArray) : ByteArray := if k = 4 then s else ⟨#[]⟩
/-- Whether a value may be: 2 (ErrArg), 3 (ErrLong), or 0. -/
def chk (k i u : Int) (s : ByteArray) : Int :=
  if k < 0 ∨ 4 < k then 2 else if vEqB k i u s k (onlyI k i) (onlyU k u) (onlyS k s) = true then (if (s.size : Int) ≤ 200 then 0 else 3) else 2

theorem kinds_cases (k : Int) : (k < 0 ∨ 4 < k) ∨ k = 0 ∨ k = 1 ∨ k = 2 ∨ k = 3 ∨ k = 4 := by omega

theorem chk_of {k i u : Int} {s : ByteArray} {n : Int} (h : chk k i u s = n) (hk : ¬ (k < 0 ∨ 4 < k)) :
    (vEqB k i u s k (onlyI k i) (onlyU k u) (onlyS k s) = true ∧ (s.size : Int) ≤ 200 ∧ n = 0) ∨ (vEqB k i u s k (onlyI k i) (onlyU k u) (onlyS k s) = true ∧ 200 < (s.size : Int) ∧ n = 3) ∨ (vEqB k i u s k (onlyI k i) (onlyU k u) (onlyS k s) = false ∧ n = 2) := by
  unfold chk at h
  rw [if_neg hk] at h
  by_cases h1 : vEqB k i u s k (onlyI k i) (onlyU k u) (onlyS k s) = true
  · rw [if_pos h1] at h
    by_cases h2 : (s.size : Int) ≤ 200
    · rw [if_pos h2] at h; exact .inl ⟨h1, h2, h.symm⟩
    · rw [if_neg h2] at h; exact .inr (.inl ⟨h1, by omega, h.symm⟩)
  · rw [if_neg h1] at h; exact .inr (.inr ⟨by simpa using h1, h.symm⟩)

theorem check_zero (k i u : Int) (s : ByteArray) (w : World) (h : chk k i u s = 0) :
    Calls Tryz.prog 157 #[.agg #[.int .i64 k, .int .i64 i, .int .u64 u, .string s]] w fun e w' => e = .returned .nilIface ∧ Below w.heap.size w w' := by
  rcases kinds_cases k with hk | hk
  · unfold chk at h; rw [if_pos hk] at h; cases h
  · obtain ⟨h1, h2, _⟩ | ⟨_, _, h3⟩ | ⟨_, h3⟩ := chk_of h (by omega)
    · rcases hk with rfl | rfl | rfl | rfl | rfl
      · exact checkNull_ok i u s w (fun W => by have := run_neq_val 0 i u s 0 0 0 ⟨#[]⟩ W; rw [show vEqB 0 i u s 0 0 0 ⟨#[]⟩ = true from h1] at this; exact this) h2
      · exact checkInt_ok i u s w (fun W => by have := run_neq_val 1 i u s 1 i 0 ⟨#[]⟩ W; rw [show vEqB 1 i u s 1 i 0 ⟨#[]⟩ = true from h1] at this; exact this) h2
      · exact checkUint_ok i u s w (fun W => by have := run_neq_val 2 i u s 2 0 u ⟨#[]⟩ W; rw [show vEqB 2 i u s 2 0 u ⟨#[]⟩ = true from h1] at this; exact this) h2
      · exact checkBool_ok i u s w (fun W => by have := run_neq_val 3 i u s 3 (bits BinOp.and .i64 i 1) 0 ⟨#[]⟩ W; rw [show vEqB 3 i u s 3 (bits BinOp.and .i64 i 1) 0 ⟨#[]⟩ = true from h1] at this; exact this) h2
      · exact checkBytes_ok i u s w (fun W => by have := run_neq_val 4 i u s 4 0 0 s W; rw [show vEqB 4 i u s 4 0 0 s = true from h1] at this; exact this) h2
    · omega
    · omega

theorem check_err (k i u : Int) (s : ByteArray) (w : World) (n : Int) (h : chk k i u s = n) (hn : n ≠ 0) :
    Calls Tryz.prog 157 #[.agg #[.int .i64 k, .int .i64 i, .int .u64 u, .string s]] w (IsErr n w) := by
  rcases kinds_cases k with hk | hk
  · unfold chk at h; rw [if_pos hk] at h; subst h; exact checkNone_bad k i u s w hk
  · obtain ⟨_, _, h3⟩ | ⟨h1, h2, rfl⟩ | ⟨h1, rfl⟩ := chk_of h (by omega)
    · exact absurd h3 hn
    · rcases hk with rfl | rfl | rfl | rfl | rfl
      · exact checkNull_long i u s w (fun W => by have := run_neq_val 0 i u s 0 0 0 ⟨#[]⟩ W; rw [show vEqB 0 i u s 0 0 0 ⟨#[]⟩ = true from h1] at this; exact this) h2
      · exact checkInt_long i u s w (fun W => by have := run_neq_val 1 i u s 1 i 0 ⟨#[]⟩ W; rw [show vEqB 1 i u s 1 i 0 ⟨#[]⟩ = true from h1] at this; exact this) h2
      · exact checkUint_long i u s w (fun W => by have := run_neq_val 2 i u s 2 0 u ⟨#[]⟩ W; rw [show vEqB 2 i u s 2 0 u ⟨#[]⟩ = true from h1] at this; exact this) h2
      · exact checkBool_long i u s w (fun W => by have := run_neq_val 3 i u s 3 (bits BinOp.and .i64 i 1) 0 ⟨#[]⟩ W; rw [show vEqB 3 i u s 3 (bits BinOp.and .i64 i 1) 0 ⟨#[]⟩ = true from h1] at this; exact this) h2
      · exact checkBytes_long i u s w (fun W => by have := run_neq_val 4 i u s 4 0 0 s W; rw [show vEqB 4 i u s 4 0 0 s = true from h1] at this; exact this) h2
    · rcases hk with rfl | rfl | rfl | rfl | rfl
      · exact checkNull_bad i u s w (fun W => by have := run_neq_val 0 i u s 0 0 0 ⟨#[]⟩ W; rw [show vEqB 0 i u s 0 0 0 ⟨#[]⟩ = false from h1] at this; exact this)
      · exact checkInt_bad i u s w (fun W => by have := run_neq_val 1 i u s 1 i 0 ⟨#[]⟩ W; rw [show vEqB 1 i u s 1 i 0 ⟨#[]⟩ = false from h1] at this; exact this)
      · exact checkUint_bad i u s w (fun W => by have := run_neq_val 2 i u s 2 0 u ⟨#[]⟩ W; rw [show vEqB 2 i u s 2 0 u ⟨#[]⟩ = false from h1] at this; exact this)
      · exact checkBool_bad i u s w (fun W => by have := run_neq_val 3 i u s 3 (bits BinOp.and .i64 i 1) 0 ⟨#[]⟩ W; rw [show vEqB 3 i u s 3 (bits BinOp.and .i64 i 1) 0 ⟨#[]⟩ = false from h1] at this; exact this)
      · exact checkBytes_bad i u s w (fun W => by have := run_neq_val 4 i u s 4 0 0 s W; rw [show vEqB 4 i u s 4 0 0 s = false from h1] at this; exact this)

set_option maxHeartbeats 400000 in
theorem Check_zero (k i u : Int) (s : ByteArray) (w : World) (h : chk k i u s = 0) :
    Calls Tryz.prog 132 #[.agg #[.int .i64 k, .int .i64 i, .int .u64 u, .string s]] w fun e w' => e = .returned (.int .i64 0) ∧ Below w.heap.size w w' := by
  have H := Lib.hid h
  clear h
  go_enter Tryz.func132, Tryz.ntmps132
  go_wp2_with fail
  refine (check_zero _ _ _ _ _ H.out).mono ?_
  rintro e w1 ⟨rfl, hb1⟩
  go_wp2_with fail
  refine (errno_nil _).mono ?_
  rintro e w2 ⟨rfl, hb2⟩
  go_wp2_with fail
  go_ret
  refine ⟨rfl, ?_⟩
  have h1 : Below w.heap.size w w1 := ((Below.refl _ _).alloc (Nat.le_refl _) _).trans (hb1.mono (by simp))
  exact h1.trans (hb2.mono h1.size)

set_option maxHeartbeats 400000 in
theorem Check_err (k i u : Int) (s : ByteArray) (w : World) (n : Int) (hg : HasET w) (h : chk k i u s = n) (hn : n ≠ 0) :
    Calls Tryz.prog 132 #[.agg #[.int .i64 k, .int .i64 i, .int .u64 u, .string s]] w fun e w' => e = .returned (.int .i64 n) ∧ Below w.heap.size w w' := by
  have H := Lib.hid h
  have HN := Lib.hid hn
  clear h hn
  go_enter Tryz.func132, Tryz.ntmps132
  go_wp2_with fail
  refine (check_err _ _ _ _ _ _ H.out HN.out).mono ?_
  rintro e w1 ⟨b, rfl, hb, hc, hb1⟩
  have h1 : Below w.heap.size w w1 := ((Below.refl _ _).alloc (Nat.le_refl _) _).trans (hb1.mono (by simp))
  go_wp2_with fail
  refine (errno_err b n _ (hg.below h1 hg.lt) hc).mono ?_
  rintro e w2 ⟨rfl, hb2⟩
  go_wp2_with fail
  go_ret
  exact ⟨rfl, h1.trans (hb2.mono h1.size)⟩

theorem Check_any (k i u : Int) (s : ByteArray) (w : World) (hg : HasET w) :
    Calls Tryz.prog 132 #[.agg #[.int .i64 k, .int .i64 i, .int .u64 u, .string s]] w fun e w' => e = .returned (.int .i64 (chk k i u s)) ∧ Below w.heap.size w w' := by
  by_cases h : chk k i u s = 0
  · rw [h]; exact Check_zero k i u s w h
  · exact Check_err k i u s w _ hg rfl h
end Go.Proofs.YtocmjlnhcloccaaGreatDoor
