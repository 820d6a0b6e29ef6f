/-
  value.text and value.Text of any value.
-/
import Derived.Test.YtifmfcaaofiboaaGreatDoorText
import Derived.Test.YtifmfcaaofiboaaGreatDoorRCheck
namespace Go.Proofs.YtifmfcaaofiboaaGreatDoor
open Go.RowKit

def textOf (k i u : Int) (s : ByteArray) : ByteArray :=
  if k = 0 then ⟨#[110, 117, 108, 108]⟩ else if k = 1 then ⟨(Lib.itoa i).toArray⟩ else if k = 2 then ⟨(Lib.decDigits u.toNat).toArray⟩ ++ ⟨#[117]⟩
  else if k = 3 then (if i = 0 then ⟨#[102, 97, 108, 115, 101]⟩ else ⟨#[116, 114, 117, 101]⟩) else ⟨(txtBytes s.data.toList).toArray⟩
/-- The numbers of a value lie in their kinds; its bytes are few. -/
structure InR (i u : Int) (s : ByteArray) : Prop where
  i0 : -9223372036854775808 ≤ i
  i1 : i ≤ 9223372036854775807
  u0 : 0 ≤ u
  u1 : u ≤ 18446744073709551615
  z : s.size ≤ 300

theorem chk_kind {k i u : Int} {s : ByteArray} (h : chk k i u s = 0) : ¬ (k < 0 ∨ 4 < k) := by
  intro hk
  unfold chk at h
  rw [if_pos hk] at h
  cases h
theorem chk_bool {i u : Int} {s : ByteArray} (h : chk 3 i u s = 0) : i = 0 ∨ i = 1 := by
  obtain ⟨h1, _, _⟩ | ⟨_, _, h3⟩ | ⟨_, h3⟩ := chk_of h (by omega)
  · by_cases h0 : i = 0
    · exact .inl h0
    · by_cases h1' : i = 1
      · exact .inr h1'
      · exfalso
        have := and_one i h0 h1'
        unfold vEqB onlyI at h1
        simp at h1
        exact this h1.1.symm
  · cases h3
  · cases h3

theorem text_zero (k i u : Int) (s : ByteArray) (w : World) (h : chk k i u s = 0) (hr : InR i u s) (ht : HasTab w) :
    Calls Tryz.prog 37 #[.agg #[.int .i64 k, .int .i64 i, .int .u64 u, .string s]] w fun e w' => e = .returned (.tuple #[.string (textOf k i u s), .nilIface]) ∧ Below w.heap.size w w' := by
  rcases kinds_cases k with hk | rfl | rfl | rfl | rfl | rfl
  · exact absurd hk (chk_kind h)
  · exact textNull i u s w h
  · exact textInt i u s w h hr.i0 hr.i1 ht
  · exact textUint i u s w h hr.u0 hr.u1 ht
  · rcases chk_bool h with rfl | rfl
    · exact textBool0 u s w h
    · exact textBool1 u s w h
  · exact textBytes i u s w h hr.z

/-- no text, and an error that wraps n -/
def IsErr2 (n : Int) (z : Value) (w : World) (e : Ending) (w' : World) : Prop :=
  ∃ b, e = .returned (.tuple #[z, .iface 125 (.pointer (some ⟨b, 0, none⟩))]) ∧ w'.cell? ⟨b, 1, none⟩ = some (.int .i64 n) ∧ Below w.heap.size w w'

set_option maxHeartbeats 400000 in
theorem text_err (k i u : Int) (s : ByteArray) (w : World) (n : Int) (h : chk k i u s = n) (hn : n ≠ 0) :
    Calls Tryz.prog 37 #[.agg #[.int .i64 k, .int .i64 i, .int .u64 u, .string s]] w (IsErr2 n (.string ⟨#[]⟩) w) := by
  have H := Lib.hid h
  have HN := Lib.hid hn
  clear h hn
  go_enter Tryz.func37, Tryz.ntmps37
  go_wp2_with (go_at_call 48; refine (Of_any _ _ _).mono ?_; rintro e w' ⟨rfl, rfl⟩)
  refine (check_err _ _ _ _ _ _ H.out HN.out).mono ?_
  rintro e w1 ⟨b, rfl, hb, hc, hb1⟩
  go_wp2_with (go_at_call 48; refine (Of_any _ _ _).mono ?_; rintro e w' ⟨rfl, rfl⟩)
  go_ret2
  exact ⟨b, rfl, hc, below_alloc1 _ _ hb1⟩

/-- a text, or an error's number -/
def textRes (k i u : Int) (s : ByteArray) : Value :=
  if chk k i u s = 0 then .tuple #[.string (textOf k i u s), .int .i64 0] else .tuple #[.string ⟨#[]⟩, .int .i64 (chk k i u s)]

set_option maxHeartbeats 400000 in
theorem Text_any (k i u : Int) (s : ByteArray) (w : World) (hr : InR i u s) (ht : HasTab w) (hg : HasET w) :
    Calls Tryz.prog 17 #[.agg #[.int .i64 k, .int .i64 i, .int .u64 u, .string s]] w fun e w' => e = .returned (textRes k i u s) ∧ Below w.heap.size w w' := by
  by_cases h : chk k i u s = 0
  · rw [show textRes k i u s = .tuple #[.string (textOf k i u s), .int .i64 0] by unfold textRes; rw [if_pos h]]
    have C := Lib.hid (text_zero k i u s (w.alloc (.cells #[.int .i64 k, .int .i64 i, .int .u64 u, .string s] 25)) h hr (ht.below ((Below.refl w.heap.size _).alloc (Nat.le_refl _) _) ht.lt))
    clear h hr ht hg
    go_enter Tryz.func17, Tryz.ntmps17
    go_wp2_with (go_at_call 48; refine (Of_any _ _ _).mono ?_; rintro e w' ⟨rfl, rfl⟩)
    refine C.out.mono ?_
    rintro e w1 ⟨rfl, hb1⟩
    go_wp2_with (go_at_call 48; refine (Of_any _ _ _).mono ?_; rintro e w' ⟨rfl, rfl⟩)
    refine (errno_nil _).mono ?_
    rintro e w2 ⟨rfl, hb2⟩
    go_wp2_with (go_at_call 48; refine (Of_any _ _ _).mono ?_; rintro e w' ⟨rfl, rfl⟩)
    go_ret2
    have h1 := below_alloc1 _ _ hb1
    exact ⟨rfl, h1.trans (hb2.mono h1.size)⟩
  · rw [show textRes k i u s = .tuple #[.string ⟨#[]⟩, .int .i64 (chk k i u s)] by unfold textRes; rw [if_neg h]]
    obtain ⟨n, hn⟩ : ∃ n, chk k i u s = n := ⟨_, rfl⟩
    rw [hn] at h ⊢
    have C := Lib.hid (text_err k i u s (w.alloc (.cells #[.int .i64 k, .int .i64 i, .int .u64 u, .string s] 25)) n hn h)
    clear hn h hr ht
    go_enter Tryz.func17, Tryz.ntmps17
    go_wp2_with (go_at_call 48; refine (Of_any _ _ _).mono ?_; rintro e w' ⟨rfl, rfl⟩)
    refine C.out.mono ?_
    rintro e w1 ⟨b, rfl, hc, hb1⟩
    have h1 := below_alloc1 _ _ hb1
    go_wp2_with (go_at_call 48; refine (Of_any _ _ _).mono ?_; rintro e w' ⟨rfl, rfl⟩)
    refine (errno_err b n _ (hg.below h1 hg.lt) hc).mono ?_
    rintro e w2 ⟨rfl, hb2⟩
    go_wp2_with (go_at_call 48; refine (Of_any _ _ _).mono ?_; rintro e w' ⟨rfl, rfl⟩)
    go_ret2
    exact ⟨rfl, h1.trans (hb2.mono h1.size)⟩
end Go.Proofs.YtifmfcaaofiboaaGreatDoor
