/-
  log, pure: a file is its whole records, one behind the other, and what stands behind them.
-/
import Derived.Test.YtbhgcioeibhjeaaGreatDoorLHadP
namespace Go.Proofs.YtbhgcioeibhjeaaGreatDoor
open Go.RowKit

theorem whole_split {l b : List UInt8} {i : Nat} (h : wholeO l i = some b) : l.drop i = recL b ++ l.drop (i + 8 + b.length) := by
  obtain ⟨hp, hc⟩ := wholeO_piece h
  obtain ⟨hl, hle, _⟩ := pieceO_len hp
  obtain ⟨hv, _⟩ := pieceO_val hp
  have t1 := tell_valOf ((l.drop i).take 4) 0
  rw [show ((l.drop i).take 4).length = 4 by rw [List.length_take, List.length_drop]; omega] at t1
  have t2 := tell_valOf ((l.drop (i + 4)).take 4) 0
  rw [show ((l.drop (i + 4)).take 4).length = 4 by rw [List.length_take, List.length_drop]; omega] at t2
  have h1 : tellL b.length 4 = (l.drop i).take 4 := by rw [hl]; exact t1
  have h2 : tellL (crc b) 4 = (l.drop (i + 4)).take 4 := by rw [hc]; exact t2
  have e0 := (List.take_append_drop 4 (l.drop i)).symm
  rw [List.drop_drop] at e0
  have e1 := (List.take_append_drop 4 (l.drop (i + 4))).symm
  rw [List.drop_drop, show i + 4 + 4 = i + 8 by omega] at e1
  have e2 := (List.take_append_drop b.length (l.drop (i + 8))).symm
  rw [List.drop_drop, ← hv] at e2
  rw [e0, e1, e2]
  simp only [recL, h1, h2, List.append_assoc]
theorem walk_split {l : List UInt8} : ∀ (f i : Nat), l.drop i = catR (bsR (walkGo (wholeO l) f i)) ++ l.drop (endF i (walkGo (wholeO l) f i)) ∧ walkGo (wholeO l) f i = recsAt i (bsR (walkGo (wholeO l) f i)) ∧ ∀ b ∈ bsR (walkGo (wholeO l) f i), b.length ≤ 60000
  | 0, i => ⟨by simp [walkGo, bsR, catR, endF], rfl, fun b hb => by simp [walkGo, bsR] at hb⟩
  | f + 1, i => by
    unfold walkGo
    cases h : wholeO l i with
    | none => exact ⟨by simp [bsR, catR, endF], rfl, fun b hb => by simp [bsR] at hb⟩
    | some b =>
      obtain ⟨h1, h2, h3⟩ := walk_split (l := l) f (i + 8 + b.length)
      have hb := (pieceO_len (wholeO_piece h).1).2.2
      simp only
      generalize walkGo (wholeO l) f (i + 8 + b.length) = xs at *
      have e : bsR ((i, b) :: xs) = b :: bsR xs := rfl
      rw [e, endF_cons, catR_cons, List.append_assoc]
      refine ⟨?_, ?_, fun c hc => ?_⟩
      · rw [← h1]
        exact whole_split h
      · show (i, b) :: xs = (i, b) :: recsAt (i + 8 + b.length) (bsR xs)
        rw [← h2]
      · rcases List.mem_cons.1 hc with rfl | hc
        · exact hb
        · exact h3 c hc
/-- the records of a file -/
def recsL (l : List UInt8) : List (List UInt8) := bsR (walkW l.length (wholeO l) 0)
theorem recsL_small (l : List UInt8) : ∀ b ∈ recsL l, b.length ≤ 60000 := (walk_split (l := l) _ 0).2.2
theorem recsL_len (l : List UInt8) : (catR (recsL l)).length = wholeN l := by
  have h := (walk_split (l := l) (l.length + 1 - 0) 0).2.1
  have e := endF_recs (recsL l) 0
  unfold wholeN
  rw [endW_endF]
  have h' : walkW l.length (wholeO l) 0 = recsAt 0 (recsL l) := h
  rw [h', e]
  omega
theorem recsL_take (l : List UInt8) : l.take (wholeN l) = catR (recsL l) := by
  have h := (walk_split (l := l) (l.length + 1 - 0) 0).1
  rw [List.drop_zero] at h
  have h' : l = catR (recsL l) ++ l.drop (endF 0 (walkGo (wholeO l) (l.length + 1 - 0) 0)) := h
  rw [← recsL_len]
  have h2 := congrArg (List.take (catR (recsL l)).length) h'
  rwa [List.take_left] at h2
theorem recsL_cat (L : List (List UInt8)) (hb : ∀ b ∈ L, b.length ≤ 60000) : recsL (catR L) = L := by
  have h := walk_whole L [] hb torn_nil
  rw [List.append_nil] at h
  unfold recsL
  rw [h, bsR_recs]
theorem wholeN_whole (L : List (List UInt8)) (hb : ∀ b ∈ L, b.length ≤ 60000) : wholeN (catR L) = (catR L).length := by
  have h := wholeN_cat L [] hb torn_nil
  rwa [List.append_nil] at h
end Go.Proofs.YtbhgcioeibhjeaaGreatDoor
