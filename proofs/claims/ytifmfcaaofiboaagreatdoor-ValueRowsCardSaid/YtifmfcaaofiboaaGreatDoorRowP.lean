/-
  value, pure: the pieces of a row's text are its values' texts; what is read of them are the values.
-/
import Derived.Test.YtifmfcaaofiboaaGreatDoorRParts
import Derived.Test.YtifmfcaaofiboaaGreatDoorRow
import Derived.Test.YtifmfcaaofiboaaGreatDoorTextRead
namespace Go.Proofs.YtifmfcaaofiboaaGreatDoor
open Go.RowKit

theorem fnd_none : ∀ {l : List UInt8}, (∀ c ∈ l, c ≠ 44) → fnd l = l.length
  | [], _ => rfl
  | x :: t, h => by
    have hx := h x (by simp)
    have ih := fnd_none (l := t) (fun c hc => h c (by simp [hc]))
    unfold fnd
    rw [if_neg, ih]
    · rfl
    · intro hp
      cases t with
      | nil => simp [List.isPrefixOf] at hp
      | cons y u =>
        simp only [List.isPrefixOf, Bool.and_eq_true, beq_iff_eq] at hp
        exact hx hp.1.symm
theorem fnd_at : ∀ {l r : List UInt8}, (∀ c ∈ l, c ≠ 44) → fnd (l ++ 44 :: 32 :: r) = l.length
  | [], r, _ => by
    unfold fnd
    rfl
  | x :: t, r, h => by
    have hx := h x (by simp)
    have ih := fnd_at (l := t) (r := r) (fun c hc => h c (by simp [hc]))
    rw [List.cons_append]
    unfold fnd
    rw [if_neg, ih]
    · rfl
    · intro hp
      cases hl : t ++ 44 :: 32 :: r with
      | nil => simp at hl
      | cons y u =>
        rw [hl] at hp
        simp only [List.isPrefixOf, Bool.and_eq_true, beq_iff_eq] at hp
        exact hx hp.1.symm
theorem fig_comma : ∀ n : Fin 256, figs.getD (n.1 / 16) 0 ≠ 44 ∧ figs.getD (n.1 % 16) 0 ≠ 44 := by decide +kernel
theorem hx_comma (c d : UInt8) (h : d ∈ hx c) : d ≠ 44 := by
  have k := fig_comma ⟨c.toNat, c.toNat_lt⟩
  unfold hx at h
  rcases List.mem_cons.1 h with rfl | h
  · exact k.1
  · rw [List.mem_singleton.1 h]
    exact k.2
theorem dec_comma (u : Nat) (c : UInt8) (h : c ∈ Lib.decDigits u) : c ≠ 44 := digit_ne (decDigits_mem u c h) 44 (by decide)
theorem txt_comma (v : Vl) (h : v.chk = 0) : ∀ c ∈ v.txt.data.toList, c ≠ 44 := by
  intro c hc
  unfold Vl.txt at hc
  have hk := chk_kind h
  obtain ⟨k, i, u, s⟩ := v
  simp only at hc hk
  rcases kinds_cases k with hk' | rfl | rfl | rfl | rfl | rfl
  · exact absurd hk' hk
  · have hc' : c ∈ ([110, 117, 108, 108] : List UInt8) := hc
    clear hc; revert c; decide
  · have hc' : c ∈ Lib.itoa i := hc
    by_cases hn : i < 0
    · obtain ⟨n, rfl⟩ : ∃ n : Nat, i = -(n : Int) := ⟨i.natAbs, by omega⟩
      rw [Lib.itoa_neg n (by omega)] at hc'
      rcases List.mem_cons.1 hc' with rfl | hc'
      · decide
      · exact dec_comma _ _ hc'
    · obtain ⟨n, rfl⟩ : ∃ n : Nat, i = (n : Int) := ⟨i.toNat, by omega⟩
      rw [Lib.itoa_nonneg n] at hc'
      exact dec_comma _ _ hc'
  · have hc' : c ∈ Lib.decDigits u.toNat ++ [117] := by
      have e : (textOf 2 i u s).data.toList = Lib.decDigits u.toNat ++ [117] := by
        show ((⟨(Lib.decDigits u.toNat).toArray⟩ : ByteArray) ++ (⟨#[117]⟩ : ByteArray)).data.toList = _
        rw [ByteArray.data_append, Array.toList_append]
      rw [← e]; exact hc
    rcases List.mem_append.1 hc' with hc' | hc'
    · exact dec_comma _ _ hc'
    · rw [List.mem_singleton.1 hc']; decide
  · by_cases hi : i = 0
    · subst hi
      have hc' : c ∈ ([102, 97, 108, 115, 101] : List UInt8) := hc
      clear hc; revert c; decide
    · have e : (textOf 3 i u s).data.toList = [116, 114, 117, 101] := by
        show (if i = 0 then (⟨#[102, 97, 108, 115, 101]⟩ : ByteArray) else ⟨#[116, 114, 117, 101]⟩).data.toList = _
        rw [if_neg hi]
      rw [e] at hc
      revert c; decide
  · have hc' : c ∈ txtBytes s.data.toList := hc
    unfold txtBytes txtB at hc'
    rcases List.mem_append.1 hc' with hc' | hc'
    · rcases List.mem_append.1 hc' with h3 | hc'
      · exact (by decide : ∀ c ∈ ([120, 39] : List UInt8), c ≠ 44) c h3
      · obtain ⟨d, _, hd⟩ := List.mem_flatMap.1 hc'
        exact hx_comma d c hd
    · rw [List.mem_singleton.1 hc']; decide
theorem valO_txt (v : Vl) (h : v.chk = 0) (hok : v.ok) : valO v.txt.data.toList = some v := by
  have hr := text_read (k := v.k) (i := v.i) (u := v.u) (s := v.s) h hok
  unfold valO Vl.txt
  rw [hr]
  simp only [Bool.true_eq_false, if_false]
  rw [if_pos (show chk v.k v.i v.u v.s = 0 from h)]
theorem row_join (v : Vl) (l : List Vl) : (rowText (v :: l)).data.toList = v.txt.data.toList ++ (if l = [] then [] else 44 :: 32 :: (rowText l).data.toList) := by
  unfold rowText
  show Lib.join _ _ = _
  simp only [List.map_cons]
  rw [Lib.join_cons]
  congr 1
  cases l with
  | nil => rfl
  | cons x r =>
    rw [if_neg (by simp)]
    show _ = 44 :: 32 :: Lib.join _ _
    simp only [List.map_cons]
    rw [Lib.join_cons]
    simp [Lib.joinTail]
theorem bad_cons {v : Vl} {l : List Vl} (h : firstBad (v :: l) = 0) : v.chk = 0 ∧ firstBad l = 0 := by
  unfold firstBad at h
  split at h
  · rename_i h0; exact ⟨h0, h⟩
  · rename_i h0; exact absurd h h0
/-- the values that are read of a row's text are the row's, and no piece is long -/
theorem row_read : ∀ (l : List Vl), firstBad l = 0 → (∀ v ∈ l, v.ok) → psV (rowText l).data.toList = l ∧ ∀ b ∈ pcs (rowText l).data.toList, b.length ≤ 700
  | [], _, _ => by
    have e : (rowText []).data.toList = [] := by unfold rowText; simp [Lib.join_nil]
    rw [e]
    refine ⟨psV_nil, fun b hb => ?_⟩
    rw [pcs_step] at hb
    simp [fnd] at hb
    subst hb
    simp
  | v :: l, h, hok => by
    obtain ⟨h1, h2⟩ := bad_cons h
    have hv := hok v (by simp)
    have hc := txt_comma v h1
    have ih := row_read l h2 (fun x hx => hok x (by simp [hx]))
    rw [row_join]
    cases hl : l with
    | nil =>
      rw [if_pos rfl, List.append_nil]
      have hf := fnd_none hc
      refine ⟨?_, fun b hb => ?_⟩
      · rw [psV_step, hf, List.take_length, valO_txt v h1 hv, if_neg (by omega)]
      · rw [pcs_step, hf, List.take_length, if_neg (by omega)] at hb
        rw [List.mem_singleton.1 hb]
        exact txt_size v hv
    | cons x r =>
      rw [← hl, if_neg (by rw [hl]; simp)]
      have hf := fnd_at (r := (rowText l).data.toList) hc
      have hlt : v.txt.data.toList.length < (v.txt.data.toList ++ 44 :: 32 :: (rowText l).data.toList).length := by simp
      have hd : (v.txt.data.toList ++ 44 :: 32 :: (rowText l).data.toList).drop (v.txt.data.toList.length + 2) = (rowText l).data.toList := by
        rw [List.drop_append]
        simp
      refine ⟨?_, fun b hb => ?_⟩
      · rw [psV_step, hf, List.take_left, valO_txt v h1 hv, if_pos hlt, hd, ih.1]
      · rw [pcs_step, hf, List.take_left, if_pos hlt, hd] at hb
        rcases List.mem_cons.1 hb with rfl | hb
        · exact txt_size v hv
        · exact ih.2 b hb
theorem pcs_small (r : List UInt8) : ∀ b ∈ pcs r, b.length ≤ r.length := fun b hb => by
  obtain ⟨x, hx, rfl⟩ := List.mem_map.1 hb
  exact pieGo_len _ 0 r x hx
theorem pie_pcs {r : List UInt8} {n : Nat} (h : ∀ b ∈ pcs r, b.length ≤ n) : ∀ x ∈ pieW 0 r, x.2.length ≤ n := fun x hx => h x.2 (List.mem_map.2 ⟨x, hx, rfl⟩)
end Go.Proofs.YtifmfcaaofiboaaGreatDoor
