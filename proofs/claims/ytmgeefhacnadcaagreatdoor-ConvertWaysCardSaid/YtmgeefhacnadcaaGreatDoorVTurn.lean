/-
  convert's small functions: a value of one type as one of another.
-/
import Derived.Test.YtmgeefhacnadcaaGreatDoorVEnv
namespace Go.Proofs.YtmgeefhacnadcaaGreatDoor
open Go.RowKit

set_option maxHeartbeats 400000 in
theorem ofInt_any (n : Int) (w : World) : Calls Tryz.prog 87 #[.int .i64 n] w fun e w' => e = .returned (.agg #[.int .i64 1, .int .i64 n, .int .u64 0, .string ⟨#[]⟩]) ∧ Below w.heap.size w w' := by
  go_enter Tryz.func87, Tryz.ntmps87
  go_wp2
  go_returns
  exact ⟨rfl, by go_grown⟩
set_option maxHeartbeats 400000 in
theorem ofUint_any (n : Int) (w : World) : Calls Tryz.prog 83 #[.int .u64 n] w fun e w' => e = .returned (.agg #[.int .i64 2, .int .i64 0, .int .u64 n, .string ⟨#[]⟩]) ∧ Below w.heap.size w w' := by
  go_enter Tryz.func83, Tryz.ntmps83
  go_wp2
  go_returns
  exact ⟨rfl, by go_grown⟩
set_option maxHeartbeats 400000 in
theorem ofBytes_any (s : ByteArray) (w : World) : Calls Tryz.prog 85 #[.string s] w fun e w' => e = .returned (.agg #[.int .i64 4, .int .i64 0, .int .u64 0, .string s]) ∧ Below w.heap.size w w' := by
  go_enter Tryz.func85, Tryz.ntmps85
  go_wp2
  go_returns
  exact ⟨rfl, by go_grown⟩
def zV : Value := .agg #[.int .i64 0, .int .i64 0, .int .u64 0, .string ⟨#[]⟩]
/-- a truth, and whether the number is one -/
def boolRes (n : Int) : Value := if n = 0 ∨ n = 1 then .tuple #[.agg #[.int .i64 3, .int .i64 n, .int .u64 0, .string ⟨#[]⟩], .bool true] else .tuple #[.agg #[.int .i64 0, .int .i64 0, .int .u64 0, .string ⟨#[]⟩], .bool false]
set_option maxHeartbeats 1000000 in
theorem ofBoolI_any (n : Int) (w : World) : Calls Tryz.prog 84 #[.int .i64 n] w fun e w' => e = .returned (boolRes n) ∧ Below w.heap.size w w' := by
  by_cases h1 : n = 1
  · subst h1
    go_enter Tryz.func84, Tryz.ntmps84
    go_wp2
    go_returns
    exact ⟨rfl, by go_grown⟩
  · by_cases h0 : n = 0
    · subst h0
      go_enter Tryz.func84, Tryz.ntmps84
      go_wp2
      go_returns
      exact ⟨rfl, by go_grown⟩
    · have e1 : (n == 1) = false := by simp [h1]
      have e0 : (n == 0) = false := by simp [h0]
      have HR := Lib.hid (show boolRes n = .tuple #[.agg #[.int .i64 0, .int .i64 0, .int .u64 0, .string ⟨#[]⟩], .bool false] by unfold boolRes; rw [if_neg (by omega)])
      clear h0 h1
      go_enter Tryz.func84, Tryz.ntmps84
      go_wp2
      go_returns
      exact ⟨by rw [HR.out], by go_grown⟩
set_option maxHeartbeats 1000000 in
theorem ofBoolU_any (n : Int) (w : World) : Calls Tryz.prog 88 #[.int .u64 n] w fun e w' => e = .returned (boolRes n) ∧ Below w.heap.size w w' := by
  by_cases h1 : n = 1
  · subst h1
    go_enter Tryz.func88, Tryz.ntmps88
    go_wp2
    go_returns
    exact ⟨rfl, by go_grown⟩
  · by_cases h0 : n = 0
    · subst h0
      go_enter Tryz.func88, Tryz.ntmps88
      go_wp2
      go_returns
      exact ⟨rfl, by go_grown⟩
    · have e1 : (n == 1) = false := by simp [h1]
      have e0 : (n == 0) = false := by simp [h0]
      have HR := Lib.hid (show boolRes n = .tuple #[.agg #[.int .i64 0, .int .i64 0, .int .u64 0, .string ⟨#[]⟩], .bool false] by unfold boolRes; rw [if_neg (by omega)])
      clear h0 h1
      go_enter Tryz.func88, Tryz.ntmps88
      go_wp2
      go_returns
      exact ⟨by rw [HR.out], by go_grown⟩

set_option maxHeartbeats 400000 in
theorem same_any (k i u : Int) (s : ByteArray) (w : World) : Calls Tryz.prog 42 #[.agg #[.int .i64 k, .int .i64 i, .int .u64 u, .string s]] w fun e w' => e = .returned (.tuple #[.agg #[.int .i64 k, .int .i64 i, .int .u64 u, .string s], .bool true]) ∧ Below w.heap.size w w' := by
  go_enter Tryz.func42, Tryz.ntmps42
  go_wp2
  go_returns
  exact ⟨rfl, by go_grown⟩
theorem box4 {w w' : World} {c : Array Value} {t : TypeId} {o : Obj} (hb : Below ((w.alloc o).alloc (.cells c t)).heap.size ((w.alloc o).alloc (.cells c t)) w') :
    (∀ j, w'.cell? ⟨w.heap.size + 1, j, none⟩ = c[j]?) ∧ (∀ j, w'.frozen? ⟨w.heap.size + 1, j, none⟩ = false) ∧ w.heap.size + 1 < w'.heap.size := by
  have hs := hb.size
  simp at hs
  refine ⟨fun j => ?_, fun j => ?_, by omega⟩
  · rw [hb.cell (by simp)]
    exact World.cell?_alloc_at (w := w.alloc o) c t _ j (by simp)
  · rw [hb.frozen (by simp)]
    simp
theorem below2 {w w' : World} {o o' : Obj} (hb : Below ((w.alloc o).alloc o').heap.size ((w.alloc o).alloc o') w') : Below w.heap.size w w' :=
  (((Below.refl w.heap.size w).alloc (Nat.le_refl _) o).alloc (by simp) o').trans (hb.mono (by simp; omega))
set_option maxHeartbeats 1000000 in
theorem boolToInt_any (k i u : Int) (s : ByteArray) (w : World) : Calls Tryz.prog 54 #[.agg #[.int .i64 k, .int .i64 i, .int .u64 u, .string s]] w fun e w' => e = .returned (.tuple #[.agg #[.int .i64 1, .int .i64 i, .int .u64 0, .string ⟨#[]⟩], .bool true]) ∧ Below w.heap.size w w' := by
  go_enter Tryz.func54, Tryz.ntmps54
  go_wp2_with fail
  refine (ofInt_any _ _).mono ?_
  rintro e w1 ⟨rfl, hb1⟩
  obtain ⟨hc, hf, hsz⟩ := box4 hb1
  have c0 := hc 0
  have c1 := hc 1
  have c2 := hc 2
  have c3 := hc 3
  have f0 := hf 0
  have f1 := hf 1
  have f2 := hf 2
  have f3 := hf 3
  simp at c0 c1 c2 c3
  have HB1 := Lib.hid (below2 hb1)
  clear hc hf hb1
  go_wp2_with fail
  refine bodyPost_ret (v := .tuple #[.agg #[.int .i64 1, .int .i64 i, .int .u64 0, .string ⟨#[]⟩], .bool true]) (by simp [results, Tryz.results54, go_sem, c0, c1, c2, c3]) rfl ⟨rfl, ?_⟩
  repeat' first | exact HB1.out | (refine Below.setCell ?_ (by simp) _)
set_option maxHeartbeats 1000000 in
theorem boolToUint_any (k i u : Int) (s : ByteArray) (w : World) (h0 : 0 ≤ i) (h1 : i ≤ 9223372036854775807) : Calls Tryz.prog 56 #[.agg #[.int .i64 k, .int .i64 i, .int .u64 u, .string s]] w fun e w' => e = .returned (.tuple #[.agg #[.int .i64 2, .int .i64 0, .int .u64 i, .string ⟨#[]⟩], .bool true]) ∧ Below w.heap.size w w' := by
  go_enter Tryz.func56, Tryz.ntmps56
  go_wp2_with fail
  refine (ofUint_any _ _).mono ?_
  rintro e w1 ⟨rfl, hb1⟩
  obtain ⟨hc, hf, hsz⟩ := box4 hb1
  have c0 := hc 0
  have c1 := hc 1
  have c2 := hc 2
  have c3 := hc 3
  have f0 := hf 0
  have f1 := hf 1
  have f2 := hf 2
  have f3 := hf 3
  simp at c0 c1 c2 c3
  have HB1 := Lib.hid (below2 hb1)
  clear hc hf hb1
  go_wp2_with fail
  refine bodyPost_ret (v := .tuple #[.agg #[.int .i64 2, .int .i64 0, .int .u64 i, .string ⟨#[]⟩], .bool true]) (by simp [results, Tryz.results56, go_sem, c0, c1, c2, c3]) rfl ⟨rfl, ?_⟩
  repeat' first | exact HB1.out | (refine Below.setCell ?_ (by simp) _)
set_option maxHeartbeats 1000000 in
theorem intToBool_any (k i u : Int) (s : ByteArray) (w : World) : Calls Tryz.prog 46 #[.agg #[.int .i64 k, .int .i64 i, .int .u64 u, .string s]] w fun e w' => e = .returned (boolRes i) ∧ Below w.heap.size w w' := by
  go_enter Tryz.func46, Tryz.ntmps46
  go_wp2_with fail
  refine (ofBoolI_any _ _).mono ?_
  rintro e w1 ⟨rfl, hb1⟩
  obtain ⟨hc, hf, hsz⟩ := box4 hb1
  have c0 := hc 0
  have c1 := hc 1
  have c2 := hc 2
  have c3 := hc 3
  have f0 := hf 0
  have f1 := hf 1
  have f2 := hf 2
  have f3 := hf 3
  simp at c0 c1 c2 c3
  have HB1 := Lib.hid (below2 hb1)
  clear hc hf hb1
  by_cases h : i = 0 ∨ i = 1
  · have HR := Lib.hid (show boolRes i = .tuple #[.agg #[.int .i64 3, .int .i64 i, .int .u64 0, .string ⟨#[]⟩], .bool true] by unfold boolRes; rw [if_pos h])
    rw [HR.out]
    go_wp2_with fail
    refine bodyPost_ret (v := .tuple #[.agg #[.int .i64 3, .int .i64 i, .int .u64 0, .string ⟨#[]⟩], .bool true]) (by simp [results, Tryz.results46, go_sem, c0, c1, c2, c3]) rfl ⟨by rw [HR.out], ?_⟩
    repeat' first | exact HB1.out | (refine Below.setCell ?_ (by simp) _)
  · have HR := Lib.hid (show boolRes i = .tuple #[.agg #[.int .i64 0, .int .i64 0, .int .u64 0, .string ⟨#[]⟩], .bool false] by unfold boolRes; rw [if_neg h])
    rw [HR.out]
    go_wp2_with fail
    refine bodyPost_ret (v := .tuple #[.agg #[.int .i64 0, .int .i64 0, .int .u64 0, .string ⟨#[]⟩], .bool false]) (by simp [results, Tryz.results46, go_sem, c0, c1, c2, c3]) rfl ⟨by rw [HR.out], ?_⟩
    repeat' first | exact HB1.out | (refine Below.setCell ?_ (by simp) _)
set_option maxHeartbeats 1000000 in
theorem uintToBool_any (k i u : Int) (s : ByteArray) (w : World) : Calls Tryz.prog 51 #[.agg #[.int .i64 k, .int .i64 i, .int .u64 u, .string s]] w fun e w' => e = .returned (boolRes u) ∧ Below w.heap.size w w' := by
  go_enter Tryz.func51, Tryz.ntmps51
  go_wp2_with fail
  refine (ofBoolU_any _ _).mono ?_
  rintro e w1 ⟨rfl, hb1⟩
  obtain ⟨hc, hf, hsz⟩ := box4 hb1
  have c0 := hc 0
  have c1 := hc 1
  have c2 := hc 2
  have c3 := hc 3
  have f0 := hf 0
  have f1 := hf 1
  have f2 := hf 2
  have f3 := hf 3
  simp at c0 c1 c2 c3
  have HB1 := Lib.hid (below2 hb1)
  clear hc hf hb1
  by_cases h : u = 0 ∨ u = 1
  · have HR := Lib.hid (show boolRes u = .tuple #[.agg #[.int .i64 3, .int .i64 u, .int .u64 0, .string ⟨#[]⟩], .bool true] by unfold boolRes; rw [if_pos h])
    rw [HR.out]
    go_wp2_with fail
    refine bodyPost_ret (v := .tuple #[.agg #[.int .i64 3, .int .i64 u, .int .u64 0, .string ⟨#[]⟩], .bool true]) (by simp [results, Tryz.results51, go_sem, c0, c1, c2, c3]) rfl ⟨by rw [HR.out], ?_⟩
    repeat' first | exact HB1.out | (refine Below.setCell ?_ (by simp) _)
  · have HR := Lib.hid (show boolRes u = .tuple #[.agg #[.int .i64 0, .int .i64 0, .int .u64 0, .string ⟨#[]⟩], .bool false] by unfold boolRes; rw [if_neg h])
    rw [HR.out]
    go_wp2_with fail
    refine bodyPost_ret (v := .tuple #[.agg #[.int .i64 0, .int .i64 0, .int .u64 0, .string ⟨#[]⟩], .bool false]) (by simp [results, Tryz.results51, go_sem, c0, c1, c2, c3]) rfl ⟨by rw [HR.out], ?_⟩
    repeat' first | exact HB1.out | (refine Below.setCell ?_ (by simp) _)
set_option maxHeartbeats 400000 in
theorem xtellInt_any (n : Int) (h0 : -9223372036854775808 ≤ n) (h1 : n ≤ 9223372036854775807) (w : World) (hT : HasTab w) : Calls Tryz.prog 86 #[.int .i64 n] w fun e w' => e = .returned (.string ⟨(Lib.itoa n).toArray⟩) ∧ Below w.heap.size w w' := by
  have C := Lib.hid (FormatInt_10 n h0 h1 w hT)
  clear h0 h1 hT
  go_enter Tryz.func86, Tryz.ntmps86
  go_wp2_with fail
  refine C.out.mono ?_
  rintro e w' ⟨rfl, hb⟩
  go_wp2_with fail
  go_ret
  exact ⟨rfl, hb⟩
set_option maxHeartbeats 400000 in
theorem xtellUint_any (n : Int) (h0 : 0 ≤ n) (h1 : n ≤ 18446744073709551615) (w : World) (hT : HasTab w) : Calls Tryz.prog 89 #[.int .u64 n] w fun e w' => e = .returned (.string ⟨(Lib.decDigits n.toNat).toArray⟩) ∧ Below w.heap.size w w' := by
  have C := Lib.hid (FormatUint_10 n h0 h1 w hT)
  clear h0 h1 hT
  go_enter Tryz.func89, Tryz.ntmps89
  go_wp2_with fail
  refine C.out.mono ?_
  rintro e w' ⟨rfl, hb⟩
  go_wp2_with fail
  go_ret
  exact ⟨rfl, hb⟩
set_option maxHeartbeats 1000000 in
theorem intToBytes_any (k i u : Int) (s : ByteArray) (w : World) (hT : HasTab w) (h0 : -9223372036854775808 ≤ i) (h1 : i ≤ 9223372036854775807) : Calls Tryz.prog 47 #[.agg #[.int .i64 k, .int .i64 i, .int .u64 u, .string s]] w fun e w' => e = .returned (.tuple #[.agg #[.int .i64 4, .int .i64 0, .int .u64 0, .string ⟨(Lib.itoa i).toArray⟩], .bool true]) ∧ Below w.heap.size w w' := by
  have HT := Lib.hid (fun W (hb : Below w.heap.size w W) => xtellInt_any i h0 h1 W (hT.below hb hT.lt))
  clear hT h0 h1
  go_enter Tryz.func47, Tryz.ntmps47
  go_wp2_with fail
  refine (HT.out _ (((Below.refl _ _).alloc (Nat.le_refl _) _).alloc (by simp) _)).mono ?_
  rintro e w0 ⟨rfl, hb0⟩
  go_wp2_with fail
  refine (ofBytes_any _ _).mono ?_
  rintro e w1 ⟨rfl, hb⟩
  have hb1 := hb0.trans (hb.mono hb0.size)
  clear hb hb0
  obtain ⟨hc, hf, hsz⟩ := box4 hb1
  have c0 := hc 0
  have c1 := hc 1
  have c2 := hc 2
  have c3 := hc 3
  have f0 := hf 0
  have f1 := hf 1
  have f2 := hf 2
  have f3 := hf 3
  simp at c0 c1 c2 c3
  have HB1 := Lib.hid (below2 hb1)
  clear hc hf hb1
  go_wp2_with fail
  refine bodyPost_ret (v := .tuple #[.agg #[.int .i64 4, .int .i64 0, .int .u64 0, .string ⟨(Lib.itoa i).toArray⟩], .bool true]) (by simp [results, Tryz.results47, go_sem, c0, c1, c2, c3]) rfl ⟨rfl, ?_⟩
  repeat' first | exact HB1.out | (refine Below.setCell ?_ (by simp) _)
set_option maxHeartbeats 1000000 in
theorem uintToBytes_any (k i u : Int) (s : ByteArray) (w : World) (hT : HasTab w) (h0 : 0 ≤ u) (h1 : u ≤ 18446744073709551615) : Calls Tryz.prog 52 #[.agg #[.int .i64 k, .int .i64 i, .int .u64 u, .string s]] w fun e w' => e = .returned (.tuple #[.agg #[.int .i64 4, .int .i64 0, .int .u64 0, .string ⟨(Lib.decDigits u.toNat).toArray⟩], .bool true]) ∧ Below w.heap.size w w' := by
  have HT := Lib.hid (fun W (hb : Below w.heap.size w W) => xtellUint_any u h0 h1 W (hT.below hb hT.lt))
  clear hT h0 h1
  go_enter Tryz.func52, Tryz.ntmps52
  go_wp2_with fail
  refine (HT.out _ (((Below.refl _ _).alloc (Nat.le_refl _) _).alloc (by simp) _)).mono ?_
  rintro e w0 ⟨rfl, hb0⟩
  go_wp2_with fail
  refine (ofBytes_any _ _).mono ?_
  rintro e w1 ⟨rfl, hb⟩
  have hb1 := hb0.trans (hb.mono hb0.size)
  clear hb hb0
  obtain ⟨hc, hf, hsz⟩ := box4 hb1
  have c0 := hc 0
  have c1 := hc 1
  have c2 := hc 2
  have c3 := hc 3
  have f0 := hf 0
  have f1 := hf 1
  have f2 := hf 2
  have f3 := hf 3
  simp at c0 c1 c2 c3
  have HB1 := Lib.hid (below2 hb1)
  clear hc hf hb1
  go_wp2_with fail
  refine bodyPost_ret (v := .tuple #[.agg #[.int .i64 4, .int .i64 0, .int .u64 0, .string ⟨(Lib.decDigits u.toNat).toArray⟩], .bool true]) (by simp [results, Tryz.results52, go_sem, c0, c1, c2, c3]) rfl ⟨rfl, ?_⟩
  repeat' first | exact HB1.out | (refine Below.setCell ?_ (by simp) _)
set_option maxRecDepth 100000 in
set_option maxHeartbeats 2000000 in
theorem intToUint_any (k i u : Int) (s : ByteArray) (w : World) : Calls Tryz.prog 44 #[.agg #[.int .i64 k, .int .i64 i, .int .u64 u, .string s]] w fun e w' => e = .returned (.tuple #[.agg #[.int .i64 2, .int .i64 0, .int .u64 (IntKind.u64.wrap i), .string ⟨#[]⟩], .bool (decide (0 ≤ i))]) ∧ Below w.heap.size w w' := by
  go_enter Tryz.func44, Tryz.ntmps44
  go_wp2
  go_region_held3 (fun w' => w'.cell? ⟨w.heap.size, 1, none⟩ = some (.int .i64 i)) (first | (go_keep; done) | (simp [*, go_sem]; done) | (rw [hb3.cell (by simp; omega)]; simp [go_sem]; done) | (simp [go_sem]; rw [hb3.cell (by simp; omega)]; simp [go_sem]; done))
    (first | (go_at_call 83; refine (ofUint_any _ _).mono ?_; rintro e w3 ⟨rfl, hb3⟩; have c0 : w3.cell? ⟨w.heap.size + 1, 0, none⟩ = some (.int .i64 0) := (hb3.cell (p := ⟨w.heap.size + 1, 0, none⟩) (by simp)).trans (by simp [go_sem]); have f0 : w3.frozen? ⟨w.heap.size + 1, 0, none⟩ = false := (hb3.frozen (p := ⟨w.heap.size + 1, 0, none⟩) (by simp)).trans (by simp [go_sem]); have c1 : w3.cell? ⟨w.heap.size + 1, 1, none⟩ = some (.int .i64 0) := (hb3.cell (p := ⟨w.heap.size + 1, 1, none⟩) (by simp)).trans (by simp [go_sem]); have f1 : w3.frozen? ⟨w.heap.size + 1, 1, none⟩ = false := (hb3.frozen (p := ⟨w.heap.size + 1, 1, none⟩) (by simp)).trans (by simp [go_sem]); have c2 : w3.cell? ⟨w.heap.size + 1, 2, none⟩ = some (.int .u64 0) := (hb3.cell (p := ⟨w.heap.size + 1, 2, none⟩) (by simp)).trans (by simp [go_sem]); have f2 : w3.frozen? ⟨w.heap.size + 1, 2, none⟩ = false := (hb3.frozen (p := ⟨w.heap.size + 1, 2, none⟩) (by simp)).trans (by simp [go_sem]); have c3 : w3.cell? ⟨w.heap.size + 1, 3, none⟩ = some (.string ⟨#[]⟩) := (hb3.cell (p := ⟨w.heap.size + 1, 3, none⟩) (by simp)).trans (by simp [go_sem]); have f3 : w3.frozen? ⟨w.heap.size + 1, 3, none⟩ = false := (hb3.frozen (p := ⟨w.heap.size + 1, 3, none⟩) (by simp)).trans (by simp [go_sem]); have HB1 := Lib.hid (show Below w.heap.size w w3 from (show Below w.heap.size w _ from by go_grown).trans (hb3.mono (by simp; try omega)))))
  all_goals go_wp2_with fail
  all_goals refine bodyPost_ret (v := .tuple #[.agg #[.int .i64 2, .int .i64 0, .int .u64 (IntKind.u64.wrap i), .string ⟨#[]⟩], .bool (decide (0 ≤ i))]) (by simp [results, Tryz.results44, go_sem, c0, c1, c2, c3]) rfl ⟨rfl, ?_⟩
  all_goals repeat' first | exact HB1.out | (refine Below.setCell ?_ (by simp) _)
set_option maxRecDepth 100000 in
set_option maxHeartbeats 2000000 in
theorem uintToInt_any (k i u : Int) (s : ByteArray) (w : World) : Calls Tryz.prog 49 #[.agg #[.int .i64 k, .int .i64 i, .int .u64 u, .string s]] w fun e w' => e = .returned (.tuple #[.agg #[.int .i64 1, .int .i64 (IntKind.i64.wrap u), .int .u64 0, .string ⟨#[]⟩], .bool (decide (u ≤ 9223372036854775807))]) ∧ Below w.heap.size w w' := by
  go_enter Tryz.func49, Tryz.ntmps49
  go_wp2
  go_region_held3 (fun w' => w'.cell? ⟨w.heap.size, 2, none⟩ = some (.int .u64 u)) (first | (go_keep; done) | (simp [*, go_sem]; done) | (rw [hb3.cell (by simp; omega)]; simp [go_sem]; done) | (simp [go_sem]; rw [hb3.cell (by simp; omega)]; simp [go_sem]; done))
    (first | (go_at_call 87; refine (ofInt_any _ _).mono ?_; rintro e w3 ⟨rfl, hb3⟩; have c0 : w3.cell? ⟨w.heap.size + 1, 0, none⟩ = some (.int .i64 0) := (hb3.cell (p := ⟨w.heap.size + 1, 0, none⟩) (by simp)).trans (by simp [go_sem]); have f0 : w3.frozen? ⟨w.heap.size + 1, 0, none⟩ = false := (hb3.frozen (p := ⟨w.heap.size + 1, 0, none⟩) (by simp)).trans (by simp [go_sem]); have c1 : w3.cell? ⟨w.heap.size + 1, 1, none⟩ = some (.int .i64 0) := (hb3.cell (p := ⟨w.heap.size + 1, 1, none⟩) (by simp)).trans (by simp [go_sem]); have f1 : w3.frozen? ⟨w.heap.size + 1, 1, none⟩ = false := (hb3.frozen (p := ⟨w.heap.size + 1, 1, none⟩) (by simp)).trans (by simp [go_sem]); have c2 : w3.cell? ⟨w.heap.size + 1, 2, none⟩ = some (.int .u64 0) := (hb3.cell (p := ⟨w.heap.size + 1, 2, none⟩) (by simp)).trans (by simp [go_sem]); have f2 : w3.frozen? ⟨w.heap.size + 1, 2, none⟩ = false := (hb3.frozen (p := ⟨w.heap.size + 1, 2, none⟩) (by simp)).trans (by simp [go_sem]); have c3 : w3.cell? ⟨w.heap.size + 1, 3, none⟩ = some (.string ⟨#[]⟩) := (hb3.cell (p := ⟨w.heap.size + 1, 3, none⟩) (by simp)).trans (by simp [go_sem]); have f3 : w3.frozen? ⟨w.heap.size + 1, 3, none⟩ = false := (hb3.frozen (p := ⟨w.heap.size + 1, 3, none⟩) (by simp)).trans (by simp [go_sem]); have HB1 := Lib.hid (show Below w.heap.size w w3 from (show Below w.heap.size w _ from by go_grown).trans (hb3.mono (by simp; try omega)))))
  all_goals go_wp2_with fail
  all_goals refine bodyPost_ret (v := .tuple #[.agg #[.int .i64 1, .int .i64 (IntKind.i64.wrap u), .int .u64 0, .string ⟨#[]⟩], .bool (decide (u ≤ 9223372036854775807))]) (by simp [results, Tryz.results49, go_sem, c0, c1, c2, c3]) rfl ⟨rfl, ?_⟩
  all_goals repeat' first | exact HB1.out | (refine Below.setCell ?_ (by simp) _)
end Go.Proofs.YtmgeefhacnadcaaGreatDoor
