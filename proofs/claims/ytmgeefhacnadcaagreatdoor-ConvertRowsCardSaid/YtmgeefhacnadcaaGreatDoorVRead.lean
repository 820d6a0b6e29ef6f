/-
  convert.read at both types of numbers; bytesToInt, bytesToUint; the functions that tell whether a way is sure.
-/
import Derived.Test.YtmgeefhacnadcaaGreatDoorVTurn
import Derived.Test.YtmgeefhacnadcaaGreatDoorSKind
namespace Go.Proofs.YtmgeefhacnadcaaGreatDoor
open Go.RowKit

theorem str_eq {s : ByteArray} {l : List UInt8} (h : l = s.data.toList) : (l == s.toList) = true := by
  rw [ByteArray.toList_eq]
  simp [h]
theorem str_ne {s : ByteArray} {l : List UInt8} (h : l ≠ s.data.toList) : (l == s.toList) = false := by
  rw [ByteArray.toList_eq, beq_eq_false_iff_ne]
  exact h
set_option maxHeartbeats 400000 in
theorem parseInt_any (s : ByteArray) (w : World) (hE : Env w) (hs : s.size ≤ 1000) : Calls Tryz.prog 91 #[.string s] w (NumPost (okI s.data.toList) w) := by
  have C := Lib.hid (ParseInt_any s w hE hs)
  clear hE
  generalize okI s.data.toList = r at *
  cases r with
  | some v =>
    go_enter Tryz.func91, Tryz.ntmps91
    go_wp2_with fail
    refine C.out.mono ?_
    rintro e w' ⟨he, hb⟩
    subst he
    go_wp2_with fail
    go_ret2
    exact ⟨rfl, hb⟩
  | none =>
    go_enter Tryz.func91, Tryz.ntmps91
    go_wp2_with fail
    refine C.out.mono ?_
    rintro e w' ⟨⟨v, t, p, rfl⟩, hb⟩
    go_wp2_with fail
    go_ret2
    exact ⟨⟨v, t, p, rfl⟩, hb⟩
set_option maxHeartbeats 400000 in
theorem parseUint_any (s : ByteArray) (w : World) (hE : Env w) (hs : s.size ≤ 1000) : Calls Tryz.prog 93 #[.string s] w (NumPost (okU s.data.toList) w) := by
  have C := Lib.hid (ParseUint_any s w hE hs)
  clear hE
  generalize okU s.data.toList = r at *
  cases r with
  | some v =>
    go_enter Tryz.func93, Tryz.ntmps93
    go_wp2_with fail
    refine C.out.mono ?_
    rintro e w' ⟨he, hb⟩
    subst he
    go_wp2_with fail
    go_ret2
    exact ⟨rfl, hb⟩
  | none =>
    go_enter Tryz.func93, Tryz.ntmps93
    go_wp2_with fail
    refine C.out.mono ?_
    rintro e w' ⟨⟨v, t, p, rfl⟩, hb⟩
    go_wp2_with fail
    go_ret2
    exact ⟨⟨v, t, p, rfl⟩, hb⟩

def resNI : Option Int → Value
  | some n => .tuple #[.int .i64 n, .bool true]
  | none => .tuple #[.int .i64 0, .bool false]
set_option maxRecDepth 100000 in
set_option maxHeartbeats 2000000 in
theorem readI_any (s : ByteArray) (w : World) (hE : Env w) (hs : s.size ≤ 1000) : Calls Tryz.prog 90 #[.string s, .func (.func 91) #[] #[], .func (.func 86) #[] #[]] w fun e w' => e = .returned (resNI (readI s.data.toList)) ∧ Below w.heap.size w w' := by
  have HC := Lib.hid (parseInt_any s w hE hs)
  have HE := Lib.hid hE
  clear hE
  cases h : Lib.parseIntB 64 s.data.toList
  case ok v =>
    have HO := Lib.hid (show okI s.data.toList = some (.int .i64 v) by unfold okI; rw [h])
    have hbd : -9223372036854775808 ≤ v ∧ v ≤ 9223372036854775807 := by have := Lib.parseIntB_bounds h; omega
    obtain ⟨hb0, hb1⟩ := hbd
    by_cases hi : Lib.itoa v = s.data.toList
    · have HR := Lib.hid (show readI s.data.toList = some (v : Int) by unfold readI; rw [h]; exact if_pos hi)
      have hq := str_eq hi
      have HT := Lib.hid (fun W (hb : Below w.heap.size w W) => xtellInt_any v hb0 hb1 W (HE.out.tab.below hb HE.out.tab.lt))
      clear h hi
      go_enter Tryz.func90, Tryz.ntmps90
      go_wp2_with fail
      refine HC.out.mono ?_
      rintro e w1 hp
      rw [HO.out] at hp
      obtain ⟨he, hb⟩ := hp
      subst he
      have HB := Lib.hid hb
      clear hb
      go_wp2_with (first | (go_at_call 86; refine (HT.out _ HB.out).mono ?_; rintro e w2 ⟨rfl, hb2⟩))
      go_ret2
      exact ⟨by rw [HR.out]; rfl, HB.out.trans (hb2.mono HB.out.size)⟩
    · have HR := Lib.hid (show readI s.data.toList = none by unfold readI; rw [h]; exact if_neg hi)
      have hq := str_ne hi
      have HT := Lib.hid (fun W (hb : Below w.heap.size w W) => xtellInt_any v hb0 hb1 W (HE.out.tab.below hb HE.out.tab.lt))
      clear h hi
      go_enter Tryz.func90, Tryz.ntmps90
      go_wp2_with fail
      refine HC.out.mono ?_
      rintro e w1 hp
      rw [HO.out] at hp
      obtain ⟨he, hb⟩ := hp
      subst he
      have HB := Lib.hid hb
      clear hb
      go_wp2_with (first | (go_at_call 86; refine (HT.out _ HB.out).mono ?_; rintro e w2 ⟨rfl, hb2⟩))
      go_ret2
      exact ⟨by rw [HR.out]; rfl, HB.out.trans (hb2.mono HB.out.size)⟩
  case range =>
    have HO := Lib.hid (show okI s.data.toList = none by unfold okI; rw [h])
    have HR := Lib.hid (show readI s.data.toList = none by unfold readI; rw [h])
    clear h
    go_enter Tryz.func90, Tryz.ntmps90
    go_wp2_with fail
    refine HC.out.mono ?_
    rintro e w1 hp
    rw [HO.out] at hp
    obtain ⟨⟨x, t, p, rfl⟩, hb⟩ := hp
    have HB := Lib.hid hb
    clear hb
    go_wp2_with fail
    go_ret2
    exact ⟨by rw [HR.out]; rfl, HB.out⟩

  ·
    have HO := Lib.hid (show okI s.data.toList = none by unfold okI; rw [h])
    have HR := Lib.hid (show readI s.data.toList = none by unfold readI; rw [h])
    clear h
    go_enter Tryz.func90, Tryz.ntmps90
    go_wp2_with fail
    refine HC.out.mono ?_
    rintro e w1 hp
    rw [HO.out] at hp
    obtain ⟨⟨x, t, p, rfl⟩, hb⟩ := hp
    have HB := Lib.hid hb
    clear hb
    go_wp2_with fail
    go_ret2
    exact ⟨by rw [HR.out]; rfl, HB.out⟩
def resNU : Option Int → Value
  | some n => .tuple #[.int .u64 n, .bool true]
  | none => .tuple #[.int .u64 0, .bool false]
set_option maxRecDepth 100000 in
set_option maxHeartbeats 2000000 in
theorem readU_any (s : ByteArray) (w : World) (hE : Env w) (hs : s.size ≤ 1000) : Calls Tryz.prog 92 #[.string s, .func (.func 93) #[] #[], .func (.func 89) #[] #[]] w fun e w' => e = .returned (resNU (readU s.data.toList)) ∧ Below w.heap.size w w' := by
  have HC := Lib.hid (parseUint_any s w hE hs)
  have HE := Lib.hid hE
  clear hE
  cases h : Lib.parseUintB 64 s.data.toList
  case ok v =>
    have HO := Lib.hid (show okU s.data.toList = some (.int .u64 v) by unfold okU; rw [h])
    have hbd : (0 : Int) ≤ (v : Int) ∧ (v : Int) ≤ 18446744073709551615 := by have := Lib.parseUintB_le h; omega
    obtain ⟨hb0, hb1⟩ := hbd
    by_cases hi : Lib.decDigits v = s.data.toList
    · have HR := Lib.hid (show readU s.data.toList = some (v : Int) by unfold readU; rw [h]; exact if_pos hi)
      have hq := str_eq hi
      have HT := Lib.hid (fun W (hb : Below w.heap.size w W) => xtellUint_any v hb0 hb1 W (HE.out.tab.below hb HE.out.tab.lt))
      clear h hi
      go_enter Tryz.func92, Tryz.ntmps92
      go_wp2_with fail
      refine HC.out.mono ?_
      rintro e w1 hp
      rw [HO.out] at hp
      obtain ⟨he, hb⟩ := hp
      subst he
      have HB := Lib.hid hb
      clear hb
      go_wp2_with (first | (go_at_call 89; refine (HT.out _ HB.out).mono ?_; rintro e w2 ⟨rfl, hb2⟩))
      go_ret2
      exact ⟨by rw [HR.out]; rfl, HB.out.trans (hb2.mono HB.out.size)⟩
    · have HR := Lib.hid (show readU s.data.toList = none by unfold readU; rw [h]; exact if_neg hi)
      have hq := str_ne hi
      have HT := Lib.hid (fun W (hb : Below w.heap.size w W) => xtellUint_any v hb0 hb1 W (HE.out.tab.below hb HE.out.tab.lt))
      clear h hi
      go_enter Tryz.func92, Tryz.ntmps92
      go_wp2_with fail
      refine HC.out.mono ?_
      rintro e w1 hp
      rw [HO.out] at hp
      obtain ⟨he, hb⟩ := hp
      subst he
      have HB := Lib.hid hb
      clear hb
      go_wp2_with (first | (go_at_call 89; refine (HT.out _ HB.out).mono ?_; rintro e w2 ⟨rfl, hb2⟩))
      go_ret2
      exact ⟨by rw [HR.out]; rfl, HB.out.trans (hb2.mono HB.out.size)⟩
  case range =>
    have HO := Lib.hid (show okU s.data.toList = none by unfold okU; rw [h])
    have HR := Lib.hid (show readU s.data.toList = none by unfold readU; rw [h])
    clear h
    go_enter Tryz.func92, Tryz.ntmps92
    go_wp2_with fail
    refine HC.out.mono ?_
    rintro e w1 hp
    rw [HO.out] at hp
    obtain ⟨⟨x, t, p, rfl⟩, hb⟩ := hp
    have HB := Lib.hid hb
    clear hb
    go_wp2_with fail
    go_ret2
    exact ⟨by rw [HR.out]; rfl, HB.out⟩

  ·
    have HO := Lib.hid (show okU s.data.toList = none by unfold okU; rw [h])
    have HR := Lib.hid (show readU s.data.toList = none by unfold readU; rw [h])
    clear h
    go_enter Tryz.func92, Tryz.ntmps92
    go_wp2_with fail
    refine HC.out.mono ?_
    rintro e w1 hp
    rw [HO.out] at hp
    obtain ⟨⟨x, t, p, rfl⟩, hb⟩ := hp
    have HB := Lib.hid hb
    clear hb
    go_wp2_with fail
    go_ret2
    exact ⟨by rw [HR.out]; rfl, HB.out⟩
def resbytesToInt : Option Int → Value
  | some n => .tuple #[.agg #[.int .i64 1, .int .i64 n, .int .u64 0, .string ⟨#[]⟩], .bool true]
  | none => .tuple #[.agg #[.int .i64 1, .int .i64 0, .int .u64 0, .string ⟨#[]⟩], .bool false]
set_option maxHeartbeats 1000000 in
theorem bytesToInt_any (k i u : Int) (s : ByteArray) (w : World) (hE : Env w) (hs : s.size ≤ 1000) : Calls Tryz.prog 57 #[.agg #[.int .i64 k, .int .i64 i, .int .u64 u, .string s]] w fun e w' => e = .returned (resbytesToInt (readI s.data.toList)) ∧ Below w.heap.size w w' := by
  have HC := Lib.hid (fun W (hb : Below w.heap.size w W) => readI_any s W (hE.keep hb) hs)
  clear hE
  generalize readI s.data.toList = r at *
  cases r with
  | some n =>
    go_enter Tryz.func57, Tryz.ntmps57
    go_wp2_with fail
    refine (HC.out _ (((Below.refl _ _).alloc (Nat.le_refl _) _).alloc (by simp) _)).mono ?_
    rintro e w0 ⟨rfl, hb0⟩
    unfold resNI
    go_wp2_with fail
    refine (ofInt_any _ _).mono ?_
    rintro e w1 ⟨rfl, hb⟩
    have hb1 := hb0.trans (hb.mono hb0.size)
    clear hb hb0
    obtain ⟨hc, hf, hsz⟩ := box4 hb1
    have c0 := hc 0
    have c1 := hc 1
    have c2 := hc 2
    have c3 := hc 3
    have f0 := hf 0
    have f1 := hf 1
    have f2 := hf 2
    have f3 := hf 3
    simp at c0 c1 c2 c3
    have HB1 := Lib.hid (below2 hb1)
    clear hc hf hb1
    go_wp2_with fail
    refine bodyPost_ret (v := .tuple #[.agg #[.int .i64 1, .int .i64 n, .int .u64 0, .string ⟨#[]⟩], .bool true]) (by simp [results, Tryz.results57, go_sem, c0, c1, c2, c3]) rfl ⟨rfl, ?_⟩
    repeat' first | exact HB1.out | (refine Below.setCell ?_ (by simp) _)
  | none =>
    go_enter Tryz.func57, Tryz.ntmps57
    go_wp2_with fail
    refine (HC.out _ (((Below.refl _ _).alloc (Nat.le_refl _) _).alloc (by simp) _)).mono ?_
    rintro e w0 ⟨rfl, hb0⟩
    unfold resNI
    go_wp2_with fail
    refine (ofInt_any _ _).mono ?_
    rintro e w1 ⟨rfl, hb⟩
    have hb1 := hb0.trans (hb.mono hb0.size)
    clear hb hb0
    obtain ⟨hc, hf, hsz⟩ := box4 hb1
    have c0 := hc 0
    have c1 := hc 1
    have c2 := hc 2
    have c3 := hc 3
    have f0 := hf 0
    have f1 := hf 1
    have f2 := hf 2
    have f3 := hf 3
    simp at c0 c1 c2 c3
    have HB1 := Lib.hid (below2 hb1)
    clear hc hf hb1
    go_wp2_with fail
    refine bodyPost_ret (v := .tuple #[.agg #[.int .i64 1, .int .i64 0, .int .u64 0, .string ⟨#[]⟩], .bool false]) (by simp [results, Tryz.results57, go_sem, c0, c1, c2, c3]) rfl ⟨rfl, ?_⟩
    repeat' first | exact HB1.out | (refine Below.setCell ?_ (by simp) _)

def resbytesToUint : Option Int → Value
  | some n => .tuple #[.agg #[.int .i64 2, .int .i64 0, .int .u64 n, .string ⟨#[]⟩], .bool true]
  | none => .tuple #[.agg #[.int .i64 2, .int .i64 0, .int .u64 0, .string ⟨#[]⟩], .bool false]
set_option maxHeartbeats 1000000 in
theorem bytesToUint_any (k i u : Int) (s : ByteArray) (w : World) (hE : Env w) (hs : s.size ≤ 1000) : Calls Tryz.prog 58 #[.agg #[.int .i64 k, .int .i64 i, .int .u64 u, .string s]] w fun e w' => e = .returned (resbytesToUint (readU s.data.toList)) ∧ Below w.heap.size w w' := by
  have HC := Lib.hid (fun W (hb : Below w.heap.size w W) => readU_any s W (hE.keep hb) hs)
  clear hE
  generalize readU s.data.toList = r at *
  cases r with
  | some n =>
    go_enter Tryz.func58, Tryz.ntmps58
    go_wp2_with fail
    refine (HC.out _ (((Below.refl _ _).alloc (Nat.le_refl _) _).alloc (by simp) _)).mono ?_
    rintro e w0 ⟨rfl, hb0⟩
    unfold resNU
    go_wp2_with fail
    refine (ofUint_any _ _).mono ?_
    rintro e w1 ⟨rfl, hb⟩
    have hb1 := hb0.trans (hb.mono hb0.size)
    clear hb hb0
    obtain ⟨hc, hf, hsz⟩ := box4 hb1
    have c0 := hc 0
    have c1 := hc 1
    have c2 := hc 2
    have c3 := hc 3
    have f0 := hf 0
    have f1 := hf 1
    have f2 := hf 2
    have f3 := hf 3
    simp at c0 c1 c2 c3
    have HB1 := Lib.hid (below2 hb1)
    clear hc hf hb1
    go_wp2_with fail
    refine bodyPost_ret (v := .tuple #[.agg #[.int .i64 2, .int .i64 0, .int .u64 n, .string ⟨#[]⟩], .bool true]) (by simp [results, Tryz.results58, go_sem, c0, c1, c2, c3]) rfl ⟨rfl, ?_⟩
    repeat' first | exact HB1.out | (refine Below.setCell ?_ (by simp) _)
  | none =>
    go_enter Tryz.func58, Tryz.ntmps58
    go_wp2_with fail
    refine (HC.out _ (((Below.refl _ _).alloc (Nat.le_refl _) _).alloc (by simp) _)).mono ?_
    rintro e w0 ⟨rfl, hb0⟩
    unfold resNU
    go_wp2_with fail
    refine (ofUint_any _ _).mono ?_
    rintro e w1 ⟨rfl, hb⟩
    have hb1 := hb0.trans (hb.mono hb0.size)
    clear hb hb0
    obtain ⟨hc, hf, hsz⟩ := box4 hb1
    have c0 := hc 0
    have c1 := hc 1
    have c2 := hc 2
    have c3 := hc 3
    have f0 := hf 0
    have f1 := hf 1
    have f2 := hf 2
    have f3 := hf 3
    simp at c0 c1 c2 c3
    have HB1 := Lib.hid (below2 hb1)
    clear hc hf hb1
    go_wp2_with fail
    refine bodyPost_ret (v := .tuple #[.agg #[.int .i64 2, .int .i64 0, .int .u64 0, .string ⟨#[]⟩], .bool false]) (by simp [results, Tryz.results58, go_sem, c0, c1, c2, c3]) rfl ⟨rfl, ?_⟩
    repeat' first | exact HB1.out | (refine Below.setCell ?_ (by simp) _)

theorem never_any (a b : Int) (w : World) : Calls Tryz.prog 45 #[.int .i64 a, .int .i64 b] w fun e w' => e = .returned (.bool false) ∧ Below w.heap.size w w' := by
  go_enter Tryz.func45, Tryz.ntmps45
  go_wp2
  go_ret
  exact ⟨rfl, Below.refl _ _⟩
theorem always_any (a b : Int) (w : World) : Calls Tryz.prog 55 #[.int .i64 a, .int .i64 b] w fun e w' => e = .returned (.bool true) ∧ Below w.heap.size w w' := by
  go_enter Tryz.func55, Tryz.ntmps55
  go_wp2
  go_ret
  exact ⟨rfl, Below.refl _ _⟩
theorem noLess_any (a b : Int) (w : World) : Calls Tryz.prog 43 #[.int .i64 a, .int .i64 b] w fun e w' => e = .returned (.bool (decide (a ≤ b))) ∧ Below w.heap.size w w' := by
  go_enter Tryz.func43, Tryz.ntmps43
  go_wp2
  go_ret
  exact ⟨rfl, Below.refl _ _⟩
theorem greater_any (a b : Int) (w : World) : Calls Tryz.prog 50 #[.int .i64 a, .int .i64 b] w fun e w' => e = .returned (.bool (decide (a < b))) ∧ Below w.heap.size w w' := by
  go_enter Tryz.func50, Tryz.ntmps50
  go_wp2
  go_ret
  exact ⟨rfl, Below.refl _ _⟩
/-- how many bytes the digits of a number of a column have, at most -/
def digN (t z : Int) : Int := if t = 1 then (if z = 1 then 4 else if z = 2 then 6 else if z = 4 then 11 else 20) else (if z = 1 then 3 else if z = 2 then 5 else if z = 4 then 10 else 20)
set_option maxRecDepth 100000 in
set_option maxHeartbeats 1000000 in
theorem holdsInts_any (a b : Int) (w : World) (hT : HasTab w) (ha : numSz a = true) : Calls Tryz.prog 48 #[.int .i64 a, .int .i64 b] w fun e w' => e = .returned (.bool (decide (digN 1 a ≤ b))) ∧ Below w.heap.size w w' := by
  have HT := Lib.hid (fun n h0 h1 => xtellInt_any n h0 h1 w hT)
  clear hT
  rcases numSz_cases ha with rfl | rfl | rfl | rfl
  · have hl : (⟨(Lib.itoa (-128)).toArray⟩ : ByteArray).size = 4 := by decide +kernel
    clear ha
    go_enter Tryz.func48, Tryz.ntmps48
    go_wp2_with (first | (go_at_call 86; refine (HT.out (-128) (by omega) (by omega)).mono ?_; rintro e w1 ⟨rfl, hb⟩))
    go_ret
    exact ⟨rfl, hb⟩
  · have hl : (⟨(Lib.itoa (-32768)).toArray⟩ : ByteArray).size = 6 := by decide +kernel
    clear ha
    go_enter Tryz.func48, Tryz.ntmps48
    go_wp2_with (first | (go_at_call 86; refine (HT.out (-32768) (by omega) (by omega)).mono ?_; rintro e w1 ⟨rfl, hb⟩))
    go_ret
    exact ⟨rfl, hb⟩
  · have hl : (⟨(Lib.itoa (-2147483648)).toArray⟩ : ByteArray).size = 11 := by decide +kernel
    clear ha
    go_enter Tryz.func48, Tryz.ntmps48
    go_wp2_with (first | (go_at_call 86; refine (HT.out (-2147483648) (by omega) (by omega)).mono ?_; rintro e w1 ⟨rfl, hb⟩))
    go_ret
    exact ⟨rfl, hb⟩
  · have hl : (⟨(Lib.itoa (-9223372036854775808)).toArray⟩ : ByteArray).size = 20 := by decide +kernel
    clear ha
    go_enter Tryz.func48, Tryz.ntmps48
    go_wp2_with (first | (go_at_call 86; refine (HT.out (-9223372036854775808) (by omega) (by omega)).mono ?_; rintro e w1 ⟨rfl, hb⟩))
    go_ret
    exact ⟨rfl, hb⟩
set_option maxRecDepth 100000 in
set_option maxHeartbeats 1000000 in
theorem holdsUints_any (a b : Int) (w : World) (hT : HasTab w) (ha : numSz a = true) : Calls Tryz.prog 53 #[.int .i64 a, .int .i64 b] w fun e w' => e = .returned (.bool (decide (digN 2 a ≤ b))) ∧ Below w.heap.size w w' := by
  have HT := Lib.hid (fun n h0 h1 => xtellUint_any n h0 h1 w hT)
  clear hT
  rcases numSz_cases ha with rfl | rfl | rfl | rfl
  · have hl : (⟨(Lib.decDigits 255).toArray⟩ : ByteArray).size = 3 := by decide +kernel
    clear ha
    go_enter Tryz.func53, Tryz.ntmps53
    go_wp2_with (first | (go_at_call 89; refine (HT.out 255 (by omega) (by omega)).mono ?_; rintro e w1 ⟨rfl, hb⟩))
    go_ret
    exact ⟨rfl, hb⟩
  · have hl : (⟨(Lib.decDigits 65535).toArray⟩ : ByteArray).size = 5 := by decide +kernel
    clear ha
    go_enter Tryz.func53, Tryz.ntmps53
    go_wp2_with (first | (go_at_call 89; refine (HT.out 65535 (by omega) (by omega)).mono ?_; rintro e w1 ⟨rfl, hb⟩))
    go_ret
    exact ⟨rfl, hb⟩
  · have hl : (⟨(Lib.decDigits 4294967295).toArray⟩ : ByteArray).size = 10 := by decide +kernel
    clear ha
    go_enter Tryz.func53, Tryz.ntmps53
    go_wp2_with (first | (go_at_call 89; refine (HT.out 4294967295 (by omega) (by omega)).mono ?_; rintro e w1 ⟨rfl, hb⟩))
    go_ret
    exact ⟨rfl, hb⟩
  · have hl : (⟨(Lib.decDigits 18446744073709551615).toArray⟩ : ByteArray).size = 20 := by decide +kernel
    clear ha
    go_enter Tryz.func53, Tryz.ntmps53
    go_wp2_with (first | (go_at_call 89; refine (HT.out 18446744073709551615 (by omega) (by omega)).mono ?_; rintro e w1 ⟨rfl, hb⟩))
    go_ret
    exact ⟨rfl, hb⟩
end Go.Proofs.YtmgeefhacnadcaaGreatDoor
