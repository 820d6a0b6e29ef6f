/-
  codec: kinds, rows' bytes, the reader.
-/
import Derived.Test.YtocmjlnhcloccaaGreatDoorSCol
import Derived.Test.YtocmjlnhcloccaaGreatDoorVVl
import Derived.Test.YtocmjlnhcloccaaGreatDoorOctA
import Derived.Test.YtocmjlnhcloccaaGreatDoorSSch
import Derived.Test.YtocmjlnhcloccaaGreatDoorSFit
import Derived.Test.YtocmjlnhcloccaaGreatDoorRCheck
import Derived.Test.YtocmjlnhcloccaaGreatDoorKErr
import Derived.Defers
import Derived.Recover
import Derived.Deep.AppendLies
import Derived.Deep.RegionWith
import Derived.IntWalk
namespace Go.Proofs.YtocmjlnhcloccaaGreatDoor
open Go.RowKit

def kv3 (a b c : Nat) : Value := .agg #[.func (.func a) #[] #[], .func (.func b) #[] #[], .func (.func c) #[] #[]]
def mapCKinds : Array MapEntry := #[⟨.int .i64 1, kv3 90 91 92, 0⟩, ⟨.int .i64 2, kv3 93 94 92, 1⟩, ⟨.int .i64 3, kv3 95 96 97, 2⟩, ⟨.int .i64 4, kv3 98 99 100, 3⟩]
set_option maxRecDepth 100000 in
set_option maxHeartbeats 400000 in
theorem ckinds_any (w : World) :
    Calls Tryz.prog 61 #[] w fun e w' => e = .returned (.map (some w.heap.size)) ∧ w.alloc (.map mapCKinds 4) = w' := by
  have hmm := @run_makeMap Tryz.prog
  have h0 : ∀ v, (Instr.mapUpdate 70 (.map (some w.heap.size)) (.int .i64 1) v).run Tryz.prog (w.alloc (.map #[] 0)) = .ok () (w.alloc (.map #[⟨.int .i64 1, v, 0⟩] 1)) := fun v => run_insert_new w #[] 0 1 v Tryz.underlying70 Tryz.underlying62 rfl
  have h1 : ∀ v0 v, (Instr.mapUpdate 70 (.map (some w.heap.size)) (.int .i64 2) v).run Tryz.prog (w.alloc (.map #[⟨.int .i64 1, v0, 0⟩] 1)) = .ok () (w.alloc (.map #[⟨.int .i64 1, v0, 0⟩, ⟨.int .i64 2, v, 1⟩] 2)) := fun v0 v => run_insert_new w #[⟨.int .i64 1, v0, 0⟩] 1 2 v Tryz.underlying70 Tryz.underlying62 rfl
  have h2 : ∀ v0 v1 v, (Instr.mapUpdate 70 (.map (some w.heap.size)) (.int .i64 3) v).run Tryz.prog (w.alloc (.map #[⟨.int .i64 1, v0, 0⟩, ⟨.int .i64 2, v1, 1⟩] 2)) = .ok () (w.alloc (.map #[⟨.int .i64 1, v0, 0⟩, ⟨.int .i64 2, v1, 1⟩, ⟨.int .i64 3, v, 2⟩] 3)) := fun v0 v1 v => run_insert_new w #[⟨.int .i64 1, v0, 0⟩, ⟨.int .i64 2, v1, 1⟩] 2 3 v Tryz.underlying70 Tryz.underlying62 rfl
  have h3 : ∀ v0 v1 v2 v, (Instr.mapUpdate 70 (.map (some w.heap.size)) (.int .i64 4) v).run Tryz.prog (w.alloc (.map #[⟨.int .i64 1, v0, 0⟩, ⟨.int .i64 2, v1, 1⟩, ⟨.int .i64 3, v2, 2⟩] 3)) = .ok () (w.alloc (.map #[⟨.int .i64 1, v0, 0⟩, ⟨.int .i64 2, v1, 1⟩, ⟨.int .i64 3, v2, 2⟩, ⟨.int .i64 4, v, 3⟩] 4)) := fun v0 v1 v2 v => run_insert_new w #[⟨.int .i64 1, v0, 0⟩, ⟨.int .i64 2, v1, 1⟩, ⟨.int .i64 3, v2, 2⟩] 3 4 v Tryz.underlying70 Tryz.underlying62 rfl
  go_enter Tryz.func61, Tryz.ntmps61
  go_wp2_with fail
  go_ret
  exact ⟨rfl, rfl⟩
theorem ckinds_got {k : Int} {j : Nat} {v : Value} {w : World} {r : Nat} (hb : w.heap[r]? = some (.map mapCKinds 4)) (hf : Instr.findNow (.int .i64) (.int .i64 k) mapCKinds.toList 0 = some (some (j, v))) :
    (Instr.lookup 70 (.map (some r)) (.int .i64 k) false).run Tryz.prog w = .ok v w :=
  run_lookup_known w Tryz.underlying70 Tryz.underlying62 hb hf false

set_option maxHeartbeats 400000 in
theorem layoutOf_any (oc : Option Addr) (nc cc : Nat) (w : World) :
    Calls Tryz.prog 28 #[.slice oc nc cc] w fun e w' => ∃ r, e = .returned (.agg #[.slice oc nc cc, .map (some r)]) ∧ w'.heap[r]? = some (.map mapCKinds 4) ∧ Below w.heap.size w w' := by
  go_enter Tryz.func28, Tryz.ntmps28
  go_wp2_with (first | (go_at_call 61; refine (ckinds_any _).mono ?_; rintro e w' ⟨rfl, rfl⟩))
  go_returns
  exact ⟨_, rfl, by have h := heap_alloc_at (w.alloc (.cells #[.slice oc nc cc, .map (some (w.heap.size + 1))] 72)) (.map mapCKinds 4); rw [World.size_alloc] at h; exact h, by go_grown⟩

/-- bytes are laid -/
def LaysB (w : World) (l : List UInt8) (e : Ending) (w' : World) : Prop := ∃ v, e = .returned v ∧ BytesOf w' v l ∧ Below w.heap.size w w'
theorem BytesAt.of {w : World} {v : Value} {l : List UInt8} (h : BytesAt w v l) (h0 : l ≠ []) : BytesOf w v l := by
  obtain ⟨oa, cap, rfl, hl, hc⟩ := h
  cases l with
  | nil => exact absurd rfl h0
  | cons x l =>
    obtain ⟨a, rfl, _⟩ := hc 0 (by simp)
    refine .inr ⟨a, cap, rfl, hl, fun j hj => ?_⟩
    obtain ⟨a', e, h⟩ := hc j hj
    cases e
    exact h
theorem tellL_ne (n k : Nat) (h : 1 ≤ k) : tellL n k ≠ [] := by
  intro e
  have := tellL_length n k
  rw [e] at this
  simp at this
  omega

theorem tellL_low (n k : Nat) : tellL (n % 256 ^ k) k = tellL n k := by
  have h := tell_valOf (tellL n k) 0
  rw [tellL_length, valOf_tell] at h
  simpa using h
theorem fix_low (n k : Nat) (h1 : 1 ≤ k) (h8 : k ≤ 8) (hn : n < 18446744073709551616) : fixL (n % 256 ^ k) k = tellL n k := by
  have hlt : n % 256 ^ k < 256 ^ k := Nat.mod_lt _ (Nat.pow_pos (by decide))
  have hle : n % 256 ^ k ≤ n := Nat.mod_le _ _
  have hs := (sizeOf8_le_iff (n % 256 ^ k) k (by omega)).2 hlt
  have hno : fixNo (n % 256 ^ k) k = 0 := by unfold fixNo; rw [if_neg (by omega), if_neg (by omega)]
  unfold fixL
  rw [hno, if_pos rfl, Int.toNat_natCast, tellL_low]

theorem shl1 (n : Nat) : IntKind.u64.wrap ((n : Int) * 72057594037927936) / 72057594037927936 = ((n % 256 ^ 1 : Nat) : Int) := by
  simp only [IntKind.wrap_u64]
  omega
set_option maxHeartbeats 1000000 in
theorem layNumber1 (n : Nat) (w : World) (hn : n < 18446744073709551616) :
    Calls Tryz.prog 133 #[.int .i64 1, .int .u64 n] w (LaysB w (tellL n 1)) := by
  have HF := Lib.hid (fun W => (Fixed_any (n % 256 ^ 1) 1 W (Nat.lt_of_le_of_lt (Nat.mod_le _ _) hn)))
  have HL := Lib.hid (fix_low n 1 (by decide) (by decide) hn)
  have HN := Lib.hid hn
  clear hn
  go_enter Tryz.func133, Tryz.ntmps133
  go_wp2_with fail
  rw [shl1]
  refine (HF.out _).mono ?_
  rintro e w' ⟨v, rfl, hv, hb⟩
  have HV := Lib.hid (show BytesAt w' v (tellL n 1) by rw [← HL.out]; exact hv)
  have HB := Lib.hid hb
  clear hv hb
  go_wp2_with fail
  go_ret
  exact ⟨_, rfl, HV.out.of (tellL_ne _ _ (by decide)), HB.out⟩
theorem shl2 (n : Nat) : IntKind.u64.wrap ((n : Int) * 281474976710656) / 281474976710656 = ((n % 256 ^ 2 : Nat) : Int) := by
  simp only [IntKind.wrap_u64]
  omega
set_option maxHeartbeats 1000000 in
theorem layNumber2 (n : Nat) (w : World) (hn : n < 18446744073709551616) :
    Calls Tryz.prog 133 #[.int .i64 2, .int .u64 n] w (LaysB w (tellL n 2)) := by
  have HF := Lib.hid (fun W => (Fixed_any (n % 256 ^ 2) 2 W (Nat.lt_of_le_of_lt (Nat.mod_le _ _) hn)))
  have HL := Lib.hid (fix_low n 2 (by decide) (by decide) hn)
  have HN := Lib.hid hn
  clear hn
  go_enter Tryz.func133, Tryz.ntmps133
  go_wp2_with fail
  rw [shl2]
  refine (HF.out _).mono ?_
  rintro e w' ⟨v, rfl, hv, hb⟩
  have HV := Lib.hid (show BytesAt w' v (tellL n 2) by rw [← HL.out]; exact hv)
  have HB := Lib.hid hb
  clear hv hb
  go_wp2_with fail
  go_ret
  exact ⟨_, rfl, HV.out.of (tellL_ne _ _ (by decide)), HB.out⟩
theorem shl4 (n : Nat) : IntKind.u64.wrap ((n : Int) * 4294967296) / 4294967296 = ((n % 256 ^ 4 : Nat) : Int) := by
  simp only [IntKind.wrap_u64]
  omega
set_option maxHeartbeats 1000000 in
theorem layNumber4 (n : Nat) (w : World) (hn : n < 18446744073709551616) :
    Calls Tryz.prog 133 #[.int .i64 4, .int .u64 n] w (LaysB w (tellL n 4)) := by
  have HF := Lib.hid (fun W => (Fixed_any (n % 256 ^ 4) 4 W (Nat.lt_of_le_of_lt (Nat.mod_le _ _) hn)))
  have HL := Lib.hid (fix_low n 4 (by decide) (by decide) hn)
  have HN := Lib.hid hn
  clear hn
  go_enter Tryz.func133, Tryz.ntmps133
  go_wp2_with fail
  rw [shl4]
  refine (HF.out _).mono ?_
  rintro e w' ⟨v, rfl, hv, hb⟩
  have HV := Lib.hid (show BytesAt w' v (tellL n 4) by rw [← HL.out]; exact hv)
  have HB := Lib.hid hb
  clear hv hb
  go_wp2_with fail
  go_ret
  exact ⟨_, rfl, HV.out.of (tellL_ne _ _ (by decide)), HB.out⟩
theorem fix8 (n : Nat) (hn : n < 18446744073709551616) : fixL n 8 = tellL n 8 := by
  have hs := sizeOf8_le n hn
  have hno : fixNo n 8 = 0 := by unfold fixNo; rw [if_neg (by omega), if_neg (by omega)]
  unfold fixL
  rw [hno, if_pos rfl]
  rfl
theorem wrapU (n : Nat) (hn : n < 18446744073709551616) : IntKind.u64.wrap (n : Int) = (n : Int) := by
  simp only [IntKind.wrap_u64]
  omega
set_option maxRecDepth 100000 in
set_option maxHeartbeats 1000000 in
theorem layNumber8 (n : Nat) (w : World) (hn : n < 18446744073709551616) :
    Calls Tryz.prog 133 #[.int .i64 8, .int .u64 n] w (LaysB w (tellL n 8)) := by
  have HF := Lib.hid (fun W => (Fixed_any n 8 W hn))
  have HL := Lib.hid (fix8 n hn)
  have HN := Lib.hid hn
  clear hn
  go_enter Tryz.func133, Tryz.ntmps133
  go_wp2_with fail
  rw [wrapU n HN.out]
  refine (HF.out _).mono ?_
  rintro e w' ⟨v, rfl, hv, hb⟩
  have HV := Lib.hid (show BytesAt w' v (tellL n 8) by rw [← HL.out]; exact hv)
  have HB := Lib.hid hb
  clear hv hb
  go_wp2_with fail
  go_ret
  exact ⟨_, rfl, HV.out.of (tellL_ne _ _ (by decide)), HB.out⟩
end Go.Proofs.YtocmjlnhcloccaaGreatDoor
namespace Go.Proofs.YtocmjlnhcloccaaGreatDoor
open Go.RowKit

theorem ba_eq {s t : ByteArray} (h : s.toList = t.toList) : s = t := by
  rw [ByteArray.toList_eq, ByteArray.toList_eq] at h
  obtain ⟨⟨l⟩⟩ := s
  obtain ⟨⟨m⟩⟩ := t
  simp at h
  subst h
  rfl
theorem chk_forms {v : Vl} (h : v.chk = 0) : v = val0 ∨ (∃ i, v = ⟨1, i, 0, ⟨#[]⟩⟩) ∨ (∃ u, v = ⟨2, 0, u, ⟨#[]⟩⟩) ∨ v = ⟨3, 0, 0, ⟨#[]⟩⟩ ∨ v = ⟨3, 1, 0, ⟨#[]⟩⟩ ∨ (∃ s, v = ⟨4, 0, 0, s⟩ ∧ (s.size : Int) ≤ 200) := by
  obtain ⟨k, i, u, s⟩ := v
  have hc : chk k i u s = 0 := h
  by_cases hk : k < 0 ∨ 4 < k
  · unfold chk at hc
    rw [if_pos hk] at hc
    cases hc
  obtain ⟨h1, h2, _⟩ | ⟨_, _, h3⟩ | ⟨_, h3⟩ := chk_of hc hk
  · unfold vEqB at h1
    simp only [Bool.and_eq_true, beq_iff_eq] at h1
    obtain ⟨_, e1, e2, e3⟩ := h1
    have e3 := ba_eq e3
    rcases kinds_cases k with hk' | rfl | rfl | rfl | rfl | rfl
    · exact absurd hk' hk
    · have e1 : i = 0 := e1
      have e2 : u = 0 := e2
      have e3 : s = ⟨#[]⟩ := e3
      subst e1 e2 e3
      exact .inl rfl
    · have e2 : u = 0 := e2
      have e3 : s = ⟨#[]⟩ := e3
      subst e2 e3
      exact .inr (.inl ⟨_, rfl⟩)
    · have e1 : i = 0 := e1
      have e3 : s = ⟨#[]⟩ := e3
      subst e1 e3
      exact .inr (.inr (.inl ⟨_, rfl⟩))
    · have e2 : u = 0 := e2
      have e3 : s = ⟨#[]⟩ := e3
      subst e2 e3
      have e1 : i = bits BinOp.and .i64 i 1 := e1
      by_cases i0 : i = 0
      · subst i0; exact .inr (.inr (.inr (.inl rfl)))
      · by_cases i1 : i = 1
        · subst i1; exact .inr (.inr (.inr (.inr (.inl rfl))))
        · exact absurd e1.symm (and_one i i0 i1)
    · have e1 : i = 0 := e1
      have e2 : u = 0 := e2
      subst e1 e2
      exact .inr (.inr (.inr (.inr (.inr ⟨_, rfl, h2⟩))))
  · cases h3
  · cases h3
theorem chk_i (i : Int) : (⟨1, i, 0, ⟨#[]⟩⟩ : Vl).chk = 0 := by simp [Vl.chk, chk, vEqB, onlyI, onlyU, onlyS, emptyZ]
theorem chk_u (u : Int) : (⟨2, 0, u, ⟨#[]⟩⟩ : Vl).chk = 0 := by simp [Vl.chk, chk, vEqB, onlyI, onlyU, onlyS, emptyZ]
theorem chk_s (s : ByteArray) (h : (s.size : Int) ≤ 200) : (⟨4, 0, 0, s⟩ : Vl).chk = 0 := by simp [Vl.chk, chk, vEqB, onlyI, onlyU, onlyS, h]

/-- the bytes of a value in a column -/
def valB (c : Col) (v : Vl) : List UInt8 :=
  if v.k = 0 then [0]
  else if c.t = 1 then 1 :: tellL (v.i % 18446744073709551616).toNat c.z.toNat
  else if c.t = 2 then 1 :: tellL v.u.toNat c.z.toNat
  else if c.t = 3 then [1, UInt8.ofNat (v.i % 256).toNat]
  else 1 :: txtL v.s.data.toList
/-- the bytes of a row -/
def rowB : List Col → List Vl → List UInt8
  | c :: cs, v :: vs => valB c v ++ rowB cs vs
  | _, _ => []
/-- n as a number of z bytes with a sign -/
def sgnI (z : Int) (n : Nat) : Int := if (n : Int) ≤ mostI z then n else n - (mostU z + 1)
/-- the value of a column with whose bytes l begins, and how many these are -/
def readVal (c : Col) : List UInt8 → Option (Vl × Nat)
  | [] => none
  | b :: t =>
    if b = 0 then (if c.u = true then some (val0, 1) else none)
    else if b ≠ 1 then none
    else if c.t = 1 then (if c.z.toNat ≤ t.length then some (⟨1, sgnI c.z (valOf (t.take c.z.toNat) 0), 0, ⟨#[]⟩⟩, 1 + c.z.toNat) else none)
    else if c.t = 2 then (if c.z.toNat ≤ t.length then some (⟨2, 0, (valOf (t.take c.z.toNat) 0 : Nat), ⟨#[]⟩⟩, 1 + c.z.toNat) else none)
    else if c.t = 3 then
      (match t with
       | [] => none
       | x :: _ => if x.toNat ≤ 1 then some (⟨3, x.toNat, 0, ⟨#[]⟩⟩, 2) else none)
    else
      match readT t with
      | some (s, n) => if (s.length : Int) ≤ c.z then some (⟨4, 0, 0, ⟨s.toArray⟩⟩, 1 + n) else none
      | none => none
/-- the row with whose bytes l begins, and how many these are -/
def readRow : List Col → List UInt8 → Option (List Vl × Nat)
  | [], _ => some ([], 0)
  | c :: cs, l =>
    match readVal c l with
    | none => none
    | some (v, n) =>
      match readRow cs (l.drop n) with
      | none => none
      | some (vs, m) => some (v :: vs, n + m)

theorem tellL_mod (n k : Nat) : tellL (n % 256 ^ k) k = tellL n k := by
  have h := tell_valOf (tellL n k) 0
  rw [tellL_length, valOf_tell] at h
  simpa using h
theorem readN_take {l : List UInt8} {n k : Nat} (h : readN l = some (n, k)) : l.take k = numB n := by
  cases l with
  | nil => simp [readN] at h
  | cons c t =>
    rw [readN_cons] at h
    split at h
    · rename_i hc
      obtain ⟨h8, hl, h0⟩ := hc
      simp only [Option.some.injEq, Prod.mk.injEq] at h
      obtain ⟨rfl, rfl⟩ := h
      have hlen : (t.take c.toNat).length = c.toNat := by rw [List.length_take]; omega
      have hlt := valOf_lt8 (t.take c.toNat) (by omega)
      have hlt2 : valOf (t.take c.toNat) 0 < 256 ^ c.toNat := by
        have := valOf_lt (t.take c.toNat) 0
        rw [hlen] at this
        omega
      have hle : sizeOf8 (valOf (t.take c.toNat) 0) ≤ c.toNat := (sizeOf8_le_iff _ _ hlt).2 hlt2
      have heq : sizeOf8 (valOf (t.take c.toNat) 0) = c.toNat := by
        by_cases hz : c.toNat = 0
        · omega
        · obtain ⟨m, hm⟩ : ∃ m, c.toNat = m + 1 := ⟨c.toNat - 1, by omega⟩
          refine Nat.le_antisymm hle ?_
          refine Nat.le_of_not_lt fun hlt3 => ?_
          have hsm : sizeOf8 (valOf (t.take c.toNat) 0) ≤ m := by omega
          rw [sizeOf8_le_iff _ _ hlt] at hsm
          have htl := tell_valOf (t.take c.toNat) 0
          rw [hlen, hm] at htl
          cases t with
          | nil => simp at hl; omega
          | cons x t =>
            rw [List.take_succ_cons] at htl
            have hx : byteAt (valOf ((x :: t).take (m + 1)) 0) m = x := (List.cons.inj htl).1
            rw [hm] at hsm
            have hz2 : byteAt (valOf ((x :: t).take (m + 1)) 0) m = 0 := by
              unfold byteAt
              rw [Nat.div_eq_of_lt hsm]
              rfl
            refine h0 ⟨by omega, ?_⟩
            rw [List.head?_cons, ← hx, hz2]
      unfold numB
      rw [heq]
      have htl := tell_valOf (t.take c.toNat) 0
      rw [hlen] at htl
      rw [htl, Nat.add_comm, List.take_succ_cons]
      congr 1
      simp
    · cases h
theorem readT_take {l s : List UInt8} {k : Nat} (h : readT l = some (s, k)) : l.take k = txtL s ∧ k ≤ l.length := by
  unfold readT at h
  cases hr : readN l with
  | none => rw [hr] at h; cases h
  | some x =>
    obtain ⟨n, j⟩ := x
    rw [hr] at h
    simp only at h
    split at h
    · rename_i hc
      simp only [Option.some.injEq, Prod.mk.injEq] at h
      obtain ⟨rfl, rfl⟩ := h
      refine ⟨?_, hc⟩
      have hj := readN_lt hr
      have hlen : ((l.drop j).take n).length = n := by rw [List.length_take, List.length_drop]; omega
      unfold txtL
      rw [hlen, ← readN_take hr, List.take_add]
    · cases h

theorem fit_forms {c : Col} {v : Vl} (h : fitN c v = 0) :
    (v = val0 ∧ c.u = true) ∨ (∃ i, v = ⟨1, i, 0, ⟨#[]⟩⟩ ∧ c.t = 1 ∧ leastI c.z ≤ i ∧ i ≤ mostI c.z) ∨ (∃ u, v = ⟨2, 0, u, ⟨#[]⟩⟩ ∧ c.t = 2 ∧ u ≤ mostU c.z) ∨ (∃ i, v = ⟨3, i, 0, ⟨#[]⟩⟩ ∧ c.t = 3 ∧ (i = 0 ∨ i = 1)) ∨ (∃ s, v = ⟨4, 0, 0, s⟩ ∧ c.t = 4 ∧ (s.size : Int) ≤ c.z ∧ (s.size : Int) ≤ 200) := by
  unfold fitN at h
  by_cases h1 : v.chk ≠ 0
  · rw [if_pos h1] at h; exact absurd h h1
  rw [if_neg h1] at h
  have h1 : v.chk = 0 := by simpa using h1
  by_cases h2 : v.k = 0
  · rw [if_pos h2] at h
    by_cases h3 : c.u = true
    · rcases chk_forms h1 with rfl | ⟨i, rfl⟩ | ⟨i, rfl⟩ | rfl | rfl | ⟨s, rfl, _⟩
      · exact .inl ⟨rfl, h3⟩
      all_goals cases h2
    · rw [if_neg h3] at h; cases h
  rw [if_neg h2] at h
  by_cases h3 : v.k ≠ c.t
  · rw [if_pos h3] at h; cases h
  rw [if_neg h3] at h
  by_cases h4 : bnd c.t c.z v = true
  · have ht : v.k = c.t := by simpa using h3
    unfold bnd at h4
    rcases chk_forms h1 with rfl | ⟨i, rfl⟩ | ⟨i, rfl⟩ | rfl | rfl | ⟨s, rfl, hs⟩
    · exact absurd rfl h2
    · have ht : c.t = 1 := ht.symm
      rw [ht] at h4
      simp at h4
      exact .inr (.inl ⟨_, rfl, ht, h4.1, h4.2⟩)
    · have ht : c.t = 2 := ht.symm
      rw [ht] at h4
      simp at h4
      exact .inr (.inr (.inl ⟨_, rfl, ht, h4⟩))
    · exact .inr (.inr (.inr (.inl ⟨0, rfl, ht.symm, .inl rfl⟩)))
    · exact .inr (.inr (.inr (.inl ⟨1, rfl, ht.symm, .inr rfl⟩)))
    · have ht : c.t = 4 := ht.symm
      rw [ht] at h4
      simp at h4
      exact .inr (.inr (.inr (.inr ⟨s, rfl, ht, h4, hs⟩)))
  · rw [if_neg h4] at h; cases h

theorem sz_num {t z : Int} (h : szOk t z = true) (ht : t = 1 ∨ t = 2) : z = 1 ∨ z = 2 ∨ z = 4 ∨ z = 8 := by
  unfold szOk at h
  rw [if_pos ht] at h
  exact numSz_cases h

theorem valB_i {n : ByteArray} {z : Int} {u : Bool} (i : Int) : valB ⟨n, 1, z, u⟩ ⟨1, i, 0, ⟨#[]⟩⟩ = 1 :: tellL (i % 18446744073709551616).toNat z.toNat := by simp [valB]
theorem valB_u {n : ByteArray} {z : Int} {u : Bool} (i : Int) : valB ⟨n, 2, z, u⟩ ⟨2, 0, i, ⟨#[]⟩⟩ = 1 :: tellL i.toNat z.toNat := by simp [valB]
theorem valB_b {n : ByteArray} {z : Int} {u : Bool} (i : Int) : valB ⟨n, 3, z, u⟩ ⟨3, i, 0, ⟨#[]⟩⟩ = [1, UInt8.ofNat (i % 256).toNat] := by simp [valB]
theorem valB_s {n : ByteArray} {z : Int} {u : Bool} (s : ByteArray) : valB ⟨n, 4, z, u⟩ ⟨4, 0, 0, s⟩ = 1 :: txtL s.data.toList := by simp [valB]
theorem readVal_i {n : ByteArray} {z : Int} {u : Bool} (t : List UInt8) : readVal ⟨n, 1, z, u⟩ (1 :: t) = if z.toNat ≤ t.length then some (⟨1, sgnI z (valOf (t.take z.toNat) 0), 0, ⟨#[]⟩⟩, 1 + z.toNat) else none := by simp [readVal]
theorem readVal_u {n : ByteArray} {z : Int} {u : Bool} (t : List UInt8) : readVal ⟨n, 2, z, u⟩ (1 :: t) = if z.toNat ≤ t.length then some (⟨2, 0, (valOf (t.take z.toNat) 0 : Nat), ⟨#[]⟩⟩, 1 + z.toNat) else none := by simp [readVal]
theorem readVal_b {n : ByteArray} {z : Int} {u : Bool} (x : UInt8) (t : List UInt8) : readVal ⟨n, 3, z, u⟩ (1 :: x :: t) = if x.toNat ≤ 1 then some (⟨3, x.toNat, 0, ⟨#[]⟩⟩, 2) else none := by simp [readVal]
theorem readVal_s {n : ByteArray} {z : Int} {u : Bool} (t : List UInt8) : readVal ⟨n, 4, z, u⟩ (1 :: t) = match readT t with
    | some (s, n) => if (s.length : Int) ≤ z then some (⟨4, 0, 0, ⟨s.toArray⟩⟩, 1 + n) else none
    | none => none := by simp [readVal]

theorem readVal_valB {c : Col} {v : Vl} (m : List UInt8) (hc : szOk c.t c.z = true) (h : fitN c v = 0) (hu : 0 ≤ v.u) : readVal c (valB c v ++ m) = some (v, (valB c v).length) := by
  obtain ⟨n, t, z, u⟩ := c
  simp only at hc
  rcases fit_forms h with ⟨rfl, e⟩ | ⟨i, rfl, e, b0, b1⟩ | ⟨i, rfl, e, b1⟩ | ⟨i, rfl, e, b⟩ | ⟨s, rfl, e, b0, b1⟩
  · simp only at e
    simp [valB, readVal, val0, e]
  · simp only at e b0 b1
    subst e
    have hl := tellL_length (i % 18446744073709551616).toNat z.toNat
    have hv := valOf_tell (i % 18446744073709551616).toNat z.toNat 0
    rw [valB_i, List.cons_append, readVal_i, if_pos (by rw [List.length_append, hl]; omega), List.take_left' hl, hv, List.length_cons, hl, Nat.add_comm 1]
    congr 3
    unfold sgnI
    rcases sz_num hc (.inl rfl) with rfl | rfl | rfl | rfl
    · simp only [leastI, mostI, mostU] at b0 b1 ⊢; simp at b0 b1 ⊢; split <;> omega
    · simp only [leastI, mostI, mostU] at b0 b1 ⊢; simp at b0 b1 ⊢; split <;> omega
    · simp only [leastI, mostI, mostU] at b0 b1 ⊢; simp at b0 b1 ⊢; split <;> omega
    · simp only [leastI, mostI, mostU] at b0 b1 ⊢; simp at b0 b1 ⊢; split <;> omega
  · simp only at e b1 hu
    subst e
    have hl := tellL_length i.toNat z.toNat
    have hv := valOf_tell i.toNat z.toNat 0
    rw [valB_u, List.cons_append, readVal_u, if_pos (by rw [List.length_append, hl]; omega), List.take_left' hl, hv, List.length_cons, hl, Nat.add_comm 1]
    congr 3
    rcases sz_num hc (.inr rfl) with rfl | rfl | rfl | rfl
    · simp only [mostU] at b1; simp at b1 ⊢; omega
    · simp only [mostU] at b1; simp at b1 ⊢; omega
    · simp only [mostU] at b1; simp at b1 ⊢; omega
    · simp only [mostU] at b1; simp at b1 ⊢; omega
  · simp only at e
    subst e
    rcases b with rfl | rfl
    · simp [valB, readVal]
    · simp [valB, readVal]
  · simp only at e b0 b1
    subst e
    have hs : s.data.toList.length = s.size := by rw [Array.length_toList]; rfl
    rw [valB_s, List.cons_append, readVal_s, readT_txt _ _ (by omega)]
    simp only
    rw [if_pos (by rw [hs]; exact b0), List.length_cons, Nat.add_comm 1]

theorem sgn_bd {z : Int} {n : Nat} (hz : z = 1 ∨ z = 2 ∨ z = 4 ∨ z = 8) (hn : n < 256 ^ z.toNat) : leastI z ≤ sgnI z n ∧ sgnI z n ≤ mostI z ∧ ((sgnI z n % 18446744073709551616).toNat % 256 ^ z.toNat = n) := by
  unfold sgnI
  rcases hz with rfl | rfl | rfl | rfl
  · simp only [leastI, mostI, mostU] at hn ⊢; simp at hn ⊢; split <;> omega
  · simp only [leastI, mostI, mostU] at hn ⊢; simp at hn ⊢; split <;> omega
  · simp only [leastI, mostI, mostU] at hn ⊢; simp at hn ⊢; split <;> omega
  · simp only [leastI, mostI, mostU] at hn ⊢; simp at hn ⊢; split <;> omega

theorem fit_i {n : ByteArray} {z : Int} {u : Bool} {i : Int} (h0 : leastI z ≤ i) (h1 : i ≤ mostI z) : fitN ⟨n, 1, z, u⟩ ⟨1, i, 0, ⟨#[]⟩⟩ = 0 := by
  unfold fitN
  rw [if_neg (by rw [chk_i]; decide), if_neg (by decide : ¬ (1 : Int) = 0), if_neg (by decide : ¬ (1 : Int) ≠ 1), if_pos (by simp [bnd, h0, h1])]
theorem fit_u {n : ByteArray} {z : Int} {u : Bool} {i : Int} (h1 : i ≤ mostU z) : fitN ⟨n, 2, z, u⟩ ⟨2, 0, i, ⟨#[]⟩⟩ = 0 := by
  unfold fitN
  rw [if_neg (by rw [chk_u]; decide), if_neg (by decide : ¬ (2 : Int) = 0), if_neg (by decide : ¬ (2 : Int) ≠ 2), if_pos (by simp [bnd, h1])]
theorem fit_b {n : ByteArray} {z : Int} {u : Bool} {i : Int} (h : i = 0 ∨ i = 1) : fitN ⟨n, 3, z, u⟩ ⟨3, i, 0, ⟨#[]⟩⟩ = 0 := by
  unfold fitN
  rcases h with rfl | rfl
  · rw [if_neg (by rw [show Vl.chk ⟨3, 0, 0, ⟨#[]⟩⟩ = 0 from chk30]; decide), if_neg (by decide : ¬ (3 : Int) = 0), if_neg (by decide : ¬ (3 : Int) ≠ 3), if_pos (by simp [bnd])]
  · rw [if_neg (by rw [show Vl.chk ⟨3, 1, 0, ⟨#[]⟩⟩ = 0 from chk31]; decide), if_neg (by decide : ¬ (3 : Int) = 0), if_neg (by decide : ¬ (3 : Int) ≠ 3), if_pos (by simp [bnd])]
theorem fit_s {n : ByteArray} {z : Int} {u : Bool} {s : ByteArray} (h : (s.size : Int) ≤ z) (h2 : z ≤ 200) : fitN ⟨n, 4, z, u⟩ ⟨4, 0, 0, s⟩ = 0 := by
  unfold fitN
  rw [if_neg (by rw [chk_s _ (by omega)]; decide), if_neg (by decide : ¬ (4 : Int) = 0), if_neg (by decide : ¬ (4 : Int) ≠ 4), if_pos (by simp [bnd, h])]

theorem valB_readVal {c : Col} {l : List UInt8} {v : Vl} {k : Nat} (hc : szOk c.t c.z = true) (h : readVal c l = some (v, k)) : fitN c v = 0 ∧ 0 ≤ v.u ∧ 1 ≤ k ∧ k ≤ l.length ∧ l.take k = valB c v := by
  obtain ⟨n, t, z, u⟩ := c
  simp only at hc
  cases l with
  | nil => simp [readVal] at h
  | cons b l =>
    have h0 := h
    simp only [readVal] at h
    by_cases hb0 : b = 0
    · rw [if_pos hb0] at h
      by_cases hu : u = true
      · rw [if_pos hu] at h
        simp only [Option.some.injEq, Prod.mk.injEq] at h
        obtain ⟨rfl, rfl⟩ := h
        subst hb0
        refine ⟨?_, by decide, by omega, by simp, by simp [valB, val0]⟩
        unfold fitN
        rw [if_neg (by rw [show Vl.chk val0 = 0 from chk0]; decide)]
        simp [val0, hu]
      · rw [if_neg hu] at h; cases h
    by_cases hb1 : b ≠ 1
    · rw [if_neg hb0, if_pos hb1] at h; cases h
    have hb1 : b = 1 := Classical.not_not.1 hb1
    subst hb1
    replace h := h0
    rcases type_cases t with ht | rfl | rfl | rfl | rfl
    · rw [szOk_none ht] at hc; cases hc
    · have hz := sz_num hc (.inl rfl)
      rw [readVal_i] at h
      split at h
      · rename_i hl
        simp only [Option.some.injEq, Prod.mk.injEq] at h
        obtain ⟨rfl, rfl⟩ := h
        have hlen : (l.take z.toNat).length = z.toNat := by rw [List.length_take]; omega
        have hlt : valOf (l.take z.toNat) 0 < 256 ^ z.toNat := by
          have := valOf_lt (l.take z.toNat) 0
          rw [hlen] at this
          omega
        obtain ⟨s0, s1, s2⟩ := sgn_bd hz hlt
        refine ⟨fit_i s0 s1, Int.le_refl 0, by omega, by rw [List.length_cons]; omega, ?_⟩
        rw [valB_i, Nat.add_comm 1, List.take_succ_cons, ← tellL_mod, s2]
        have := tell_valOf (l.take z.toNat) 0
        rw [hlen] at this
        rw [this]
      · cases h
    · have hz := sz_num hc (.inr rfl)
      rw [readVal_u] at h
      split at h
      · rename_i hl
        simp only [Option.some.injEq, Prod.mk.injEq] at h
        obtain ⟨rfl, rfl⟩ := h
        have hlen : (l.take z.toNat).length = z.toNat := by rw [List.length_take]; omega
        have hlt : valOf (l.take z.toNat) 0 < 256 ^ z.toNat := by
          have := valOf_lt (l.take z.toNat) 0
          rw [hlen] at this
          omega
        have hmu : ((valOf (l.take z.toNat) 0 : Nat) : Int) ≤ mostU z := by
          clear hlen
          generalize valOf (l.take z.toNat) 0 = q at *
          rcases hz with rfl | rfl | rfl | rfl <;> (simp [mostU] at hlt ⊢; omega)
        refine ⟨fit_u hmu, Int.natCast_nonneg _, by omega, by rw [List.length_cons]; omega, ?_⟩
        rw [valB_u, Nat.add_comm 1, List.take_succ_cons]
        have := tell_valOf (l.take z.toNat) 0
        rw [hlen] at this
        rw [Int.toNat_natCast, this]
      · cases h
    · cases l with
      | nil => simp [readVal] at h
      | cons x l =>
        rw [readVal_b] at h
        split at h
        · rename_i hx
          simp only [Option.some.injEq, Prod.mk.injEq] at h
          obtain ⟨rfl, rfl⟩ := h
          have hx2 : (x.toNat : Int) = 0 ∨ (x.toNat : Int) = 1 := by omega
          refine ⟨fit_b hx2, Int.le_refl 0, by omega, by simp, ?_⟩
          rw [valB_b]
          have : ((x.toNat : Int) % 256).toNat = x.toNat := by omega
          rw [this]
          simp
        · cases h
    · rw [readVal_s] at h
      cases hr : readT l with
      | none => rw [hr] at h; cases h
      | some x =>
        obtain ⟨s, j⟩ := x
        rw [hr] at h
        simp only at h
        split at h
        · rename_i hsz
          simp only [Option.some.injEq, Prod.mk.injEq] at h
          obtain ⟨rfl, rfl⟩ := h
          obtain ⟨ht, hj⟩ := readT_take hr
          have hz : z ≤ 200 := by
            have hb : byteSz z = true := hc
            unfold byteSz at hb
            rw [Bool.and_eq_true, decide_eq_true_eq, decide_eq_true_eq] at hb
            exact hb.2
          have hss : ((⟨s.toArray⟩ : ByteArray).size : Int) = s.length := by show ((s.toArray.size : Nat) : Int) = _; simp
          refine ⟨fit_s (by rw [hss]; exact hsz) hz, Int.le_refl 0, by omega, by rw [List.length_cons]; omega, ?_⟩
          rw [valB_s, Nat.add_comm 1, List.take_succ_cons, ht]
        · cases h

/-- every value fits its column -/
def FitAll : List Col → List Vl → Prop
  | [], [] => True
  | c :: cs, v :: vs => szOk c.t c.z = true ∧ fitN c v = 0 ∧ 0 ≤ v.u ∧ FitAll cs vs
  | _, _ => False
theorem readRow_rowB : ∀ (cs : List Col) (vs : List Vl) (m : List UInt8), FitAll cs vs → readRow cs (rowB cs vs ++ m) = some (vs, (rowB cs vs).length)
  | [], [], m, _ => rfl
  | c :: cs, v :: vs, m, h => by
    obtain ⟨h1, h2, h3, h4⟩ := h
    show readRow (c :: cs) ((valB c v ++ rowB cs vs) ++ m) = some (v :: vs, (valB c v ++ rowB cs vs).length)
    have ih := readRow_rowB cs vs m h4
    unfold readRow
    rw [List.append_assoc, readVal_valB _ h1 h2 h3]
    simp only
    rw [List.drop_left, ih, List.length_append]
  | [], _ :: _, _, h => h.elim
  | _ :: _, [], _, h => h.elim
theorem rowB_readRow : ∀ (cs : List Col) (l : List UInt8) (vs : List Vl) (k : Nat), (∀ c ∈ cs, szOk c.t c.z = true) → readRow cs l = some (vs, k) → FitAll cs vs ∧ cs.length ≤ k ∧ k ≤ l.length ∧ l.take k = rowB cs vs
  | [], l, vs, k, _, h => by
    simp only [readRow, Option.some.injEq, Prod.mk.injEq] at h
    obtain ⟨rfl, rfl⟩ := h
    exact ⟨trivial, Nat.le_refl _, Nat.zero_le _, rfl⟩
  | c :: cs, l, vs, k, hc, h => by
    unfold readRow at h
    cases hv : readVal c l with
    | none => rw [hv] at h; cases h
    | some x =>
      obtain ⟨v, n⟩ := x
      rw [hv] at h
      simp only at h
      cases hr : readRow cs (l.drop n) with
      | none => rw [hr] at h; cases h
      | some y =>
        obtain ⟨ws, m⟩ := y
        rw [hr] at h
        simp only [Option.some.injEq, Prod.mk.injEq] at h
        obtain ⟨rfl, rfl⟩ := h
        obtain ⟨a1, a2, a3, a4, a5⟩ := valB_readVal (hc c (List.mem_cons_self ..)) hv
        obtain ⟨b1, b2, b3, b4⟩ := rowB_readRow cs (l.drop n) ws m (fun c hc' => hc c (List.mem_cons_of_mem _ hc')) hr
        rw [List.length_drop] at b3
        refine ⟨⟨hc c (List.mem_cons_self ..), a1, a2, b1⟩, by rw [List.length_cons]; omega, by omega, ?_⟩
        show _ = valB c v ++ rowB cs ws
        rw [List.take_add, a5, b4]
theorem fitAll_len : ∀ {cs : List Col} {vs : List Vl}, FitAll cs vs → vs.length = cs.length
  | [], [], _ => rfl
  | _ :: cs, _ :: vs, h => by rw [List.length_cons, List.length_cons, fitAll_len h.2.2.2]
  | [], _ :: _, h => h.elim
  | _ :: _, [], h => h.elim

/-- no two rows have the same bytes, and no row's begin another one's -/
theorem rowB_pre {cs : List Col} {vs ws : List Vl} {m : List UInt8} (h : FitAll cs vs) (h' : FitAll cs ws) (e : rowB cs ws = rowB cs vs ++ m) : vs = ws := by
  have h1 := readRow_rowB cs vs m h
  have h2 := readRow_rowB cs ws [] h'
  rw [List.append_nil, e, h1] at h2
  simp only [Option.some.injEq, Prod.mk.injEq] at h2
  exact h2.1

/-- how many bytes a value of a column has, at least, at most -/
def wLo (c : Col) : Int := if c.u = true then 1 else if c.t = 3 then 2 else if c.t = 4 then 2 else 1 + c.z
def wHi (c : Col) : Int := if c.t = 3 then 2 else if c.t = 4 then 3 + c.z else 1 + c.z
def rowLo : List Col → Int
  | [] => 0
  | c :: cs => wLo c + rowLo cs
def rowHi : List Col → Int
  | [] => 0
  | c :: cs => wHi c + rowHi cs
theorem sz_bd {t z : Int} (h : szOk t z = true) : 0 ≤ z ∧ z ≤ 200 := by
  rcases type_cases t with ht | rfl | rfl | rfl | rfl
  · rw [szOk_none ht] at h; cases h
  · rcases sz_num h (.inl rfl) with rfl | rfl | rfl | rfl <;> decide
  · rcases sz_num h (.inr rfl) with rfl | rfl | rfl | rfl <;> decide
  · have : (z == 0) = true := h
    simp at this
    omega
  · have hb : byteSz z = true := h
    unfold byteSz at hb
    rw [Bool.and_eq_true, decide_eq_true_eq, decide_eq_true_eq] at hb
    omega
theorem size_small (n : Nat) (h : n ≤ 200) : sizeOf8 n ≤ 1 := (sizeOf8_le_iff n 1 (by omega)).2 (by omega)
theorem valB_wide {c : Col} {v : Vl} (hc : szOk c.t c.z = true) (h : fitN c v = 0) : wLo c ≤ ((valB c v).length : Int) ∧ ((valB c v).length : Int) ≤ wHi c := by
  obtain ⟨n, t, z, u⟩ := c
  simp only at hc
  have hz := sz_bd hc
  rcases fit_forms h with ⟨rfl, e⟩ | ⟨i, rfl, e, b0, b1⟩ | ⟨i, rfl, e, b1⟩ | ⟨i, rfl, e, b⟩ | ⟨s, rfl, e, b0, b1⟩
  · simp only at e
    simp only [wLo, wHi, e]
    rw [show valB ⟨n, t, z, true⟩ val0 = [0] by simp [valB, val0]]
    simp
    split
    · omega
    · split <;> omega
  · simp only at e
    subst e
    rw [valB_i, List.length_cons, tellL_length]
    simp only [wLo, wHi]
    split <;> simp <;> omega
  · simp only at e
    subst e
    rw [valB_u, List.length_cons, tellL_length]
    simp only [wLo, wHi]
    split <;> simp <;> omega
  · simp only at e
    subst e
    rw [valB_b]
    simp only [wLo, wHi]
    split <;> simp
  · simp only at e b0
    subst e
    have hs : s.data.toList.length = s.size := by rw [Array.length_toList]; rfl
    have hl : (txtL s.data.toList).length = 1 + sizeOf8 s.size + s.size := by unfold txtL; rw [List.length_append, numB_length, hs]
    have h1 := size_small s.size (by omega)
    rw [valB_s, List.length_cons, hl]
    simp only [wLo, wHi]
    split <;> simp <;> omega
theorem rowB_wide : ∀ (cs : List Col) (vs : List Vl), FitAll cs vs → rowLo cs ≤ ((rowB cs vs).length : Int) ∧ ((rowB cs vs).length : Int) ≤ rowHi cs
  | [], [], _ => ⟨Int.le_refl _, Int.le_refl _⟩
  | c :: cs, v :: vs, h => by
    obtain ⟨h1, h2, _, h4⟩ := h
    have ih := rowB_wide cs vs h4
    have hv := valB_wide h1 h2
    show rowLo (c :: cs) ≤ ((valB c v ++ rowB cs vs).length : Int) ∧ ((valB c v ++ rowB cs vs).length : Int) ≤ rowHi (c :: cs)
    rw [List.length_append]
    simp only [rowLo, rowHi]
    omega
  | [], _ :: _, h => h.elim
  | _ :: _, [], h => h.elim
end Go.Proofs.YtocmjlnhcloccaaGreatDoor
namespace Go.Proofs.YtocmjlnhcloccaaGreatDoor
open Go.RowKit

/-- what one gives up with: an error that wraps a number, which is no OK -/
def Thrown (w : World) (x : Value) : Prop := ∃ (b : Nat) (n : Int), x = .iface 138 (.pointer (some ⟨b, 0, none⟩)) ∧ n ≠ 0 ∧ w.cell? ⟨b, 1, none⟩ = some (.int .i64 n)
/-- it gives up; what was there before is as it was -/
def Gave (w : World) (e : Ending) (w' : World) : Prop := (∃ x, e = .panicked [{ v := x, recovered := false }] ∧ Thrown w' x) ∧ Below w.heap.size w w'
set_option maxHeartbeats 400000 in
theorem GiveUp_any (s : ByteArray) (n : Int) (w : World) (hn : n ≠ 0) : Calls Tryz.prog 67 #[.string s, .int .i64 n] w (Gave w) := by
  go_enter Tryz.func67, Tryz.ntmps67
  go_wp2_with fail
  exact ⟨rfl, ⟨_, rfl, w.heap.size, n, rfl, hn, by simp [go_sem]⟩, (Below.refl _ _).alloc (Nat.le_refl _) _⟩
set_option maxHeartbeats 400000 in
theorem Grant_ok (s : ByteArray) (w : World) : Calls Tryz.prog 84 #[.string s, .int .i64 0] w fun e w' => e = .returned (.tuple #[]) ∧ w = w' := by
  go_enter Tryz.func84, Tryz.ntmps84
  go_wp2_with fail
  go_end0
  exact ⟨rfl, rfl⟩
set_option maxHeartbeats 400000 in
theorem Grant_bad (s : ByteArray) (n : Int) (hn : n ≠ 0) (w : World) : Calls Tryz.prog 84 #[.string s, .int .i64 n] w (Gave w) := by
  have hd : (n != 0) = true := by simpa using hn
  have HG := Lib.hid (GiveUp_any s n w hn)
  go_enter Tryz.func84, Tryz.ntmps84
  go_wp2_with fail
  refine HG.out.mono ?_
  rintro e w1 ⟨⟨x, rfl, h⟩, hb⟩
  exact ⟨rfl, ⟨x, rfl, h⟩, hb⟩
end Go.Proofs.YtocmjlnhcloccaaGreatDoor
namespace Go.Proofs.YtocmjlnhcloccaaGreatDoor
open Go.RowKit

/-- it gives up -/
def Gone (w : World) (R : Nat) (e : Ending) (w' : World) : Prop := (∃ x, e = .panicked [{ v := x, recovered := false }] ∧ Thrown w' x) ∧ w.grownBy w' (some R)
/-- it has read a thing, up to k -/
def Got (w : World) (R : Nat) (r : Value) (k : Nat) (x : Value) (e : Ending) (w' : World) : Prop := e = .returned x ∧ Rd w' R r k ∧ w.grownBy w' (some R)

theorem grown_drewN (w : World) (n : Nat) (row : Option Nat) : w.grownBy (w.drewN n) row := ⟨rfl, rfl, rfl, Nat.le_refl _, fun _ _ _ => rfl⟩
theorem grown_below {w w' : World} (h : Below w.heap.size w w') (row : Option Nat) : w.grownBy w' row := ⟨h.os, h.tape, h.output, h.size, fun k hk _ => h.block k hk⟩
theorem Rd.keep {w w' : World} {R i : Nat} {v : Value} (h : Rd w R v i) (hg : Below w.heap.size w w') : Rd w' R v i := by
  have hl := World.block_lt_of_cell? w _ h.bytes
  exact ⟨by rw [hg.cell (by simpa using hl)]; exact h.bytes, by rw [hg.cell (by simpa using hl)]; exact h.pos, by rw [hg.frozen (by simpa using hl)]; exact h.free⟩

set_option maxHeartbeats 1000000 in
theorem cpiece_yes (oa : Option Addr) (n cap i many : Nat) (w : World) (hn : n ≤ 1000000) (hc : n ≤ cap) (hm : i + many ≤ n) :
    Calls Tryz.prog 142 #[.slice oa n cap, .int .i64 i, .int .i64 many] w fun e w' => e = .returned (pieceV oa i many) ∧ w = w' := by
  unfold pieceV
  by_cases h0 : many = 0
  · subst h0
    go_enter Tryz.func142, Tryz.ntmps142
    go_wp2
    go_ret
    exact ⟨rfl, rfl⟩
  · have h1 : ¬ (i + many = i) := by omega
    rw [if_neg h0]
    go_enter Tryz.func142, Tryz.ntmps142
    go_wp2
    go_ret
    refine ⟨?_, rfl⟩
    show Ending.returned (.slice _ (i + many - i) (i + many - i)) = _
    rw [Nat.add_sub_cancel_left]
set_option maxHeartbeats 1000000 in
theorem cpiece_no (oa : Option Addr) (n cap i many : Nat) (w : World) (_hn : n ≤ 1000000) (hi : i ≤ n) (hm : n < i + many) (h64 : many ≤ 1000000) :
    Calls Tryz.prog 142 #[.slice oa n cap, .int .i64 i, .int .i64 many] w (Gave w) := by
  go_enter Tryz.func142, Tryz.ntmps142
  go_wp2_with fail
  refine (GiveUp_any _ 120 _ (by decide)).mono ?_
  rintro e w1 ⟨⟨x, rfl, h⟩, hb⟩
  exact ⟨rfl, ⟨x, rfl, h⟩, hb⟩

theorem got_set {w : World} {R i k q : Nat} {v x : Value} (h : Rd w R v i) : Got w R v k x (.returned x) ((w.drewN q).setCell ⟨R, 1, none⟩ (.int .i64 k)) := by
  obtain ⟨h0, h1, h2⟩ := h
  exact ⟨rfl, ⟨by simp [go_sem, h0], by simp [go_sem, h1], by simp [go_sem, h2]⟩, World.grownBy.trans (grown_drewN w q _) ⟨rfl, rfl, rfl, by simp, fun k' _ hk' => by
    have hne : k' ≠ R := fun e => hk' (by rw [e])
    unfold World.setCell
    simp only [Array.getElem?_modify]
    rw [if_neg (fun e => hne e.symm)]⟩⟩
set_option maxHeartbeats 1000000 in
theorem ctake_yes (R : Nat) (oa : Option Addr) (n cap i many : Nat) (w : World) (hr : Rd w R (.slice oa n cap) i) (hn : n ≤ 1000000) (hc : n ≤ cap) (hm : i + many ≤ n) :
    Calls Tryz.prog 108 #[.pointer (some ⟨R, 0, none⟩), .int .i64 many] w (Got w R (.slice oa n cap) (i + many) (pieceV oa i many)) := by
  have HR := Lib.hid hr
  obtain ⟨h0, h1, h2⟩ := hr
  have HC := Lib.hid (cpiece_yes oa n cap i many · hn hc hm)
  have hp : pieceV oa i many = .slice (if many = 0 then oa else oa.map (·.add i)) many many := rfl
  generalize (if many = 0 then oa else oa.map (·.add i)) = ob at hp
  rw [hp] at HC ⊢
  clear hp
  go_enter Tryz.func108, Tryz.ntmps108
  go_wp2_with fail
  go_quiet ((go_at_call 142; exact quiet_sym (HC.out _)))
  go_wp2_with fail
  go_ret
  exact got_set HR.out
set_option maxHeartbeats 1000000 in
theorem ctake_no (R : Nat) (oa : Option Addr) (n cap i many : Nat) (w : World) (hr : Rd w R (.slice oa n cap) i) (hn : n ≤ 1000000) (hi : i ≤ n) (hm : n < i + many) (h64 : many ≤ 1000000) :
    Calls Tryz.prog 108 #[.pointer (some ⟨R, 0, none⟩), .int .i64 many] w (Gone w R) := by
  have HR := Lib.hid hr
  obtain ⟨h0, h1, h2⟩ := hr
  have HC := Lib.hid (cpiece_no oa n cap i many · hn hi hm h64)
  go_enter Tryz.func108, Tryz.ntmps108
  go_wp2_with fail
  -- BEGIN hand_take8
  refine wp_region_held_drew (S := fun W => W.cell? ⟨R, 0, none⟩ = some (.slice oa n cap) ∧ W.cell? ⟨R, 1, none⟩ = some (.int .i64 i)) (by kernel_rfl) ?_ (fun hHeld => ?_)
  · exact ⟨by simpa using h0, by simpa using h1⟩
  refine wpAnyH_take (i := 0) (oi := { dst := some 6, op := Go.Op.move (Go.Operand.tmp 0), type := 90, pos := "reading.go:39", after := #[], guard := none }) (v := ?v0) rfl (by kernel_rfl) (by kernel_rfl) (by kernel_rfl) (fun _ _ _ h => h) (Or.inl ⟨by rfl, ?hy0⟩) hHeld ?rest0
  case hy0 => (intro W hSw; (try dsimp only at hSw); go_simp; try with_reducible rfl)
  try simp only [Act.put, List.setIfInBounds_toArray, List.set_cons_zero, List.set_cons_succ]
  refine wpAnyH_take (i := 1) (oi := { dst := some 7, op := Go.Op.nilCheck (Go.Operand.tmp 6), type := 0, pos := "reading.go:39", after := #[{ on := 0, ground := Go.Ground.data }], guard := none }) (v := ?v1) rfl (by kernel_rfl) (by kernel_rfl) (by kernel_rfl) (fun _ _ _ h => h) (Or.inl ⟨by rfl, ?hy1⟩) hHeld ?rest1
  case hy1 => (intro W hSw; (try dsimp only at hSw); go_simp; try with_reducible rfl)
  try simp only [Act.put, List.setIfInBounds_toArray, List.set_cons_zero, List.set_cons_succ]
  refine wpAnyH_take (i := 2) (oi := { dst := some 8, op := Go.Op.fieldAddr 137 (Go.Operand.tmp 7) 0, type := 0, pos := "reading.go:39", after := #[{ on := 1, ground := Go.Ground.data }], guard := none }) (v := ?v2) rfl (by kernel_rfl) (by kernel_rfl) (by kernel_rfl) (fun _ _ _ h => h) (Or.inl ⟨by rfl, ?hy2⟩) hHeld ?rest2
  case hy2 => (intro W hSw; (try dsimp only at hSw); go_simp; try with_reducible rfl)
  try simp only [Act.put, List.setIfInBounds_toArray, List.set_cons_zero, List.set_cons_succ]
  refine wpAnyH_take (i := 3) (oi := { dst := some 9, op := Go.Op.load 135 (Go.Operand.tmp 8), type := 135, pos := "reading.go:39", after := #[{ on := 2, ground := Go.Ground.data }], guard := none }) (v := ?v3) rfl (by kernel_rfl) (by kernel_rfl) (by kernel_rfl) (fun _ _ _ h => h) (Or.inl ⟨by rfl, ?hy3⟩) hHeld ?rest3
  case hy3 => (intro W hSw; (try dsimp only at hSw); go_simp; try with_reducible rfl)
  try simp only [Act.put, List.setIfInBounds_toArray, List.set_cons_zero, List.set_cons_succ]
  refine wpAnyH_take (i := 4) (oi := { dst := some 10, op := Go.Op.move (Go.Operand.tmp 0), type := 90, pos := "reading.go:39", after := #[], guard := none }) (v := ?v4) rfl (by kernel_rfl) (by kernel_rfl) (by kernel_rfl) (fun _ _ _ h => h) (Or.inl ⟨by rfl, ?hy4⟩) hHeld ?rest4
  case hy4 => (intro W hSw; (try dsimp only at hSw); go_simp; try with_reducible rfl)
  try simp only [Act.put, List.setIfInBounds_toArray, List.set_cons_zero, List.set_cons_succ]
  refine wpAnyH_take (i := 5) (oi := { dst := some 11, op := Go.Op.nilCheck (Go.Operand.tmp 10), type := 0, pos := "reading.go:39", after := #[{ on := 4, ground := Go.Ground.data }], guard := none }) (v := ?v5) rfl (by kernel_rfl) (by kernel_rfl) (by kernel_rfl) (fun _ _ _ h => h) (Or.inl ⟨by rfl, ?hy5⟩) hHeld ?rest5
  case hy5 => (intro W hSw; (try dsimp only at hSw); go_simp; try with_reducible rfl)
  try simp only [Act.put, List.setIfInBounds_toArray, List.set_cons_zero, List.set_cons_succ]
  refine wpAnyH_take (i := 6) (oi := { dst := some 12, op := Go.Op.fieldAddr 137 (Go.Operand.tmp 11) 1, type := 0, pos := "reading.go:39", after := #[{ on := 5, ground := Go.Ground.data }], guard := none }) (v := ?v6) rfl (by kernel_rfl) (by kernel_rfl) (by kernel_rfl) (fun _ _ _ h => h) (Or.inl ⟨by rfl, ?hy6⟩) hHeld ?rest6
  case hy6 => (intro W hSw; (try dsimp only at hSw); go_simp; try with_reducible rfl)
  try simp only [Act.put, List.setIfInBounds_toArray, List.set_cons_zero, List.set_cons_succ]
  refine wpAnyH_take (i := 7) (oi := { dst := some 13, op := Go.Op.load 3 (Go.Operand.tmp 12), type := 3, pos := "reading.go:39", after := #[{ on := 6, ground := Go.Ground.data }], guard := none }) (v := ?v7) rfl (by kernel_rfl) (by kernel_rfl) (by kernel_rfl) (fun _ _ _ h => h) (Or.inl ⟨by rfl, ?hy7⟩) hHeld ?rest7
  case hy7 => (intro W hSw; (try dsimp only at hSw); go_simp; try with_reducible rfl)
  try simp only [Act.put, List.setIfInBounds_toArray, List.set_cons_zero, List.set_cons_succ]
  refine wpAnyH_take (i := 8) (oi := { dst := some 14, op := Go.Op.move (Go.Operand.tmp 1), type := 3, pos := "reading.go:39", after := #[], guard := none }) (v := ?v8) rfl (by kernel_rfl) (by kernel_rfl) (by kernel_rfl) (fun _ _ _ h => h) (Or.inl ⟨by rfl, ?hy8⟩) hHeld ?rest8
  case hy8 => (intro W hSw; (try dsimp only at hSw); go_simp; try with_reducible rfl)
  try simp only [Act.put, List.setIfInBounds_toArray, List.set_cons_zero, List.set_cons_succ]
  refine wpAnyH_ready (rs := [9]) (by kernel_rfl) (by simp) ?_
  refine AllReadyH.cons (o := { dst := some 15, op := Go.Op.call { callee := Go.Callee.value (Go.Operand.func 142), args := #[Go.Operand.tmp 9, Go.Operand.tmp 13, Go.Operand.tmp 14], argTypes := #[135, 3, 3] }, type := 31, pos := "reading.go:39", after := #[{ on := 3, ground := Go.Ground.data }, { on := 7, ground := Go.Ground.data }, { on := 8, ground := Go.Ground.data }], guard := none }) rfl (fun K hK => ?_) AllReadyH.nil
  go_simp
  go_at_call 142
  refine (HC.out _).mono ?_
  rintro e w' ⟨⟨x, rfl, hth⟩, hbG⟩
  exact ⟨rfl, ⟨_, rfl, hth⟩, (grown_drewN w 1 _).trans (grown_below hbG _)⟩
  -- END hand_take8
end Go.Proofs.YtocmjlnhcloccaaGreatDoor
namespace Go.Proofs.YtocmjlnhcloccaaGreatDoor
open Go.RowKit

theorem BelowAt.grown {w w' : World} {R : Nat} {oa : Option Addr} {l : List UInt8} (h : BelowAt w R oa l) (hg : w.grownBy w' (some R)) : BelowAt w' R oa l := by
  intro j hj
  obtain ⟨a, ha, hR, hcell⟩ := h j hj
  have hlt := World.block_lt_of_cell? w _ hcell
  rw [Addr.add_block] at hlt
  exact ⟨a, ha, hR, by rw [hg.cell_far _ (by rw [Addr.add_block]; exact hlt) (by rw [Addr.add_block]; intro e; cases e; omega)]; exact hcell⟩
theorem Rd.lt {w : World} {R i : Nat} {v : Value} (h : Rd w R v i) : R < w.heap.size := World.block_lt_of_cell? w _ h.bytes
theorem grown_under {w w' : World} {R : Nat} (h : w.grownBy w' (some R)) (hR : R ≤ w.heap.size) : Below R w w' := ⟨h.os, h.tape, h.output, h.size, fun k hk => h.block k (by omega) (fun e => by cases e; omega)⟩
theorem pieceV_some (a : Addr) (i k : Nat) (h : k ≠ 0) : pieceV (some a) i k = .slice (some (a.add i)) k k := by
  unfold pieceV
  rw [if_neg h]
  rfl
theorem BelowAt.piece {w : World} {R : Nat} {oa : Option Addr} {l : List UInt8} {i k : Nat} (h : BelowAt w R oa l) (hi : i + k ≤ l.length) : BytesAt w (pieceV oa i k) ((l.drop i).take k) := (h.bytes (Nat.le_refl _)).piece hi
theorem BelowAt.rest {w : World} {R : Nat} {oa : Option Addr} {l : List UInt8} {i : Nat} (h : BelowAt w R oa l) (hi : i ≤ l.length) : BytesAt w (pieceV oa i (l.length - i)) (l.drop i) := by
  have := h.piece (i := i) (k := l.length - i) (by omega)
  rwa [List.take_of_length_le (by simp)] at this

set_option maxRecDepth 100000 in
set_option maxHeartbeats 1000000 in
theorem crest_any (R : Nat) (oa : Option Addr) (n cap i : Nat) (w : World) (hr : Rd w R (.slice oa n cap) i) (hn : n ≤ 1000000) (hc : n ≤ cap) (hi : i ≤ n) :
    Calls Tryz.prog 148 #[.pointer (some ⟨R, 0, none⟩)] w fun e w' => e = .returned (pieceV oa i (n - i)) ∧ ∃ q, w.drewN q = w' := by
  obtain ⟨h0, h1, h2⟩ := hr
  have C := fun w => cpiece_yes oa n cap i (n - i) w hn hc (by omega)
  rw [show (((n - i : Nat)) : Int) = (n : Int) - (i : Int) by omega] at C
  have hp : pieceV oa i (n - i) = .slice (if n - i = 0 then oa else oa.map (·.add i)) (n - i) (n - i) := rfl
  generalize (if n - i = 0 then oa else oa.map (·.add i)) = ob at hp
  rw [hp] at C ⊢
  have HC := Lib.hid C
  clear hp C
  have e1 : IntKind.i64.wrap ((n : Int) - (i : Int)) = (n : Int) - (i : Int) := IntWalk.i64_in _ (by omega)
  go_enter Tryz.func148, Tryz.ntmps148
  go_wp2_with fail
  go_quiet ((go_at_call 142; exact quiet_sym (HC.out _)))
  clear e1
  go_wp2_with fail
  go_ret
  exact ⟨rfl, _, rfl⟩

set_option maxRecDepth 100000 in
set_option maxHeartbeats 1000000 in
theorem cbit_yes (R : Nat) (oa : Option Addr) (cap i : Nat) (l : List UInt8) (w : World) (hr : Rd w R (.slice oa l.length cap) i) (hb : BelowAt w R oa l) (hn : l.length ≤ 1000000) (hc : l.length ≤ cap) (hi : i < l.length) (h1 : l[i].toNat ≤ 1) :
    Calls Tryz.prog 66 #[.pointer (some ⟨R, 0, none⟩)] w (Got w R (.slice oa l.length cap) (i + 1) (.int .u8 (l[i].toNat : Int))) := by
  obtain ⟨a, rfl, _, _⟩ := hb i hi
  have C := ctake_yes R (some a) l.length cap i 1 w hr hn hc (by omega)
  rw [pieceV_some _ _ _ (by decide)] at C
  have HC := Lib.hid C
  have HB := Lib.hid hb
  generalize hx : l[i] = x at h1 ⊢
  have HX := Lib.hid hx
  have h2 : (x.toNat : Int) ≤ 1 := by omega
  clear C hr hb hx h1
  go_enter Tryz.func66, Tryz.ntmps66
  go_wp2_with fail
  refine HC.out.mono ?_
  rintro e w1 ⟨rfl, hrd, hg⟩
  have hcell : w1.cell? (a.add i) = some (.int .u8 (x.toNat : Int)) := by
    obtain ⟨a', e, _, h⟩ := (HB.out.grown hg) i hi
    cases e
    rw [HX.out] at h
    exact h
  have HR := Lib.hid hrd
  have HG := Lib.hid hg
  clear hrd hg
  go_wp2_with fail
  go_ret
  exact ⟨rfl, HR.out, HG.out⟩
set_option maxRecDepth 100000 in
set_option maxHeartbeats 1000000 in
theorem cbit_big (R : Nat) (oa : Option Addr) (cap i : Nat) (l : List UInt8) (w : World) (hr : Rd w R (.slice oa l.length cap) i) (hb : BelowAt w R oa l) (hn : l.length ≤ 1000000) (hc : l.length ≤ cap) (hi : i < l.length) (h1 : 1 < l[i].toNat) :
    Calls Tryz.prog 66 #[.pointer (some ⟨R, 0, none⟩)] w (Gone w R) := by
  obtain ⟨a, rfl, _, _⟩ := hb i hi
  have C := ctake_yes R (some a) l.length cap i 1 w hr hn hc (by omega)
  rw [pieceV_some _ _ _ (by decide)] at C
  have HC := Lib.hid C
  have HB := Lib.hid hb
  generalize hx : l[i] = x at h1
  have HX := Lib.hid hx
  have h2 : 1 < (x.toNat : Int) := by omega
  clear C hr hb hx h1
  go_enter Tryz.func66, Tryz.ntmps66
  go_wp2_with fail
  refine HC.out.mono ?_
  rintro e w1 ⟨rfl, hrd, hg⟩
  have hcell : w1.cell? (a.add i) = some (.int .u8 (x.toNat : Int)) := by
    obtain ⟨a', e, _, h⟩ := (HB.out.grown hg) i hi
    cases e
    rw [HX.out] at h
    exact h
  have HG := Lib.hid hg
  clear hrd hg
  go_wp2_with fail
  refine (GiveUp_any _ 140 _ (by decide)).mono ?_
  rintro e w3 ⟨⟨y, rfl, hth⟩, hbG⟩
  exact ⟨rfl, ⟨_, rfl, hth⟩, HG.out.trans (grown_below hbG _)⟩
set_option maxRecDepth 100000 in
set_option maxHeartbeats 1000000 in
theorem cbit_end (R : Nat) (oa : Option Addr) (n cap : Nat) (w : World) (hr : Rd w R (.slice oa n cap) n) (hn : n ≤ 1000000) :
    Calls Tryz.prog 66 #[.pointer (some ⟨R, 0, none⟩)] w (Gone w R) := by
  have HC := Lib.hid (ctake_no R oa n cap n 1 w hr hn (Nat.le_refl _) (by omega) (by omega))
  clear hr
  go_enter Tryz.func66, Tryz.ntmps66
  go_wp2_with fail
  refine HC.out.mono ?_
  rintro e w1 ⟨⟨s, rfl, hth⟩, hg⟩
  exact ⟨rfl, ⟨_, rfl, hth⟩, hg⟩

theorem rtRes_some (s : List UInt8) (k : Nat) : rtRes (some (s, k)) = .tuple #[.string ⟨s.toArray⟩, .int .i64 k, .int .i64 0] := rfl
set_option maxRecDepth 100000 in
set_option maxHeartbeats 1000000 in
theorem ctext_yes (R : Nat) (oa : Option Addr) (cap i : Nat) (l : List UInt8) (most : Int) (s : List UInt8) (k : Nat) (w : World) (hr : Rd w R (.slice oa l.length cap) i) (hb : BelowAt w R oa l) (hn : l.length ≤ 1000000) (hc : l.length ≤ cap) (hi : i ≤ l.length) (ht : readT (l.drop i) = some (s, k)) (hm : (s.length : Int) ≤ most) :
    Calls Tryz.prog 117 #[.pointer (some ⟨R, 0, none⟩), .int .i64 most] w (Got w R (.slice oa l.length cap) (i + k) (.string ⟨s.toArray⟩)) := by
  have hk : k ≤ l.length - i := by have := (readT_take ht).2; rwa [List.length_drop] at this
  have hki : i + k ≤ l.length := by omega
  have HR := Lib.hid hr
  have HB := Lib.hid hb
  have HC := Lib.hid (crest_any R oa l.length cap i w hr hn hc hi)
  have HT : Hid (∀ W, BytesAt W (pieceV oa i (l.length - i)) (l.drop i) → Calls Tryz.prog 149 #[pieceV oa i (l.length - i)] W fun e w' => e = .returned (.tuple #[.string ⟨s.toArray⟩, .int .i64 k, .int .i64 0]) ∧ Below W.heap.size W w') := Lib.hid (fun W hv => by
    have := ReadText_any _ (l.drop i) W hv (by rw [List.length_drop]; omega)
    rwa [ht, rtRes_some] at this)
  have hsz : ((⟨s.toArray⟩ : ByteArray).size : Int) ≤ most := by show ((s.toArray.size : Nat) : Int) ≤ most; simpa using hm
  generalize (⟨s.toArray⟩ : ByteArray) = S at hsz HT ⊢
  clear hr hb ht hm
  go_enter Tryz.func117, Tryz.ntmps117
  go_wp2_with fail
  refine HC.out.mono ?_
  rintro e w1 ⟨rfl, q, rfl⟩
  go_wp2_with fail
  refine (HT.out _ ((HB.out.grown (grown_drewN w q _)).rest hi)).mono ?_
  rintro e w2 ⟨rfl, hb2⟩
  have hr2 := HR.out.keep (below_drewN (Below.refl _ w) q)
  have hr2 := hr2.keep hb2
  have HR2 := Lib.hid hr2
  have HG := Lib.hid ((grown_drewN w q (some R)).trans (grown_below hb2 _))
  obtain ⟨c0, c1, c2⟩ := hr2
  clear hb2
  go_wp2_with fail
  go_ret
  obtain ⟨g1, g2, g3⟩ := got_set (q := 0) (k := i + k) (x := .string S) HR2.out
  exact ⟨rfl, g2, HG.out.trans g3⟩
end Go.Proofs.YtocmjlnhcloccaaGreatDoor
namespace Go.Proofs.YtocmjlnhcloccaaGreatDoor
open Go.RowKit

set_option maxRecDepth 100000 in
set_option maxHeartbeats 1000000 in
theorem ctext_none (R : Nat) (oa : Option Addr) (cap i : Nat) (l : List UInt8) (most : Int) (w : World) (hr : Rd w R (.slice oa l.length cap) i) (hb : BelowAt w R oa l) (hn : l.length ≤ 1000000) (hc : l.length ≤ cap) (hi : i ≤ l.length) (ht : readT (l.drop i) = none) :
    Calls Tryz.prog 117 #[.pointer (some ⟨R, 0, none⟩), .int .i64 most] w (Gone w R) := by
  have HB := Lib.hid hb
  have HC := Lib.hid (crest_any R oa l.length cap i w hr hn hc hi)
  have HT : Hid (∀ W, BytesAt W (pieceV oa i (l.length - i)) (l.drop i) → Calls Tryz.prog 149 #[pieceV oa i (l.length - i)] W fun e w' => e = .returned (.tuple #[.string ⟨#[]⟩, .int .i64 0, .int .i64 120]) ∧ Below W.heap.size W w') := Lib.hid (fun W hv => by
    have := ReadText_any _ (l.drop i) W hv (by rw [List.length_drop]; omega)
    rw [ht] at this
    exact this)
  clear hr hb ht
  go_enter Tryz.func117, Tryz.ntmps117
  go_wp2_with fail
  refine HC.out.mono ?_
  rintro e w1 ⟨rfl, q, rfl⟩
  go_wp2_with fail
  refine (HT.out _ ((HB.out.grown (grown_drewN w q _)).rest hi)).mono ?_
  rintro e w2 ⟨rfl, hb2⟩
  have HG := Lib.hid ((grown_drewN w q (some R)).trans (grown_below hb2 _))
  clear hb2
  go_wp2_with fail
  refine (GiveUp_any _ 120 _ (by decide)).mono ?_
  rintro e w3 ⟨⟨y, rfl, hth⟩, hbG⟩
  exact ⟨rfl, ⟨_, rfl, hth⟩, HG.out.trans (grown_below hbG _)⟩
set_option maxRecDepth 100000 in
set_option maxHeartbeats 1000000 in
theorem ctext_long (R : Nat) (oa : Option Addr) (cap i : Nat) (l : List UInt8) (most : Int) (s : List UInt8) (k : Nat) (w : World) (hr : Rd w R (.slice oa l.length cap) i) (hb : BelowAt w R oa l) (hn : l.length ≤ 1000000) (hc : l.length ≤ cap) (hi : i ≤ l.length) (ht : readT (l.drop i) = some (s, k)) (hm : most < (s.length : Int)) :
    Calls Tryz.prog 117 #[.pointer (some ⟨R, 0, none⟩), .int .i64 most] w (Gone w R) := by
  have HB := Lib.hid hb
  have HC := Lib.hid (crest_any R oa l.length cap i w hr hn hc hi)
  have HT : Hid (∀ W, BytesAt W (pieceV oa i (l.length - i)) (l.drop i) → Calls Tryz.prog 149 #[pieceV oa i (l.length - i)] W fun e w' => e = .returned (.tuple #[.string ⟨s.toArray⟩, .int .i64 k, .int .i64 0]) ∧ Below W.heap.size W w') := Lib.hid (fun W hv => by
    have := ReadText_any _ (l.drop i) W hv (by rw [List.length_drop]; omega)
    rwa [ht, rtRes_some] at this)
  have hsz : most < ((⟨s.toArray⟩ : ByteArray).size : Int) := by show most < ((s.toArray.size : Nat) : Int); simpa using hm
  generalize (⟨s.toArray⟩ : ByteArray) = S at hsz HT
  clear hr hb ht hm
  go_enter Tryz.func117, Tryz.ntmps117
  go_wp2_with fail
  refine HC.out.mono ?_
  rintro e w1 ⟨rfl, q, rfl⟩
  go_wp2_with fail
  refine (HT.out _ ((HB.out.grown (grown_drewN w q _)).rest hi)).mono ?_
  rintro e w2 ⟨rfl, hb2⟩
  have HG := Lib.hid ((grown_drewN w q (some R)).trans (grown_below hb2 _))
  clear hb2
  go_wp2_with fail
  refine (GiveUp_any _ 120 _ (by decide)).mono ?_
  rintro e w3 ⟨⟨y, rfl, hth⟩, hbG⟩
  exact ⟨rfl, ⟨_, rfl, hth⟩, HG.out.trans (grown_below hbG _)⟩

theorem take_lt {l : List UInt8} {i z : Nat} (h : i + z ≤ l.length) : ((l.drop i).take z).length = z ∧ valOf ((l.drop i).take z) 0 < 256 ^ z := by
  have hl : ((l.drop i).take z).length = z := by rw [List.length_take, List.length_drop]; omega
  refine ⟨hl, ?_⟩
  have := valOf_lt ((l.drop i).take z) 0
  rw [hl] at this
  omega
theorem ushr1 (n : Nat) (h : n < 256 ^ 1) : IntKind.u64.wrap ((n : Int) * 72057594037927936) / 72057594037927936 = (n : Int) := by
  simp only [IntKind.wrap_u64]
  omega
theorem ishr1 (n : Nat) (h : n < 256 ^ 1) : wrap64 (wrap64 (n : Int) * 72057594037927936) / 72057594037927936 = sgnI 1 n := by
  unfold sgnI
  simp only [wrap64, mostI, mostU]
  simp
  split <;> omega
set_option maxRecDepth 100000 in
set_option maxHeartbeats 1000000 in
theorem cfixedU1 (R : Nat) (oa : Option Addr) (cap i : Nat) (l : List UInt8) (w : World) (hr : Rd w R (.slice oa l.length cap) i) (hb : BelowAt w R oa l) (hn : l.length ≤ 1000000) (hc : l.length ≤ cap) (hi : i + 1 ≤ l.length) :
    Calls Tryz.prog 135 #[.pointer (some ⟨R, 0, none⟩), .int .i64 1] w (Got w R (.slice oa l.length cap) (i + 1) (.int .u64 (valOf ((l.drop i).take 1) 0 : Nat))) := by
  obtain ⟨hl, hlt⟩ := take_lt hi
  have HB := Lib.hid hb
  have HC := Lib.hid (ctake_yes R oa l.length cap i 1 w hr hn hc hi)
  have HT : Hid (∀ W, BytesAt W (pieceV oa i 1) ((l.drop i).take 1) → Calls Tryz.prog 159 #[pieceV oa i 1] W fun e w' => e = .returned (.tuple #[.int .u64 (valOf ((l.drop i).take 1) 0 : Nat), .int .i64 0]) ∧ W = w') := Lib.hid (fun W hv => by
    have := ReadFixed_any _ _ W hv (by omega)
    rw [if_pos (by omega)] at this
    exact this)
  generalize valOf ((l.drop i).take 1) 0 = m at hlt HT ⊢
  have HL := Lib.hid hlt
  clear hr hb hl hlt
  go_enter Tryz.func135, Tryz.ntmps135
  go_wp2_with fail
  refine HC.out.mono ?_
  rintro e w1 ⟨rfl, hrd, hg⟩
  have HR := Lib.hid hrd
  have HG := Lib.hid hg
  clear hrd hg
  go_wp2_with fail
  refine (HT.out _ ((HB.out.grown HG.out).piece hi)).mono ?_
  rintro e w2 ⟨rfl, rfl⟩
  go_wp2_with fail
  go_ret
  exact ⟨ret_i (ushr1 _ HL.out), HR.out, HG.out⟩
set_option maxRecDepth 100000 in
set_option maxHeartbeats 1000000 in
theorem cfixedI1 (R : Nat) (oa : Option Addr) (cap i : Nat) (l : List UInt8) (w : World) (hr : Rd w R (.slice oa l.length cap) i) (hb : BelowAt w R oa l) (hn : l.length ≤ 1000000) (hc : l.length ≤ cap) (hi : i + 1 ≤ l.length) :
    Calls Tryz.prog 134 #[.pointer (some ⟨R, 0, none⟩), .int .i64 1] w (Got w R (.slice oa l.length cap) (i + 1) (.int .i64 (sgnI 1 (valOf ((l.drop i).take 1) 0)))) := by
  obtain ⟨hl, hlt⟩ := take_lt hi
  have HB := Lib.hid hb
  have HC := Lib.hid (ctake_yes R oa l.length cap i 1 w hr hn hc hi)
  have HT : Hid (∀ W, BytesAt W (pieceV oa i 1) ((l.drop i).take 1) → Calls Tryz.prog 159 #[pieceV oa i 1] W fun e w' => e = .returned (.tuple #[.int .u64 (valOf ((l.drop i).take 1) 0 : Nat), .int .i64 0]) ∧ W = w') := Lib.hid (fun W hv => by
    have := ReadFixed_any _ _ W hv (by omega)
    rw [if_pos (by omega)] at this
    exact this)
  generalize valOf ((l.drop i).take 1) 0 = m at hlt HT ⊢
  have HL := Lib.hid hlt
  clear hr hb hl hlt
  go_enter Tryz.func134, Tryz.ntmps134
  go_wp2_with fail
  refine HC.out.mono ?_
  rintro e w1 ⟨rfl, hrd, hg⟩
  have HR := Lib.hid hrd
  have HG := Lib.hid hg
  clear hrd hg
  go_wp2_with fail
  refine (HT.out _ ((HB.out.grown HG.out).piece hi)).mono ?_
  rintro e w2 ⟨rfl, rfl⟩
  go_wp2_with fail
  go_ret
  exact ⟨ret_i (ishr1 _ HL.out), HR.out, HG.out⟩
theorem ushr2 (n : Nat) (h : n < 256 ^ 2) : IntKind.u64.wrap ((n : Int) * 281474976710656) / 281474976710656 = (n : Int) := by
  simp only [IntKind.wrap_u64]
  omega
theorem ishr2 (n : Nat) (h : n < 256 ^ 2) : wrap64 (wrap64 (n : Int) * 281474976710656) / 281474976710656 = sgnI 2 n := by
  unfold sgnI
  simp only [wrap64, mostI, mostU]
  simp
  split <;> omega
set_option maxRecDepth 100000 in
set_option maxHeartbeats 1000000 in
theorem cfixedU2 (R : Nat) (oa : Option Addr) (cap i : Nat) (l : List UInt8) (w : World) (hr : Rd w R (.slice oa l.length cap) i) (hb : BelowAt w R oa l) (hn : l.length ≤ 1000000) (hc : l.length ≤ cap) (hi : i + 2 ≤ l.length) :
    Calls Tryz.prog 135 #[.pointer (some ⟨R, 0, none⟩), .int .i64 2] w (Got w R (.slice oa l.length cap) (i + 2) (.int .u64 (valOf ((l.drop i).take 2) 0 : Nat))) := by
  obtain ⟨hl, hlt⟩ := take_lt hi
  have HB := Lib.hid hb
  have HC := Lib.hid (ctake_yes R oa l.length cap i 2 w hr hn hc hi)
  have HT : Hid (∀ W, BytesAt W (pieceV oa i 2) ((l.drop i).take 2) → Calls Tryz.prog 159 #[pieceV oa i 2] W fun e w' => e = .returned (.tuple #[.int .u64 (valOf ((l.drop i).take 2) 0 : Nat), .int .i64 0]) ∧ W = w') := Lib.hid (fun W hv => by
    have := ReadFixed_any _ _ W hv (by omega)
    rw [if_pos (by omega)] at this
    exact this)
  generalize valOf ((l.drop i).take 2) 0 = m at hlt HT ⊢
  have HL := Lib.hid hlt
  clear hr hb hl hlt
  go_enter Tryz.func135, Tryz.ntmps135
  go_wp2_with fail
  refine HC.out.mono ?_
  rintro e w1 ⟨rfl, hrd, hg⟩
  have HR := Lib.hid hrd
  have HG := Lib.hid hg
  clear hrd hg
  go_wp2_with fail
  refine (HT.out _ ((HB.out.grown HG.out).piece hi)).mono ?_
  rintro e w2 ⟨rfl, rfl⟩
  go_wp2_with fail
  go_ret
  exact ⟨ret_i (ushr2 _ HL.out), HR.out, HG.out⟩
set_option maxRecDepth 100000 in
set_option maxHeartbeats 1000000 in
theorem cfixedI2 (R : Nat) (oa : Option Addr) (cap i : Nat) (l : List UInt8) (w : World) (hr : Rd w R (.slice oa l.length cap) i) (hb : BelowAt w R oa l) (hn : l.length ≤ 1000000) (hc : l.length ≤ cap) (hi : i + 2 ≤ l.length) :
    Calls Tryz.prog 134 #[.pointer (some ⟨R, 0, none⟩), .int .i64 2] w (Got w R (.slice oa l.length cap) (i + 2) (.int .i64 (sgnI 2 (valOf ((l.drop i).take 2) 0)))) := by
  obtain ⟨hl, hlt⟩ := take_lt hi
  have HB := Lib.hid hb
  have HC := Lib.hid (ctake_yes R oa l.length cap i 2 w hr hn hc hi)
  have HT : Hid (∀ W, BytesAt W (pieceV oa i 2) ((l.drop i).take 2) → Calls Tryz.prog 159 #[pieceV oa i 2] W fun e w' => e = .returned (.tuple #[.int .u64 (valOf ((l.drop i).take 2) 0 : Nat), .int .i64 0]) ∧ W = w') := Lib.hid (fun W hv => by
    have := ReadFixed_any _ _ W hv (by omega)
    rw [if_pos (by omega)] at this
    exact this)
  generalize valOf ((l.drop i).take 2) 0 = m at hlt HT ⊢
  have HL := Lib.hid hlt
  clear hr hb hl hlt
  go_enter Tryz.func134, Tryz.ntmps134
  go_wp2_with fail
  refine HC.out.mono ?_
  rintro e w1 ⟨rfl, hrd, hg⟩
  have HR := Lib.hid hrd
  have HG := Lib.hid hg
  clear hrd hg
  go_wp2_with fail
  refine (HT.out _ ((HB.out.grown HG.out).piece hi)).mono ?_
  rintro e w2 ⟨rfl, rfl⟩
  go_wp2_with fail
  go_ret
  exact ⟨ret_i (ishr2 _ HL.out), HR.out, HG.out⟩
theorem ushr4 (n : Nat) (h : n < 256 ^ 4) : IntKind.u64.wrap ((n : Int) * 4294967296) / 4294967296 = (n : Int) := by
  simp only [IntKind.wrap_u64]
  omega
theorem ishr4 (n : Nat) (h : n < 256 ^ 4) : wrap64 (wrap64 (n : Int) * 4294967296) / 4294967296 = sgnI 4 n := by
  unfold sgnI
  simp only [wrap64, mostI, mostU]
  simp
  split <;> omega
set_option maxRecDepth 100000 in
set_option maxHeartbeats 1000000 in
theorem cfixedU4 (R : Nat) (oa : Option Addr) (cap i : Nat) (l : List UInt8) (w : World) (hr : Rd w R (.slice oa l.length cap) i) (hb : BelowAt w R oa l) (hn : l.length ≤ 1000000) (hc : l.length ≤ cap) (hi : i + 4 ≤ l.length) :
    Calls Tryz.prog 135 #[.pointer (some ⟨R, 0, none⟩), .int .i64 4] w (Got w R (.slice oa l.length cap) (i + 4) (.int .u64 (valOf ((l.drop i).take 4) 0 : Nat))) := by
  obtain ⟨hl, hlt⟩ := take_lt hi
  have HB := Lib.hid hb
  have HC := Lib.hid (ctake_yes R oa l.length cap i 4 w hr hn hc hi)
  have HT : Hid (∀ W, BytesAt W (pieceV oa i 4) ((l.drop i).take 4) → Calls Tryz.prog 159 #[pieceV oa i 4] W fun e w' => e = .returned (.tuple #[.int .u64 (valOf ((l.drop i).take 4) 0 : Nat), .int .i64 0]) ∧ W = w') := Lib.hid (fun W hv => by
    have := ReadFixed_any _ _ W hv (by omega)
    rw [if_pos (by omega)] at this
    exact this)
  generalize valOf ((l.drop i).take 4) 0 = m at hlt HT ⊢
  have HL := Lib.hid hlt
  clear hr hb hl hlt
  go_enter Tryz.func135, Tryz.ntmps135
  go_wp2_with fail
  refine HC.out.mono ?_
  rintro e w1 ⟨rfl, hrd, hg⟩
  have HR := Lib.hid hrd
  have HG := Lib.hid hg
  clear hrd hg
  go_wp2_with fail
  refine (HT.out _ ((HB.out.grown HG.out).piece hi)).mono ?_
  rintro e w2 ⟨rfl, rfl⟩
  go_wp2_with fail
  go_ret
  exact ⟨ret_i (ushr4 _ HL.out), HR.out, HG.out⟩
set_option maxRecDepth 100000 in
set_option maxHeartbeats 1000000 in
theorem cfixedI4 (R : Nat) (oa : Option Addr) (cap i : Nat) (l : List UInt8) (w : World) (hr : Rd w R (.slice oa l.length cap) i) (hb : BelowAt w R oa l) (hn : l.length ≤ 1000000) (hc : l.length ≤ cap) (hi : i + 4 ≤ l.length) :
    Calls Tryz.prog 134 #[.pointer (some ⟨R, 0, none⟩), .int .i64 4] w (Got w R (.slice oa l.length cap) (i + 4) (.int .i64 (sgnI 4 (valOf ((l.drop i).take 4) 0)))) := by
  obtain ⟨hl, hlt⟩ := take_lt hi
  have HB := Lib.hid hb
  have HC := Lib.hid (ctake_yes R oa l.length cap i 4 w hr hn hc hi)
  have HT : Hid (∀ W, BytesAt W (pieceV oa i 4) ((l.drop i).take 4) → Calls Tryz.prog 159 #[pieceV oa i 4] W fun e w' => e = .returned (.tuple #[.int .u64 (valOf ((l.drop i).take 4) 0 : Nat), .int .i64 0]) ∧ W = w') := Lib.hid (fun W hv => by
    have := ReadFixed_any _ _ W hv (by omega)
    rw [if_pos (by omega)] at this
    exact this)
  generalize valOf ((l.drop i).take 4) 0 = m at hlt HT ⊢
  have HL := Lib.hid hlt
  clear hr hb hl hlt
  go_enter Tryz.func134, Tryz.ntmps134
  go_wp2_with fail
  refine HC.out.mono ?_
  rintro e w1 ⟨rfl, hrd, hg⟩
  have HR := Lib.hid hrd
  have HG := Lib.hid hg
  clear hrd hg
  go_wp2_with fail
  refine (HT.out _ ((HB.out.grown HG.out).piece hi)).mono ?_
  rintro e w2 ⟨rfl, rfl⟩
  go_wp2_with fail
  go_ret
  exact ⟨ret_i (ishr4 _ HL.out), HR.out, HG.out⟩
theorem ushr8 (n : Nat) (h : n < 256 ^ 8) : IntKind.u64.wrap (n : Int) = (n : Int) := by
  simp only [IntKind.wrap_u64]
  omega
theorem ishr8 (n : Nat) (h : n < 256 ^ 8) : wrap64 (wrap64 (n : Int)) = sgnI 8 n := by
  unfold sgnI
  simp only [wrap64, mostI, mostU]
  simp
  split <;> omega
set_option maxRecDepth 100000 in
set_option maxHeartbeats 1000000 in
theorem cfixedU8 (R : Nat) (oa : Option Addr) (cap i : Nat) (l : List UInt8) (w : World) (hr : Rd w R (.slice oa l.length cap) i) (hb : BelowAt w R oa l) (hn : l.length ≤ 1000000) (hc : l.length ≤ cap) (hi : i + 8 ≤ l.length) :
    Calls Tryz.prog 135 #[.pointer (some ⟨R, 0, none⟩), .int .i64 8] w (Got w R (.slice oa l.length cap) (i + 8) (.int .u64 (valOf ((l.drop i).take 8) 0 : Nat))) := by
  obtain ⟨hl, hlt⟩ := take_lt hi
  have HB := Lib.hid hb
  have HC := Lib.hid (ctake_yes R oa l.length cap i 8 w hr hn hc hi)
  have HT : Hid (∀ W, BytesAt W (pieceV oa i 8) ((l.drop i).take 8) → Calls Tryz.prog 159 #[pieceV oa i 8] W fun e w' => e = .returned (.tuple #[.int .u64 (valOf ((l.drop i).take 8) 0 : Nat), .int .i64 0]) ∧ W = w') := Lib.hid (fun W hv => by
    have := ReadFixed_any _ _ W hv (by omega)
    rw [if_pos (by omega)] at this
    exact this)
  generalize valOf ((l.drop i).take 8) 0 = m at hlt HT ⊢
  have HL := Lib.hid hlt
  clear hr hb hl hlt
  go_enter Tryz.func135, Tryz.ntmps135
  go_wp2_with fail
  refine HC.out.mono ?_
  rintro e w1 ⟨rfl, hrd, hg⟩
  have HR := Lib.hid hrd
  have HG := Lib.hid hg
  clear hrd hg
  go_wp2_with fail
  refine (HT.out _ ((HB.out.grown HG.out).piece hi)).mono ?_
  rintro e w2 ⟨rfl, rfl⟩
  go_wp2_with fail
  go_ret
  exact ⟨ret_i (ushr8 _ HL.out), HR.out, HG.out⟩
set_option maxRecDepth 100000 in
set_option maxHeartbeats 1000000 in
theorem cfixedI8 (R : Nat) (oa : Option Addr) (cap i : Nat) (l : List UInt8) (w : World) (hr : Rd w R (.slice oa l.length cap) i) (hb : BelowAt w R oa l) (hn : l.length ≤ 1000000) (hc : l.length ≤ cap) (hi : i + 8 ≤ l.length) :
    Calls Tryz.prog 134 #[.pointer (some ⟨R, 0, none⟩), .int .i64 8] w (Got w R (.slice oa l.length cap) (i + 8) (.int .i64 (sgnI 8 (valOf ((l.drop i).take 8) 0)))) := by
  obtain ⟨hl, hlt⟩ := take_lt hi
  have HB := Lib.hid hb
  have HC := Lib.hid (ctake_yes R oa l.length cap i 8 w hr hn hc hi)
  have HT : Hid (∀ W, BytesAt W (pieceV oa i 8) ((l.drop i).take 8) → Calls Tryz.prog 159 #[pieceV oa i 8] W fun e w' => e = .returned (.tuple #[.int .u64 (valOf ((l.drop i).take 8) 0 : Nat), .int .i64 0]) ∧ W = w') := Lib.hid (fun W hv => by
    have := ReadFixed_any _ _ W hv (by omega)
    rw [if_pos (by omega)] at this
    exact this)
  generalize valOf ((l.drop i).take 8) 0 = m at hlt HT ⊢
  have HL := Lib.hid hlt
  clear hr hb hl hlt
  go_enter Tryz.func134, Tryz.ntmps134
  go_wp2_with fail
  refine HC.out.mono ?_
  rintro e w1 ⟨rfl, hrd, hg⟩
  have HR := Lib.hid hrd
  have HG := Lib.hid hg
  clear hrd hg
  go_wp2_with fail
  refine (HT.out _ ((HB.out.grown HG.out).piece hi)).mono ?_
  rintro e w2 ⟨rfl, rfl⟩
  go_wp2_with fail
  go_ret
  exact ⟨ret_i (ishr8 _ HL.out), HR.out, HG.out⟩
end Go.Proofs.YtocmjlnhcloccaaGreatDoor
namespace Go.Proofs.YtocmjlnhcloccaaGreatDoor
open Go.RowKit

/-- the value of a Type with whose bytes l begins, behind the byte that says that it is not null -/
def bodyR (t z : Int) (l : List UInt8) : Option (Vl × Nat) :=
  if t = 1 then (if z.toNat ≤ l.length then some (⟨1, sgnI z (valOf (l.take z.toNat) 0), 0, ⟨#[]⟩⟩, z.toNat) else none)
  else if t = 2 then (if z.toNat ≤ l.length then some (⟨2, 0, (valOf (l.take z.toNat) 0 : Nat), ⟨#[]⟩⟩, z.toNat) else none)
  else if t = 3 then
    (match l with
     | [] => none
     | x :: _ => if x.toNat ≤ 1 then some (⟨3, x.toNat, 0, ⟨#[]⟩⟩, 1) else none)
  else
    match readT l with
    | some (s, n) => if (s.length : Int) ≤ z then some (⟨4, 0, 0, ⟨s.toArray⟩⟩, n) else none
    | none => none
theorem readVal_one (c : Col) (t : List UInt8) : readVal c (1 :: t) = (bodyR c.t c.z t).map (fun x => (x.1, 1 + x.2)) := by
  unfold bodyR
  simp only [readVal]
  rw [if_neg (by decide : ¬ (1 : UInt8) = 0), if_neg (by decide : ¬ (1 : UInt8) ≠ 1)]
  split
  · split <;> rfl
  · split
    · split <;> rfl
    · split
      · cases t with
        | nil => rfl
        | cons x t => simp only; split <;> rfl
      · cases readT t with
        | none => rfl
        | some y => obtain ⟨s, n⟩ := y; simp only; split <;> rfl
theorem bodyR_le {t z : Int} {l : List UInt8} {v : Vl} {k : Nat} (h : bodyR t z l = some (v, k)) : k ≤ l.length := by
  unfold bodyR at h
  split at h
  · split at h
    · simp only [Option.some.injEq, Prod.mk.injEq] at h; omega
    · cases h
  · split at h
    · split at h
      · simp only [Option.some.injEq, Prod.mk.injEq] at h; omega
      · cases h
    · split at h
      · cases l with
        | nil => cases h
        | cons x t =>
          simp only at h
          split at h
          · simp only [Option.some.injEq, Prod.mk.injEq] at h; rw [List.length_cons]; omega
          · cases h
      · cases hr : readT l with
        | none => rw [hr] at h; cases h
        | some y =>
          obtain ⟨s, n⟩ := y
          rw [hr] at h
          simp only at h
          split at h
          · simp only [Option.some.injEq, Prod.mk.injEq] at h
            have := (readT_take hr).2
            omega
          · cases h
/-- a value has been read, or it gave up -/
def BodyPost (w : World) (R : Nat) (r : Value) (i : Nat) (o : Option (Vl × Nat)) (e : Ending) (w' : World) : Prop :=
  match o with
  | some (v, k) => Got w R r (i + k) v.val e w'
  | none => Gone w R e w'

theorem grown_set {w w1 : World} {row : Option Nat} {B o : Nat} {x : Value} (h : w.grownBy w1 row) (hB : w.heap.size ≤ B) : w.grownBy (w1.setCell ⟨B, o, none⟩ x) row :=
  ⟨h.os, h.tape, h.output, by simpa using h.size, fun k hk hr => by
    rw [← h.block k hk hr]
    unfold World.setCell
    simp only [Array.getElem?_modify]
    rw [if_neg (by omega)]⟩
theorem Rd.set {w1 : World} {R B o i : Nat} {v x : Value} (h : Rd w1 R v i) (hne : R ≠ B) : Rd (w1.setCell ⟨B, o, none⟩ x) R v i := by
  obtain ⟨h0, h1, h2⟩ := h
  exact ⟨by rw [World.cell?_setCell_far _ _ _ _ (show B ≠ R from fun e => hne e.symm)]; exact h0, by rw [World.cell?_setCell_far _ _ _ _ (show B ≠ R from fun e => hne e.symm)]; exact h1, by simp [go_sem, h2]⟩
/-- the result's cells -/
structure ResC (w1 : World) (B : Nat) : Prop where
  c0 : w1.cell? ⟨B, 0, none⟩ = some (.int .i64 0)
  c1 : w1.cell? ⟨B, 1, none⟩ = some (.int .i64 0)
  c2 : w1.cell? ⟨B, 2, none⟩ = some (.int .u64 0)
  c3 : w1.cell? ⟨B, 3, none⟩ = some (.string ⟨#[]⟩)
  f : ∀ o, w1.frozen? ⟨B, o, none⟩ = false
theorem resC {w w1 : World} {R : Nat} (hR : R < w.heap.size) (hg : (w.alloc (.cells #[.int .i64 0, .int .i64 0, .int .u64 0, .string ⟨#[]⟩] 68)).grownBy w1 (some R)) : ResC w1 w.heap.size := by
  have q : ∀ o, w1.cell? ⟨w.heap.size, o, none⟩ = (w.alloc (.cells #[.int .i64 0, .int .i64 0, .int .u64 0, .string ⟨#[]⟩] 68)).cell? ⟨w.heap.size, o, none⟩ := fun o => hg.cell_far _ (by simp) (by simp; omega)
  refine ⟨by rw [q]; simp [go_sem], by rw [q]; simp [go_sem], by rw [q]; simp [go_sem], by rw [q]; simp [go_sem], fun o => ?_⟩
  rw [hg.frozen_far _ (by simp) (by simp; omega)]
  simp [go_sem]

theorem cfixedI_any (z : Int) (hz : numSz z = true) (R : Nat) (oa : Option Addr) (cap i : Nat) (l : List UInt8) (w : World) (hr : Rd w R (.slice oa l.length cap) i) (hb : BelowAt w R oa l) (hn : l.length ≤ 1000000) (hc : l.length ≤ cap) (hi : i + z.toNat ≤ l.length) :
    Calls Tryz.prog 134 #[.pointer (some ⟨R, 0, none⟩), .int .i64 z] w (Got w R (.slice oa l.length cap) (i + z.toNat) (.int .i64 (sgnI z (valOf ((l.drop i).take z.toNat) 0)))) := by
  rcases numSz_cases hz with rfl | rfl | rfl | rfl
  · exact cfixedI1 R oa cap i l w hr hb hn hc hi
  · exact cfixedI2 R oa cap i l w hr hb hn hc hi
  · exact cfixedI4 R oa cap i l w hr hb hn hc hi
  · exact cfixedI8 R oa cap i l w hr hb hn hc hi
theorem cfixedU_any (z : Int) (hz : numSz z = true) (R : Nat) (oa : Option Addr) (cap i : Nat) (l : List UInt8) (w : World) (hr : Rd w R (.slice oa l.length cap) i) (hb : BelowAt w R oa l) (hn : l.length ≤ 1000000) (hc : l.length ≤ cap) (hi : i + z.toNat ≤ l.length) :
    Calls Tryz.prog 135 #[.pointer (some ⟨R, 0, none⟩), .int .i64 z] w (Got w R (.slice oa l.length cap) (i + z.toNat) (.int .u64 (valOf ((l.drop i).take z.toNat) 0 : Nat))) := by
  rcases numSz_cases hz with rfl | rfl | rfl | rfl
  · exact cfixedU1 R oa cap i l w hr hb hn hc hi
  · exact cfixedU2 R oa cap i l w hr hb hn hc hi
  · exact cfixedU4 R oa cap i l w hr hb hn hc hi
  · exact cfixedU8 R oa cap i l w hr hb hn hc hi
set_option maxRecDepth 100000 in
set_option maxHeartbeats 1000000 in
theorem cfixedI_no (z : Nat) (hz : z ≤ 8) (R : Nat) (oa : Option Addr) (n cap i : Nat) (w : World) (hr : Rd w R (.slice oa n cap) i) (hn : n ≤ 1000000) (hi : i ≤ n) (hz2 : n < i + z) :
    Calls Tryz.prog 134 #[.pointer (some ⟨R, 0, none⟩), .int .i64 z] w (Gone w R) := by
  have HC := Lib.hid (ctake_no R oa n cap i z w hr hn hi hz2 (by omega))
  clear hr
  go_enter Tryz.func134, Tryz.ntmps134
  go_wp2_with fail
  refine HC.out.mono ?_
  rintro e w1 ⟨⟨s, rfl, hth⟩, hg⟩
  exact ⟨rfl, ⟨_, rfl, hth⟩, hg⟩
set_option maxRecDepth 100000 in
set_option maxHeartbeats 1000000 in
theorem cfixedU_no (z : Nat) (hz : z ≤ 8) (R : Nat) (oa : Option Addr) (n cap i : Nat) (w : World) (hr : Rd w R (.slice oa n cap) i) (hn : n ≤ 1000000) (hi : i ≤ n) (hz2 : n < i + z) :
    Calls Tryz.prog 135 #[.pointer (some ⟨R, 0, none⟩), .int .i64 z] w (Gone w R) := by
  have HC := Lib.hid (ctake_no R oa n cap i z w hr hn hi hz2 (by omega))
  clear hr
  go_enter Tryz.func135, Tryz.ntmps135
  go_wp2_with fail
  refine HC.out.mono ?_
  rintro e w1 ⟨⟨s, rfl, hth⟩, hg⟩
  exact ⟨rfl, ⟨_, rfl, hth⟩, hg⟩
set_option maxRecDepth 100000 in
set_option maxHeartbeats 1000000 in
theorem cread1 (z : Int) (hz : numSz z = true) (R : Nat) (oa : Option Addr) (cap i : Nat) (l : List UInt8) (w : World) (hr : Rd w R (.slice oa l.length cap) i) (hb : BelowAt w R oa l) (hn : l.length ≤ 1000000) (hc : l.length ≤ cap) (hi : i ≤ l.length) :
    Calls Tryz.prog 91 #[.pointer (some ⟨R, 0, none⟩), .int .i64 z] w (BodyPost w R (.slice oa l.length cap) i (bodyR 1 z (l.drop i))) := by
  have hR := hr.lt
  have hr2 := hr.keep ((Below.refl _ w).alloc (Nat.le_refl _) (.cells #[.int .i64 0, .int .i64 0, .int .u64 0, .string ⟨#[]⟩] 68))
  have hb2 := hb.keep ((Below.refl R w).alloc (by omega) (.cells #[.int .i64 0, .int .i64 0, .int .u64 0, .string ⟨#[]⟩] 68))
  have hz8 : 0 ≤ z ∧ z ≤ 8 := by rcases numSz_cases hz with rfl | rfl | rfl | rfl <;> decide
  by_cases h : i + z.toNat ≤ l.length
  · rw [show bodyR 1 z (l.drop i) = some (⟨1, sgnI z (valOf ((l.drop i).take z.toNat) 0), 0, ⟨#[]⟩⟩, z.toNat) by unfold bodyR; simp; omega]
    have HC := Lib.hid (cfixedI_any z hz R oa cap i l _ hr2 hb2 hn hc h)
    show Calls _ _ _ _ (Got _ _ _ _ _)
    simp only [Vl.val]
    generalize sgnI z (valOf ((l.drop i).take z.toNat) 0) = m at HC ⊢
    clear hz h hz8
    clear hr hb hr2 hb2
    go_enter Tryz.func91, Tryz.ntmps91
    go_wp2_with fail
    refine HC.out.mono ?_
    rintro e w1 ⟨rfl, hrd, hg⟩
    have HG := Lib.hid ((World.grownBy_alloc w _ _).trans hg)
    obtain ⟨c0, c1, c2, c3, f⟩ := resC hR hg
    have f0 := f 0
    have f1 := f 1
    have f2 := f 2
    have f3 := f 3
    have HR := Lib.hid hrd
    clear hg hrd f
    go_wp2_with fail
    exact bodyPost_ret (v := .agg #[.int .i64 1, .int .i64 m, .int .u64 0, .string ⟨#[]⟩]) (by simp [results, Tryz.results91, go_sem, c0, c1, c2, c3]) rfl ⟨rfl, (((HR.out.set (by omega)).set (by omega)).set (by omega)).set (by omega), grown_set (grown_set (grown_set (grown_set HG.out (Nat.le_refl _)) (Nat.le_refl _)) (Nat.le_refl _)) (Nat.le_refl _)⟩
  · rw [show bodyR 1 z (l.drop i) = none by unfold bodyR; simp; omega]
    have C := cfixedI_no z.toNat (by omega) R oa l.length cap i _ hr2 hn hi (by omega)
    rw [show ((z.toNat : Nat) : Int) = z by omega] at C
    have HC := Lib.hid C
    show Calls _ _ _ _ (Gone _ _)
    clear C hz h hz8
    clear hr hb hr2 hb2
    go_enter Tryz.func91, Tryz.ntmps91
    go_wp2_with fail
    refine HC.out.mono ?_
    rintro e w1 ⟨⟨s, rfl, hth⟩, hg⟩
    exact ⟨rfl, ⟨_, rfl, hth⟩, (World.grownBy_alloc w _ _).trans hg⟩
set_option maxRecDepth 100000 in
set_option maxHeartbeats 1000000 in
theorem cread2 (z : Int) (hz : numSz z = true) (R : Nat) (oa : Option Addr) (cap i : Nat) (l : List UInt8) (w : World) (hr : Rd w R (.slice oa l.length cap) i) (hb : BelowAt w R oa l) (hn : l.length ≤ 1000000) (hc : l.length ≤ cap) (hi : i ≤ l.length) :
    Calls Tryz.prog 94 #[.pointer (some ⟨R, 0, none⟩), .int .i64 z] w (BodyPost w R (.slice oa l.length cap) i (bodyR 2 z (l.drop i))) := by
  have hR := hr.lt
  have hr2 := hr.keep ((Below.refl _ w).alloc (Nat.le_refl _) (.cells #[.int .i64 0, .int .i64 0, .int .u64 0, .string ⟨#[]⟩] 68))
  have hb2 := hb.keep ((Below.refl R w).alloc (by omega) (.cells #[.int .i64 0, .int .i64 0, .int .u64 0, .string ⟨#[]⟩] 68))
  have hz8 : 0 ≤ z ∧ z ≤ 8 := by rcases numSz_cases hz with rfl | rfl | rfl | rfl <;> decide
  by_cases h : i + z.toNat ≤ l.length
  · rw [show bodyR 2 z (l.drop i) = some (⟨2, 0, (valOf ((l.drop i).take z.toNat) 0 : Nat), ⟨#[]⟩⟩, z.toNat) by unfold bodyR; simp; omega]
    have HC := Lib.hid (cfixedU_any z hz R oa cap i l _ hr2 hb2 hn hc h)
    show Calls _ _ _ _ (Got _ _ _ _ _)
    simp only [Vl.val]
    generalize ((valOf ((l.drop i).take z.toNat) 0 : Nat) : Int) = m at HC ⊢
    clear hz h hz8
    clear hr hb hr2 hb2
    go_enter Tryz.func94, Tryz.ntmps94
    go_wp2_with fail
    refine HC.out.mono ?_
    rintro e w1 ⟨rfl, hrd, hg⟩
    have HG := Lib.hid ((World.grownBy_alloc w _ _).trans hg)
    obtain ⟨c0, c1, c2, c3, f⟩ := resC hR hg
    have f0 := f 0
    have f1 := f 1
    have f2 := f 2
    have f3 := f 3
    have HR := Lib.hid hrd
    clear hg hrd f
    go_wp2_with fail
    exact bodyPost_ret (v := .agg #[.int .i64 2, .int .i64 0, .int .u64 m, .string ⟨#[]⟩]) (by simp [results, Tryz.results94, go_sem, c0, c1, c2, c3]) rfl ⟨rfl, (((HR.out.set (by omega)).set (by omega)).set (by omega)).set (by omega), grown_set (grown_set (grown_set (grown_set HG.out (Nat.le_refl _)) (Nat.le_refl _)) (Nat.le_refl _)) (Nat.le_refl _)⟩
  · rw [show bodyR 2 z (l.drop i) = none by unfold bodyR; simp; omega]
    have C := cfixedU_no z.toNat (by omega) R oa l.length cap i _ hr2 hn hi (by omega)
    rw [show ((z.toNat : Nat) : Int) = z by omega] at C
    have HC := Lib.hid C
    show Calls _ _ _ _ (Gone _ _)
    clear C hz h hz8
    clear hr hb hr2 hb2
    go_enter Tryz.func94, Tryz.ntmps94
    go_wp2_with fail
    refine HC.out.mono ?_
    rintro e w1 ⟨⟨s, rfl, hth⟩, hg⟩
    exact ⟨rfl, ⟨_, rfl, hth⟩, (World.grownBy_alloc w _ _).trans hg⟩
set_option maxRecDepth 100000 in
set_option maxHeartbeats 1000000 in
theorem cread3 (z : Int) (R : Nat) (oa : Option Addr) (cap i : Nat) (l : List UInt8) (w : World) (hr : Rd w R (.slice oa l.length cap) i) (hb : BelowAt w R oa l) (hn : l.length ≤ 1000000) (hc : l.length ≤ cap) (hi : i ≤ l.length) :
    Calls Tryz.prog 96 #[.pointer (some ⟨R, 0, none⟩), .int .i64 z] w (BodyPost w R (.slice oa l.length cap) i (bodyR 3 z (l.drop i))) := by
  have hR := hr.lt
  have hr2 := hr.keep ((Below.refl _ w).alloc (Nat.le_refl _) (.cells #[.int .i64 0, .int .i64 0, .int .u64 0, .string ⟨#[]⟩] 68))
  have hb2 := hb.keep ((Below.refl R w).alloc (by omega) (.cells #[.int .i64 0, .int .i64 0, .int .u64 0, .string ⟨#[]⟩] 68))
  by_cases h : i < l.length
  · have hd : l.drop i = l[i] :: l.drop (i + 1) := List.drop_eq_getElem_cons h
    by_cases h1 : l[i].toNat ≤ 1
    · rw [show bodyR 3 z (l.drop i) = some (⟨3, l[i].toNat, 0, ⟨#[]⟩⟩, 1) by rw [hd]; unfold bodyR; simp [h1]]
      have HC := Lib.hid (cbit_yes R oa cap i l _ hr2 hb2 hn hc h h1)
      show Calls _ _ _ _ (Got _ _ _ _ _)
      simp only [Vl.val]
      have hm : (l[i].toNat : Int) ≤ 1 := by omega
      generalize l[i].toNat = m at HC hm ⊢
      clear h h1 hd
      clear hr hb hr2 hb2
      go_enter Tryz.func96, Tryz.ntmps96
      go_wp2_with fail
      refine HC.out.mono ?_
      rintro e w1 ⟨rfl, hrd, hg⟩
      have HG := Lib.hid ((World.grownBy_alloc w _ _).trans hg)
      obtain ⟨c0, c1, c2, c3, f⟩ := resC hR hg
      have f0 := f 0
      have f1 := f 1
      have f2 := f 2
      have f3 := f 3
      have HR := Lib.hid hrd
      clear hg hrd f
      go_wp2_with fail
      exact bodyPost_ret (v := .agg #[.int .i64 3, .int .i64 (m : Int), .int .u64 0, .string ⟨#[]⟩]) (by simp [results, Tryz.results96, go_sem, c0, c1, c2, c3]) rfl ⟨rfl, (((HR.out.set (by omega)).set (by omega)).set (by omega)).set (by omega), grown_set (grown_set (grown_set (grown_set HG.out (Nat.le_refl _)) (Nat.le_refl _)) (Nat.le_refl _)) (Nat.le_refl _)⟩
    · rw [show bodyR 3 z (l.drop i) = none by rw [hd]; unfold bodyR; simp; omega]
      have HC := Lib.hid (cbit_big R oa cap i l _ hr2 hb2 hn hc h (by omega))
      show Calls _ _ _ _ (Gone _ _)
      clear h h1 hd
      clear hr hb hr2 hb2
      go_enter Tryz.func96, Tryz.ntmps96
      go_wp2_with fail
      refine HC.out.mono ?_
      rintro e w1 ⟨⟨s, rfl, hth⟩, hg⟩
      exact ⟨rfl, ⟨_, rfl, hth⟩, (World.grownBy_alloc w _ _).trans hg⟩
  · obtain rfl : i = l.length := by omega
    rw [show bodyR 3 z (l.drop l.length) = none by rw [List.drop_length]; rfl]
    have HC := Lib.hid (cbit_end R oa l.length cap _ hr2 hn)
    show Calls _ _ _ _ (Gone _ _)
    clear h
    clear hr hb hr2 hb2
    go_enter Tryz.func96, Tryz.ntmps96
    go_wp2_with fail
    refine HC.out.mono ?_
    rintro e w1 ⟨⟨s, rfl, hth⟩, hg⟩
    exact ⟨rfl, ⟨_, rfl, hth⟩, (World.grownBy_alloc w _ _).trans hg⟩
set_option maxRecDepth 100000 in
set_option maxHeartbeats 1000000 in
theorem cread4 (z : Int) (R : Nat) (oa : Option Addr) (cap i : Nat) (l : List UInt8) (w : World) (hr : Rd w R (.slice oa l.length cap) i) (hb : BelowAt w R oa l) (hn : l.length ≤ 1000000) (hc : l.length ≤ cap) (hi : i ≤ l.length) :
    Calls Tryz.prog 99 #[.pointer (some ⟨R, 0, none⟩), .int .i64 z] w (BodyPost w R (.slice oa l.length cap) i (bodyR 4 z (l.drop i))) := by
  have hR := hr.lt
  have hr2 := hr.keep ((Below.refl _ w).alloc (Nat.le_refl _) (.cells #[.int .i64 0, .int .i64 0, .int .u64 0, .string ⟨#[]⟩] 68))
  have hb2 := hb.keep ((Below.refl R w).alloc (by omega) (.cells #[.int .i64 0, .int .i64 0, .int .u64 0, .string ⟨#[]⟩] 68))
  cases ht : readT (l.drop i) with
  | none =>
    rw [show bodyR 4 z (l.drop i) = none by unfold bodyR; simp [ht]]
    have HC := Lib.hid (ctext_none R oa cap i l z _ hr2 hb2 hn hc hi ht)
    show Calls _ _ _ _ (Gone _ _)
    clear ht
    clear hr hb hr2 hb2
    go_enter Tryz.func99, Tryz.ntmps99
    go_wp2_with fail
    refine HC.out.mono ?_
    rintro e w1 ⟨⟨s, rfl, hth⟩, hg⟩
    exact ⟨rfl, ⟨_, rfl, hth⟩, (World.grownBy_alloc w _ _).trans hg⟩
  | some x =>
    obtain ⟨s, k⟩ := x
    by_cases h : (s.length : Int) ≤ z
    · rw [show bodyR 4 z (l.drop i) = some (⟨4, 0, 0, ⟨s.toArray⟩⟩, k) by unfold bodyR; simp [ht, h]]
      have HC := Lib.hid (ctext_yes R oa cap i l z s k _ hr2 hb2 hn hc hi ht h)
      show Calls _ _ _ _ (Got _ _ _ _ _)
      simp only [Vl.val]
      generalize (⟨s.toArray⟩ : ByteArray) = m at HC ⊢
      clear h ht
      clear hr hb hr2 hb2
      go_enter Tryz.func99, Tryz.ntmps99
      go_wp2_with fail
      refine HC.out.mono ?_
      rintro e w1 ⟨rfl, hrd, hg⟩
      have HG := Lib.hid ((World.grownBy_alloc w _ _).trans hg)
      obtain ⟨c0, c1, c2, c3, f⟩ := resC hR hg
      have f0 := f 0
      have f1 := f 1
      have f2 := f 2
      have f3 := f 3
      have HR := Lib.hid hrd
      clear hg hrd f
      go_wp2_with fail
      exact bodyPost_ret (v := .agg #[.int .i64 4, .int .i64 0, .int .u64 0, .string m]) (by simp [results, Tryz.results99, go_sem, c0, c1, c2, c3]) rfl ⟨rfl, (((HR.out.set (by omega)).set (by omega)).set (by omega)).set (by omega), grown_set (grown_set (grown_set (grown_set HG.out (Nat.le_refl _)) (Nat.le_refl _)) (Nat.le_refl _)) (Nat.le_refl _)⟩
    · rw [show bodyR 4 z (l.drop i) = none by unfold bodyR; simp [ht]; omega]
      have HC := Lib.hid (ctext_long R oa cap i l z s k _ hr2 hb2 hn hc hi ht (by omega))
      show Calls _ _ _ _ (Gone _ _)
      clear h ht
      clear hr hb hr2 hb2
      go_enter Tryz.func99, Tryz.ntmps99
      go_wp2_with fail
      refine HC.out.mono ?_
      rintro e w1 ⟨⟨s, rfl, hth⟩, hg⟩
      exact ⟨rfl, ⟨_, rfl, hth⟩, (World.grownBy_alloc w _ _).trans hg⟩
end Go.Proofs.YtocmjlnhcloccaaGreatDoor
