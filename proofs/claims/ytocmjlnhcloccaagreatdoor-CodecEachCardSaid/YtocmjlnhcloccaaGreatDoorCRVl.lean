/-
  swingbridgeref04.value, Read, Decode.
-/
import Derived.Test.YtocmjlnhcloccaaGreatDoorCEnc
import Derived.Test.YtocmjlnhcloccaaGreatDoorCLawHolds
import Derived.Test.YtocmjlnhcloccaaGreatDoorSSch
import Derived.Deep.RegionHeld3
import Derived.Deep.RegionWith
namespace Go.Proofs.YtocmjlnhcloccaaGreatDoor
open Go.RowKit

def rvV : Option (Vl × Nat) → Vl
  | some x => x.1
  | none => val0
def rvN : Option (Vl × Nat) → Nat
  | some x => x.2
  | none => 0
def RVPost (o : Option (Vl × Nat)) (w : World) (e : Ending) (w' : World) : Prop := e = .returned (.tuple #[(rvV o).val, .int .i64 (rvN o)]) ∧ Below w.heap.size w w'


set_option maxRecDepth 100000 in
set_option maxHeartbeats 1000000 in
theorem rval_nil (c : Col) (oa : Option Addr) (cap : Nat) (w : World) :
    Calls Tryz.prog 39 #[.agg #[.string c.n, .int .i64 c.t, .int .i64 c.z, .bool c.u], .slice oa 0 cap] w (RVPost none w) := by
  go_enter Tryz.func39, Tryz.ntmps39
  go_wp2_with fail
  refine bodyPost_ret (v := .tuple #[.agg #[.int .i64 0, .int .i64 0, .int .u64 0, .string ⟨#[]⟩], .int .i64 0]) (by simp [results, Tryz.results39, go_sem]) rfl ⟨rfl, by ((repeat refine Below.set ?_ (by simp)); exact ((Below.refl _ _).alloc (Nat.le_refl _) _).alloc (by simp) _)⟩

set_option maxRecDepth 100000 in
set_option maxHeartbeats 1000000 in
theorem rval_null (c : Col) (a : Addr) (cap n : Nat) (w : World) (hn : n ≤ 1000000) (h0 : w.cell? a = some (.int .u8 0)) :
    Calls Tryz.prog 39 #[.agg #[.string c.n, .int .i64 c.t, .int .i64 c.z, .bool c.u], .slice (some a) (n + 1 : Nat) cap] w (RVPost (if c.u = true then some (val0, 1) else none) w) := by
  obtain ⟨cn, ct, cz, cu⟩ := c
  have hz : (((n : Int) + 1) == 0) = false := by rw [beq_eq_false_iff_ne]; omega
  have hb : (0 : Int) < (n : Int) + 1 := by omega
  have hal : a.block < w.heap.size := World.block_lt_of_cell? w _ h0
  cases cu
  · go_enter Tryz.func39, Tryz.ntmps39
    go_wp2_with fail
    refine bodyPost_ret (v := .tuple #[.agg #[.int .i64 0, .int .i64 0, .int .u64 0, .string ⟨#[]⟩], .int .i64 0]) (by simp [results, Tryz.results39, go_sem]) rfl ⟨rfl, by ((repeat refine Below.set ?_ (by simp)); exact ((Below.refl _ _).alloc (Nat.le_refl _) _).alloc (by simp) _)⟩
  · go_enter Tryz.func39, Tryz.ntmps39
    go_wp2_with fail
    go_wp2_with fail
    refine bodyPost_ret (v := .tuple #[.agg #[.int .i64 0, .int .i64 0, .int .u64 0, .string ⟨#[]⟩], .int .i64 1]) (by simp [results, Tryz.results39, go_sem]) rfl ⟨rfl, by ((repeat refine Below.set ?_ (by simp)); exact ((Below.refl _ _).alloc (Nat.le_refl _) _).alloc (by simp) _)⟩

set_option maxRecDepth 100000 in
set_option maxHeartbeats 1000000 in
theorem rval_big (c : Col) (a : Addr) (cap n : Nat) (b : Int) (w : World) (hn : n ≤ 1000000) (h1 : 1 < b) (h0 : w.cell? a = some (.int .u8 b)) :
    Calls Tryz.prog 39 #[.agg #[.string c.n, .int .i64 c.t, .int .i64 c.z, .bool c.u], .slice (some a) (n + 1 : Nat) cap] w (RVPost none w) := by
  have hz : (((n : Int) + 1) == 0) = false := by rw [beq_eq_false_iff_ne]; omega
  have hb : (0 : Int) < (n : Int) + 1 := by omega
  have hal : a.block < w.heap.size := World.block_lt_of_cell? w _ h0
  go_enter Tryz.func39, Tryz.ntmps39
  go_wp2_with fail
  refine bodyPost_ret (v := .tuple #[.agg #[.int .i64 0, .int .i64 0, .int .u64 0, .string ⟨#[]⟩], .int .i64 0]) (by simp [results, Tryz.results39, go_sem]) rfl ⟨rfl, by ((repeat refine Below.set ?_ (by simp)); exact ((Below.refl _ _).alloc (Nat.le_refl _) _).alloc (by simp) _)⟩

set_option maxRecDepth 100000 in
set_option maxHeartbeats 2000000 in
theorem rval_b (cn : ByteArray) (z : Int) (u : Bool) (a : Addr) (cap : Nat) (l : List UInt8) (w : World) (hn : l.length ≤ 1000000) (h0 : w.cell? a = some (.int .u8 1)) (hc : l.length + 1 ≤ cap) (hcell : ∀ (j : Nat) (h : j < l.length), w.cell? (a.add (1 + j)) = some (.int .u8 l[j].toNat)) :
    Calls Tryz.prog 39 #[.agg #[.string cn, .int .i64 3, .int .i64 z, .bool u], .slice (some a) (l.length + 1 : Nat) cap] w (RVPost (readVal ⟨cn, 3, z, u⟩ (1 :: l)) w) := by
  have hz : (((l.length : Int) + 1) == 0) = false := by rw [beq_eq_false_iff_ne]; omega
  have hb : (0 : Int) < (l.length : Int) + 1 := by omega
  have hc1 : (1 : Int) ≤ (l.length : Int) + 1 := by omega
  have hal : a.block < w.heap.size := World.block_lt_of_cell? w _ h0
  cases l with
  | nil =>
    rw [show readVal ⟨cn, 3, z, u⟩ [1] = none by simp [readVal]]
    by_cases hcap : cap = 1
    · subst hcap
      clear hcell
      cases u
      all_goals
        go_enter Tryz.func39, Tryz.ntmps39
        go_wp2_with fail
        go_wp2_with fail
        refine bodyPost_ret (v := .tuple #[.agg #[.int .i64 0, .int .i64 0, .int .u64 0, .string ⟨#[]⟩], .int .i64 0]) (by simp [results, Tryz.results39, go_sem]) rfl ⟨rfl, by ((repeat refine Below.set ?_ (by simp)); exact ((Below.refl _ _).alloc (Nat.le_refl _) _).alloc (by simp) _)⟩
    · clear hcell
      cases u
      all_goals
        go_enter Tryz.func39, Tryz.ntmps39
        go_wp2_with fail
        go_wp2_with fail
        refine bodyPost_ret (v := .tuple #[.agg #[.int .i64 0, .int .i64 0, .int .u64 0, .string ⟨#[]⟩], .int .i64 0]) (by simp [results, Tryz.results39, go_sem]) rfl ⟨rfl, by ((repeat refine Below.set ?_ (by simp)); exact ((Below.refl _ _).alloc (Nat.le_refl _) _).alloc (by simp) _)⟩
  | cons x l =>
    rw [readVal_b]
    have hx := hcell 0 (by simp)
    rw [show (x :: l)[0] = x from rfl, Addr.add_succ'] at hx
    clear hcell
    have hcap : ¬ cap = 1 := by simp at hc; omega
    simp only [List.length_cons] at *
    have hz2 : (((l.length + 1 : Nat) : Int) == 0) = false := by rw [beq_eq_false_iff_ne]; omega
    have hb2 : (0 : Int) < ((l.length + 1 : Nat) : Int) := by omega
    by_cases h1 : x.toNat ≤ 1
    · rw [if_pos h1]
      have hm : (x.toNat : Int) ≤ 1 := by omega
      have hm2 : ¬ (1 < (x.toNat : Int)) := by omega
      generalize x.toNat = m at *
      cases u
      all_goals
        go_enter Tryz.func39, Tryz.ntmps39
        go_wp2_with fail
        go_wp2_with fail
        refine bodyPost_ret (v := .tuple #[.agg #[.int .i64 3, .int .i64 (m : Int), .int .u64 0, .string ⟨#[]⟩], .int .i64 2]) (by simp [results, Tryz.results39, go_sem]) rfl ⟨rfl, by ((repeat refine Below.set ?_ (by simp)); exact ((Below.refl _ _).alloc (Nat.le_refl _) _).alloc (by simp) _)⟩
    · rw [if_neg h1]
      have hm : 1 < (x.toNat : Int) := by omega
      generalize x.toNat = m at *
      cases u
      all_goals
        go_enter Tryz.func39, Tryz.ntmps39
        go_wp2_with fail
        go_wp2_with fail
        refine bodyPost_ret (v := .tuple #[.agg #[.int .i64 0, .int .i64 0, .int .u64 0, .string ⟨#[]⟩], .int .i64 0]) (by simp [results, Tryz.results39, go_sem]) rfl ⟨rfl, by ((repeat refine Below.set ?_ (by simp)); exact ((Below.refl _ _).alloc (Nat.le_refl _) _).alloc (by simp) _)⟩

theorem rt_bd (l : List UInt8) (hn : l.length ≤ 1000000) : (rtK (readT l) : Int) ≤ 1000000 ∧ ((rtS (readT l)).size : Int) ≤ 1000000 := by
  unfold readT
  cases hr : readN l with
  | none => exact ⟨by simp [rtK], by simp [rtS, ByteArray.size]⟩
  | some x =>
    obtain ⟨n, k⟩ := x
    simp only
    split
    · rename_i h
      refine ⟨by simp only [rtK]; omega, ?_⟩
      show ((((l.drop k).take n).toArray.size : Nat) : Int) ≤ _
      rw [List.size_toArray, List.length_take, List.length_drop]; omega
    · exact ⟨by simp [rtK], by simp [rtS, ByteArray.size]⟩
end Go.Proofs.YtocmjlnhcloccaaGreatDoor
namespace Go.Proofs.YtocmjlnhcloccaaGreatDoor
open Go.RowKit

set_option maxRecDepth 100000 in
set_option maxHeartbeats 2000000 in
theorem rval_s (cn : ByteArray) (z : Int) (u : Bool) (a : Addr) (cap : Nat) (l : List UInt8) (w : World) (hn : l.length ≤ 1000000) (h0 : w.cell? a = some (.int .u8 1)) (ob : Option Addr) (hob : ob = if cap = 1 then some a else some (a.add 1)) (hb : ∀ W, Below w.heap.size w W → BytesAt W (.slice ob l.length (cap - 1)) l) (hc : l.length + 1 ≤ cap) :
    Calls Tryz.prog 39 #[.agg #[.string cn, .int .i64 4, .int .i64 z, .bool u], .slice (some a) (l.length + 1 : Nat) cap] w (RVPost (readVal ⟨cn, 4, z, u⟩ (1 :: l)) w) := by
  have hz : (((l.length : Int) + 1) == 0) = false := by rw [beq_eq_false_iff_ne]; omega
  have hb0 : (0 : Int) < (l.length : Int) + 1 := by omega
  have hc1 : (1 : Int) ≤ (l.length : Int) + 1 := by omega
  have hal : a.block < w.heap.size := World.block_lt_of_cell? w _ h0
  have HT := Lib.hid (fun W (h : Below w.heap.size w W) => rReadText_any _ l W (hb W h) hn)
  rw [readVal_s]
  simp only [rtRes_eq] at HT
  have hk := rt_bd l hn
  have hk1 := hk.1
  have hk2 := hk.2
  cases ho : readT l with
  | none =>
    simp only [ho, rtS, rtK, rtE] at HT hk1 hk2 ⊢
    clear hb hk ho
    by_cases hcap : cap = 1
    · rw [if_pos hcap] at hob
      obtain rfl : l = [] := List.eq_nil_of_length_eq_zero (by omega)
      subst hob hcap
      simp only [List.length_nil] at *
      cases u
      all_goals
        go_enter Tryz.func39, Tryz.ntmps39
        go_wp2_with (first | (go_at_call 55; refine (HT.out _ (((Below.refl _ _).alloc (Nat.le_refl _) _).alloc (by simp) _)).mono ?_; rintro e w' ⟨rfl, rfl⟩))
        go_wp2_with (first | (go_at_call 55; refine (HT.out _ (((Below.refl _ _).alloc (Nat.le_refl _) _).alloc (by simp) _)).mono ?_; rintro e w' ⟨rfl, rfl⟩))
        refine bodyPost_ret (v := .tuple #[.agg #[.int .i64 0, .int .i64 0, .int .u64 0, .string ⟨#[]⟩], .int .i64 0]) (by simp [results, Tryz.results39, go_sem]) rfl ⟨rfl, by ((repeat refine Below.set ?_ (by simp)); exact ((Below.refl _ _).alloc (Nat.le_refl _) _).alloc (by simp) _)⟩
    · rw [if_neg hcap] at hob
      subst hob
      cases u
      all_goals
        go_enter Tryz.func39, Tryz.ntmps39
        go_wp2_with (first | (go_at_call 55; refine (HT.out _ (((Below.refl _ _).alloc (Nat.le_refl _) _).alloc (by simp) _)).mono ?_; rintro e w' ⟨rfl, rfl⟩))
        go_wp2_with (first | (go_at_call 55; refine (HT.out _ (((Below.refl _ _).alloc (Nat.le_refl _) _).alloc (by simp) _)).mono ?_; rintro e w' ⟨rfl, rfl⟩))
        refine bodyPost_ret (v := .tuple #[.agg #[.int .i64 0, .int .i64 0, .int .u64 0, .string ⟨#[]⟩], .int .i64 0]) (by simp [results, Tryz.results39, go_sem]) rfl ⟨rfl, by ((repeat refine Below.set ?_ (by simp)); exact ((Below.refl _ _).alloc (Nat.le_refl _) _).alloc (by simp) _)⟩
  | some x =>
    obtain ⟨s, k⟩ := x
    have hne : l ≠ [] := fun e => by rw [e] at ho; cases ho
    have hcap : ¬ cap = 1 := fun e => hne (List.eq_nil_of_length_eq_zero (by omega))
    rw [if_neg hcap] at hob
    simp only [ho, rtS, rtK, rtE] at HT hk1 hk2 ⊢
    have hss : (s.length : Int) = ((⟨s.toArray⟩ : ByteArray).size : Int) := by rw [show (⟨s.toArray⟩ : ByteArray).size = s.toArray.size from rfl, List.size_toArray]
    rw [hss]
    generalize (⟨s.toArray⟩ : ByteArray) = S at *
    subst hob
    clear hb hk ho hss hne
    by_cases hfit : (S.size : Int) ≤ z
    · rw [if_pos hfit]
      have hfit2 : decide (z < (S.size : Int)) = false := by simpa using hfit
      cases u
      all_goals
        go_enter Tryz.func39, Tryz.ntmps39
        go_wp2_with (first | (go_at_call 55; refine (HT.out _ (((Below.refl _ _).alloc (Nat.le_refl _) _).alloc (by simp) _)).mono ?_; rintro e w' ⟨rfl, rfl⟩))
        go_wp2_with (first | (go_at_call 55; refine (HT.out _ (((Below.refl _ _).alloc (Nat.le_refl _) _).alloc (by simp) _)).mono ?_; rintro e w' ⟨rfl, rfl⟩))
        refine bodyPost_ret (v := .tuple #[.agg #[.int .i64 4, .int .i64 0, .int .u64 0, .string S], .int .i64 (1 + k : Nat)]) (by simp [results, Tryz.results39, go_sem]) rfl ⟨rfl, by ((repeat refine Below.set ?_ (by simp)); exact ((Below.refl _ _).alloc (Nat.le_refl _) _).alloc (by simp) _)⟩
    · rw [if_neg hfit]
      have hfit2 : decide (z < (S.size : Int)) = true := by simpa using hfit
      cases u
      all_goals
        go_enter Tryz.func39, Tryz.ntmps39
        go_wp2_with (first | (go_at_call 55; refine (HT.out _ (((Below.refl _ _).alloc (Nat.le_refl _) _).alloc (by simp) _)).mono ?_; rintro e w' ⟨rfl, rfl⟩))
        go_wp2_with (first | (go_at_call 55; refine (HT.out _ (((Below.refl _ _).alloc (Nat.le_refl _) _).alloc (by simp) _)).mono ?_; rintro e w' ⟨rfl, rfl⟩))
        refine bodyPost_ret (v := .tuple #[.agg #[.int .i64 0, .int .i64 0, .int .u64 0, .string ⟨#[]⟩], .int .i64 0]) (by simp [results, Tryz.results39, go_sem]) rfl ⟨rfl, by ((repeat refine Below.set ?_ (by simp)); exact ((Below.refl _ _).alloc (Nat.le_refl _) _).alloc (by simp) _)⟩
end Go.Proofs.YtocmjlnhcloccaaGreatDoor
namespace Go.Proofs.YtocmjlnhcloccaaGreatDoor
open Go.RowKit

theorem valOf_ge : ∀ (l : List UInt8) (a : Nat), a * 256 ^ l.length ≤ valOf l a
  | [], a => by simp [valOf]
  | x :: l, a => by
    have h := valOf_ge l (a * 256 + x.toNat)
    show _ ≤ valOf l (a * 256 + x.toNat)
    rw [List.length_cons, Nat.pow_succ]
    refine Nat.le_trans ?_ h
    rw [show a * (256 ^ l.length * 256) = (a * 256) * 256 ^ l.length by rw [Nat.mul_comm (256 ^ l.length) 256, Nat.mul_assoc]]
    exact Nat.mul_le_mul_right _ (by omega)
theorem sgn_first {z : Int} {x : UInt8} {l : List UInt8} (hz : z = 1 ∨ z = 2 ∨ z = 4) (hl : z.toNat ≤ l.length + 1) :
    sgnI z (valOf ((x :: l).take z.toNat) 0) = if 128 ≤ x.toNat then ((valOf ((x :: l).take z.toNat) 0 : Nat) : Int) - 256 ^ z.toNat else (valOf ((x :: l).take z.toNat) 0 : Nat) := by
  have hx := x.toNat_lt
  obtain ⟨k, hk⟩ : ∃ k, z.toNat = k + 1 := ⟨z.toNat - 1, by omega⟩
  have hv : valOf ((x :: l).take (k + 1)) 0 = valOf (l.take k) x.toNat := by rw [List.take_succ_cons]; simp [valOf]
  have h1 := valOf_lt (l.take k) x.toNat
  have hlen : (l.take k).length = k := by rw [List.length_take]; omega
  have h2 : x.toNat * 256 ^ k ≤ valOf (l.take k) x.toNat := by
    have := valOf_ge (l.take k) x.toNat
    rwa [hlen] at this
  rw [hlen] at h1
  rw [hk, hv]
  generalize valOf (l.take k) x.toNat = n at *
  generalize x.toNat = m at *
  unfold sgnI
  rcases hz with rfl | rfl | rfl
  · obtain rfl : k = 0 := by simpa using hk.symm
    simp only [mostI, mostU]; simp at h1 h2 ⊢; split <;> split <;> omega
  · obtain rfl : k = 1 := by simpa using hk.symm
    simp only [mostI, mostU]; simp at h1 h2 ⊢; split <;> split <;> omega
  · obtain rfl : k = 3 := by simpa using hk.symm
    simp only [mostI, mostU]; simp at h1 h2 ⊢; split <;> split <;> omega
end Go.Proofs.YtocmjlnhcloccaaGreatDoor
namespace Go.Proofs.YtocmjlnhcloccaaGreatDoor
open Go.RowKit


set_option maxRecDepth 100000 in
set_option maxHeartbeats 4000000 in
theorem rval_u (cn : ByteArray) (z : Int) (u : Bool) (a : Addr) (c : Nat) (l : List UInt8) (w : World) (hz : z = 1 ∨ z = 2 ∨ z = 4 ∨ z = 8) (hn : l.length ≤ 1000000) (h0 : w.cell? a = some (.int .u8 1)) (hb : ∀ W, Below w.heap.size w W → l ≠ [] → BytesAt W (.slice (some (a.add 1)) l.length c) l) (hc : l.length ≤ c) :
    Calls Tryz.prog 39 #[.agg #[.string cn, .int .i64 2, .int .i64 z, .bool u], .slice (some a) (l.length + 1 : Nat) (c + 1)] w (RVPost (readVal ⟨cn, 2, z, u⟩ (1 :: l)) w) := by
  have hz0 : (((l.length : Int) + 1) == 0) = false := by rw [beq_eq_false_iff_ne]; omega
  have hb0 : (0 : Int) < (l.length : Int) + 1 := by omega
  have hc1 : (1 : Int) ≤ (l.length : Int) + 1 := by omega
  have hal : a.block < w.heap.size := World.block_lt_of_cell? w _ h0
  rw [readVal_u]
  by_cases hfit : z.toNat ≤ l.length
  · rw [if_pos hfit]
    have hne : l ≠ [] := fun e => by subst e; simp at hfit; omega
    have HF : Hid (∀ W, Below w.heap.size w W → Calls Tryz.prog 71 #[.slice (some (a.add 1)) z.toNat c] W fun e w' => e = .returned (.tuple #[.int .u64 (valOf (l.take z.toNat) 0 : Nat), .int .i64 0]) ∧ W = w') := Lib.hid (fun W h => by
      have hl : (l.take z.toNat).length = z.toNat := by rw [List.length_take]; omega
      have := rReadFixed_any _ (l.take z.toNat) W ((hb W h hne).front hfit) (by omega)
      rwa [if_pos (by rw [hl]; omega)] at this)
    generalize valOf (l.take z.toNat) 0 = N at *
    have hc0 : ¬ c = 0 := fun e => hne (List.eq_nil_of_length_eq_zero (by omega))
    have hd : decide ((l.length : Int) < z) = false := by simp; omega
    have hzc : z ≤ (c : Int) := by omega
    clear hne hb
    rw [Addr.add_succ'] at HF
    rcases hz with rfl | rfl | rfl | rfl
    all_goals
      clear hfit
      cases u
      all_goals
        go_enter Tryz.func39, Tryz.ntmps39
        go_wp2_with (first | (go_at_call 71; refine (HF.out _ (((Below.refl _ _).alloc (Nat.le_refl _) _).alloc (by simp) _)).mono ?_; rintro e w' ⟨rfl, rfl⟩))
        go_wp2_with (first | (go_at_call 71; refine (HF.out _ (((Below.refl _ _).alloc (Nat.le_refl _) _).alloc (by simp) _)).mono ?_; rintro e w' ⟨rfl, rfl⟩))
        go_region
        all_goals
          go_wp2_with fail
          first
            | refine bodyPost_ret (v := .tuple #[.agg #[.int .i64 2, .int .i64 0, .int .u64 (N : Int), .string ⟨#[]⟩], .int .i64 2]) (by simp [results, Tryz.results39, go_sem]) rfl ⟨rfl, by (refine Below.drew ?_; exact ((Below.refl _ _).alloc (Nat.le_refl _) _).alloc (by simp) _)⟩
            | refine bodyPost_ret (v := .tuple #[.agg #[.int .i64 2, .int .i64 0, .int .u64 (N : Int), .string ⟨#[]⟩], .int .i64 3]) (by simp [results, Tryz.results39, go_sem]) rfl ⟨rfl, by (refine Below.drew ?_; exact ((Below.refl _ _).alloc (Nat.le_refl _) _).alloc (by simp) _)⟩
            | refine bodyPost_ret (v := .tuple #[.agg #[.int .i64 2, .int .i64 0, .int .u64 (N : Int), .string ⟨#[]⟩], .int .i64 5]) (by simp [results, Tryz.results39, go_sem]) rfl ⟨rfl, by (refine Below.drew ?_; exact ((Below.refl _ _).alloc (Nat.le_refl _) _).alloc (by simp) _)⟩
            | refine bodyPost_ret (v := .tuple #[.agg #[.int .i64 2, .int .i64 0, .int .u64 (N : Int), .string ⟨#[]⟩], .int .i64 9]) (by simp [results, Tryz.results39, go_sem]) rfl ⟨rfl, by (refine Below.drew ?_; exact ((Below.refl _ _).alloc (Nat.le_refl _) _).alloc (by simp) _)⟩
  · rw [if_neg hfit]
    have hd : decide ((l.length : Int) < z) = true := by simp; omega
    clear hb
    by_cases hc0 : c = 0
    · subst hc0
      obtain rfl : l = [] := List.eq_nil_of_length_eq_zero (by omega)
      simp only [List.length_nil] at *
      clear hfit
      have hzp : (0 : Int) < z := by omega
      clear hz
      cases u
      all_goals
        go_enter Tryz.func39, Tryz.ntmps39
        go_wp2_with fail
        go_wp2_with fail
        refine bodyPost_ret (v := .tuple #[.agg #[.int .i64 0, .int .i64 0, .int .u64 0, .string ⟨#[]⟩], .int .i64 0]) (by simp [results, Tryz.results39, go_sem]) rfl ⟨rfl, by ((repeat refine Below.set ?_ (by simp)); exact ((Below.refl _ _).alloc (Nat.le_refl _) _).alloc (by simp) _)⟩
    · clear hfit hz
      cases u
      all_goals
        go_enter Tryz.func39, Tryz.ntmps39
        go_wp2_with fail
        go_wp2_with fail
        refine bodyPost_ret (v := .tuple #[.agg #[.int .i64 0, .int .i64 0, .int .u64 0, .string ⟨#[]⟩], .int .i64 0]) (by simp [results, Tryz.results39, go_sem]) rfl ⟨rfl, by ((repeat refine Below.set ?_ (by simp)); exact ((Below.refl _ _).alloc (Nat.le_refl _) _).alloc (by simp) _)⟩
end Go.Proofs.YtocmjlnhcloccaaGreatDoor
namespace Go.Proofs.YtocmjlnhcloccaaGreatDoor
open Go.RowKit


set_option maxRecDepth 100000 in
set_option maxHeartbeats 4000000 in
theorem rval_i (cn : ByteArray) (z : Int) (u : Bool) (a : Addr) (c : Nat) (l : List UInt8) (w : World) (hz : z = 1 ∨ z = 2 ∨ z = 4) (hn : l.length ≤ 1000000) (h0 : w.cell? a = some (.int .u8 1)) (hb : ∀ W, Below w.heap.size w W → l ≠ [] → BytesAt W (.slice (some (a.add 1)) l.length c) l) (hc : l.length ≤ c) (hfit : z.toNat ≤ l.length) (hcell : ∀ (j : Nat) (h : j < l.length), w.cell? (a.add (1 + j)) = some (.int .u8 l[j].toNat)) :
    Calls Tryz.prog 39 #[.agg #[.string cn, .int .i64 1, .int .i64 z, .bool u], .slice (some a) (l.length + 1 : Nat) (c + 1)] w (RVPost (readVal ⟨cn, 1, z, u⟩ (1 :: l)) w) := by
  have hz0 : (((l.length : Int) + 1) == 0) = false := by rw [beq_eq_false_iff_ne]; omega
  have hb0 : (0 : Int) < (l.length : Int) + 1 := by omega
  have hc1 : (1 : Int) ≤ (l.length : Int) + 1 := by omega
  have hal : a.block < w.heap.size := World.block_lt_of_cell? w _ h0
  rw [readVal_i, if_pos hfit]
  have hne : l ≠ [] := fun e => by subst e; simp at hfit; omega
  have HF : Hid (∀ W, Below w.heap.size w W → Calls Tryz.prog 71 #[.slice (some (a.add 1)) z.toNat c] W fun e w' => e = .returned (.tuple #[.int .u64 (valOf (l.take z.toNat) 0 : Nat), .int .i64 0]) ∧ W = w') := Lib.hid (fun W h => by
    have hl : (l.take z.toNat).length = z.toNat := by rw [List.length_take]; omega
    have := rReadFixed_any _ (l.take z.toNat) W ((hb W h hne).front hfit) (by omega)
    rwa [if_pos (by rw [hl]; omega)] at this)
  have hx := hcell 0 (by omega)
  clear hcell
  obtain ⟨x, r, rfl⟩ : ∃ x r, l = x :: r := by
    cases l with
    | nil => exact absurd rfl hne
    | cons x r => exact ⟨x, r, rfl⟩
  rw [sgn_first hz (by simp at hfit; omega)]
  have hlt := valOf_lt ((x :: r).take z.toNat) 0
  rw [show ((x :: r).take z.toNat).length = z.toNat by rw [List.length_take]; omega] at hlt
  rw [show (x :: r)[0] = x from rfl, Addr.add_succ'] at hx
  have hx2 := x.toNat_lt
  have hll : 0 < (x :: r).length := by simp
  generalize valOf ((x :: r).take z.toNat) 0 = N at *
  generalize (x :: r).length = L at *
  generalize x.toNat = m at *
  have hc0 : ¬ c = 0 := by omega
  have hd : decide ((L : Int) < z) = false := by simp; omega
  have hzc : z ≤ (c : Int) := by omega
  have hL0 : (0 : Int) < (L : Int) := by omega
  clear hne hb
  rw [Addr.add_succ'] at HF
  have hN : (N : Int) ≤ 9223372036854775807 := by rcases hz with rfl | rfl | rfl <;> simp at hlt <;> omega
  rcases hz with rfl | rfl | rfl
  all_goals
    clear hfit hlt
    by_cases hm : 128 ≤ m
    all_goals
      first
        | rw [if_pos hm]
        | rw [if_neg hm]
      have hmd : decide (128 ≤ (m : Int)) = decide (128 ≤ m) := by simp; omega
      simp only [hm, decide_true, decide_false] at hmd
      cases u
      all_goals
        go_enter Tryz.func39, Tryz.ntmps39
        go_wp2_with (first | (go_at_call 71; refine (HF.out _ (((Below.refl _ _).alloc (Nat.le_refl _) _).alloc (by simp) _)).mono ?_; rintro e w' ⟨rfl, rfl⟩))
        go_wp2_with (first | (go_at_call 71; refine (HF.out _ (((Below.refl _ _).alloc (Nat.le_refl _) _).alloc (by simp) _)).mono ?_; rintro e w' ⟨rfl, rfl⟩))
        go_region
        all_goals
          go_wp2_with fail
          first
            | refine bodyPost_ret (v := .tuple #[.agg #[.int .i64 1, .int .i64 ((N : Int) - 256), .int .u64 0, .string ⟨#[]⟩], .int .i64 2]) (by simp [results, Tryz.results39, go_sem]) rfl ⟨rfl, by (refine Below.drew ?_; exact ((Below.refl _ _).alloc (Nat.le_refl _) _).alloc (by simp) _)⟩
            | refine bodyPost_ret (v := .tuple #[.agg #[.int .i64 1, .int .i64 ((N : Int) - 65536), .int .u64 0, .string ⟨#[]⟩], .int .i64 3]) (by simp [results, Tryz.results39, go_sem]) rfl ⟨rfl, by (refine Below.drew ?_; exact ((Below.refl _ _).alloc (Nat.le_refl _) _).alloc (by simp) _)⟩
            | refine bodyPost_ret (v := .tuple #[.agg #[.int .i64 1, .int .i64 ((N : Int) - 4294967296), .int .u64 0, .string ⟨#[]⟩], .int .i64 5]) (by simp [results, Tryz.results39, go_sem]) rfl ⟨rfl, by (refine Below.drew ?_; exact ((Below.refl _ _).alloc (Nat.le_refl _) _).alloc (by simp) _)⟩
            | refine bodyPost_ret (v := .tuple #[.agg #[.int .i64 1, .int .i64 (N : Int), .int .u64 0, .string ⟨#[]⟩], .int .i64 2]) (by simp [results, Tryz.results39, go_sem]) rfl ⟨rfl, by (refine Below.drew ?_; exact ((Below.refl _ _).alloc (Nat.le_refl _) _).alloc (by simp) _)⟩
            | refine bodyPost_ret (v := .tuple #[.agg #[.int .i64 1, .int .i64 (N : Int), .int .u64 0, .string ⟨#[]⟩], .int .i64 3]) (by simp [results, Tryz.results39, go_sem]) rfl ⟨rfl, by (refine Below.drew ?_; exact ((Below.refl _ _).alloc (Nat.le_refl _) _).alloc (by simp) _)⟩
            | refine bodyPost_ret (v := .tuple #[.agg #[.int .i64 1, .int .i64 (N : Int), .int .u64 0, .string ⟨#[]⟩], .int .i64 5]) (by simp [results, Tryz.results39, go_sem]) rfl ⟨rfl, by (refine Below.drew ?_; exact ((Below.refl _ _).alloc (Nat.le_refl _) _).alloc (by simp) _)⟩
end Go.Proofs.YtocmjlnhcloccaaGreatDoor
namespace Go.Proofs.YtocmjlnhcloccaaGreatDoor
open Go.RowKit


set_option maxRecDepth 100000 in
set_option maxHeartbeats 4000000 in
theorem rval_short (cn : ByteArray) (z : Int) (u : Bool) (a : Addr) (c : Nat) (l : List UInt8) (w : World) (hz : z = 1 ∨ z = 2 ∨ z = 4 ∨ z = 8) (hn : l.length ≤ 1000000) (h0 : w.cell? a = some (.int .u8 1)) (hc : l.length ≤ c) (hfit : ¬ z.toNat ≤ l.length) :
    Calls Tryz.prog 39 #[.agg #[.string cn, .int .i64 1, .int .i64 z, .bool u], .slice (some a) (l.length + 1 : Nat) (c + 1)] w (RVPost (readVal ⟨cn, 1, z, u⟩ (1 :: l)) w) := by
  have hz0 : (((l.length : Int) + 1) == 0) = false := by rw [beq_eq_false_iff_ne]; omega
  have hb0 : (0 : Int) < (l.length : Int) + 1 := by omega
  have hc1 : (1 : Int) ≤ (l.length : Int) + 1 := by omega
  have hal : a.block < w.heap.size := World.block_lt_of_cell? w _ h0
  rw [readVal_i, if_neg hfit]
  have hd : decide ((l.length : Int) < z) = true := by simp; omega
  by_cases hc0 : c = 0
  · subst hc0
    obtain rfl : l = [] := List.eq_nil_of_length_eq_zero (by omega)
    simp only [List.length_nil] at *
    clear hfit
    have hzp : (0 : Int) < z := by omega
    clear hz
    cases u
    all_goals
      go_enter Tryz.func39, Tryz.ntmps39
      go_wp2_with fail
      go_wp2_with fail
      refine bodyPost_ret (v := .tuple #[.agg #[.int .i64 0, .int .i64 0, .int .u64 0, .string ⟨#[]⟩], .int .i64 0]) (by simp [results, Tryz.results39, go_sem]) rfl ⟨rfl, by ((repeat refine Below.set ?_ (by simp)); exact ((Below.refl _ _).alloc (Nat.le_refl _) _).alloc (by simp) _)⟩
  · clear hfit hz
    cases u
    all_goals
      go_enter Tryz.func39, Tryz.ntmps39
      go_wp2_with fail
      go_wp2_with fail
      refine bodyPost_ret (v := .tuple #[.agg #[.int .i64 0, .int .i64 0, .int .u64 0, .string ⟨#[]⟩], .int .i64 0]) (by simp [results, Tryz.results39, go_sem]) rfl ⟨rfl, by ((repeat refine Below.set ?_ (by simp)); exact ((Below.refl _ _).alloc (Nat.le_refl _) _).alloc (by simp) _)⟩

set_option maxRecDepth 100000 in
set_option maxHeartbeats 4000000 in
theorem rval_i8 (cn : ByteArray) (z : Int) (u : Bool) (a : Addr) (c : Nat) (l : List UInt8) (w : World) (hz : z = 8) (hn : l.length ≤ 1000000) (h0 : w.cell? a = some (.int .u8 1)) (hb : ∀ W, Below w.heap.size w W → l ≠ [] → BytesAt W (.slice (some (a.add 1)) l.length c) l) (hc : l.length ≤ c) (hfit : z.toNat ≤ l.length) :
    Calls Tryz.prog 39 #[.agg #[.string cn, .int .i64 1, .int .i64 z, .bool u], .slice (some a) (l.length + 1 : Nat) (c + 1)] w (RVPost (readVal ⟨cn, 1, z, u⟩ (1 :: l)) w) := by
  have hz0 : (((l.length : Int) + 1) == 0) = false := by rw [beq_eq_false_iff_ne]; omega
  have hb0 : (0 : Int) < (l.length : Int) + 1 := by omega
  have hc1 : (1 : Int) ≤ (l.length : Int) + 1 := by omega
  have hal : a.block < w.heap.size := World.block_lt_of_cell? w _ h0
  rw [readVal_i, if_pos hfit]
  have hne : l ≠ [] := fun e => by subst e; simp at hfit; omega
  have HF : Hid (∀ W, Below w.heap.size w W → Calls Tryz.prog 71 #[.slice (some (a.add 1)) z.toNat c] W fun e w' => e = .returned (.tuple #[.int .u64 (valOf (l.take z.toNat) 0 : Nat), .int .i64 0]) ∧ W = w') := Lib.hid (fun W h => by
    have hl : (l.take z.toNat).length = z.toNat := by rw [List.length_take]; omega
    have := rReadFixed_any _ (l.take z.toNat) W ((hb W h hne).front hfit) (by omega)
    rwa [if_pos (by rw [hl]; omega)] at this)
  have hlt := valOf_lt (l.take z.toNat) 0
  rw [show (l.take z.toNat).length = z.toNat by rw [List.length_take]; omega] at hlt
  generalize valOf (l.take z.toNat) 0 = N at *
  have hL : 0 < l.length := by omega
  generalize l.length = L at *
  have hc0 : ¬ c = 0 := by omega
  have hd : decide ((L : Int) < z) = false := by simp; omega
  have hzc : z ≤ (c : Int) := by omega
  have hL0 : (0 : Int) < (L : Int) := by omega
  clear hne hb
  rw [Addr.add_succ'] at HF
  subst hz
  simp at hlt
  clear hfit
  rw [show sgnI 8 N = if (N : Int) ≤ 9223372036854775807 then (N : Int) else N - 18446744073709551616 by unfold sgnI; simp [mostI, mostU]]
  by_cases hN : (N : Int) ≤ 9223372036854775807
  all_goals
    first
      | rw [if_pos hN]
      | rw [if_neg hN]
    have hN2 : (N : Int) < 18446744073709551616 := by omega
    clear hlt
    have hw64 : (N : Int) ≤ 9223372036854775807 ∨ wrap64 (N : Int) = N - 18446744073709551616 := by
      first
        | exact .inl hN
        | (refine .inr ?_; unfold wrap64; (repeat split) <;> omega)
    first
      | have hw65 : (N : Int) ≤ 9223372036854775807 := hN
      | have hw65 : wrap64 (N : Int) = N - 18446744073709551616 := hw64.resolve_left hN
    clear hw64
    cases u
    all_goals
      go_enter Tryz.func39, Tryz.ntmps39
      go_wp2_with (first | (go_at_call 71; refine (HF.out _ (((Below.refl _ _).alloc (Nat.le_refl _) _).alloc (by simp) _)).mono ?_; rintro e w' ⟨rfl, rfl⟩))
      go_wp2_with (first | (go_at_call 71; refine (HF.out _ (((Below.refl _ _).alloc (Nat.le_refl _) _).alloc (by simp) _)).mono ?_; rintro e w' ⟨rfl, rfl⟩))
      go_region
      all_goals
        go_wp2_with fail
        first
          | refine bodyPost_ret (v := .tuple #[.agg #[.int .i64 1, .int .i64 (N : Int), .int .u64 0, .string ⟨#[]⟩], .int .i64 9]) (by simp [results, Tryz.results39, go_sem]) rfl ⟨rfl, by (refine Below.drew ?_; exact ((Below.refl _ _).alloc (Nat.le_refl _) _).alloc (by simp) _)⟩
          | refine bodyPost_ret (v := .tuple #[.agg #[.int .i64 1, .int .i64 ((N : Int) - 18446744073709551616), .int .u64 0, .string ⟨#[]⟩], .int .i64 9]) (by simp [results, Tryz.results39, go_sem]) rfl ⟨rfl, by (refine Below.drew ?_; exact ((Below.refl _ _).alloc (Nat.le_refl _) _).alloc (by simp) _)⟩
end Go.Proofs.YtocmjlnhcloccaaGreatDoor
namespace Go.Proofs.YtocmjlnhcloccaaGreatDoor
open Go.RowKit

theorem u8_one {b : UInt8} (h0 : ¬ b = 0) (h1 : ¬ 1 < b.toNat) : b = 1 := by
  have h : b.toNat ≠ 0 := fun e => h0 (UInt8.toNat_inj.1 e)
  exact UInt8.toNat_inj.1 (by show b.toNat = 1; omega)
theorem readVal_big {c : Col} {b : UInt8} {t : List UInt8} (h : 1 < b.toNat) : readVal c (b :: t) = none := by
  have h0 : b ≠ 0 := fun e => by subst e; simp at h
  have h1 : b ≠ 1 := fun e => by subst e; simp at h
  simp only [readVal]
  rw [if_neg h0, if_pos h1]
theorem readVal_null {c : Col} {t : List UInt8} : readVal c (0 :: t) = if c.u = true then some (val0, 1) else none := by
  simp only [readVal]
  rfl
theorem rvalue_any (c : Col) (oa : Option Addr) (cap : Nat) (l : List UInt8) (w : World) (hz : szOk c.t c.z = true) (hn : l.length ≤ 1000000) (hb : BytesAt w (.slice oa l.length cap) l) :
    Calls Tryz.prog 39 #[.agg #[.string c.n, .int .i64 c.t, .int .i64 c.z, .bool c.u], .slice oa l.length cap] w (RVPost (readVal c l) w) := by
  cases l with
  | nil => exact rval_nil c oa cap w
  | cons b t =>
    have HB := hb
    obtain ⟨oa', cap', e, hcap, hcell⟩ := hb
    cases e
    obtain ⟨a, rfl, h0⟩ := hcell 0 (by simp)
    rw [Addr.add_zero', show (b :: t)[0] = b from rfl] at h0
    have hnt : t.length ≤ 1000000 := by simp at hn; omega
    by_cases hb0 : b = 0
    · subst hb0
      rw [readVal_null]
      exact rval_null c a cap t.length w hnt h0
    by_cases hb1 : 1 < b.toNat
    · rw [readVal_big hb1]
      exact rval_big c a cap t.length (b.toNat : Int) w hnt (by omega) h0
    obtain rfl := u8_one hb0 hb1
    have hct : t.length + 1 ≤ cap := by simpa using hcap
    obtain ⟨cc, rfl⟩ : ∃ cc, cap = cc + 1 := ⟨cap - 1, by omega⟩
    have hat : ∀ (j : Nat) (h : j < t.length), w.cell? (a.add (1 + j)) = some (.int .u8 t[j].toNat) := fun j hj => by
      obtain ⟨a', e, h⟩ := hcell (j + 1) (by simp; omega)
      cases e
      rw [Nat.add_comm 1 j, h]
      simp
    have hbt : ∀ W, Below w.heap.size w W → t ≠ [] → BytesAt W (.slice (some (a.add 1)) t.length cc) t := fun W hW hne => by
      refine BytesAt.keep ⟨some (a.add 1), cc, rfl, by omega, fun j hj => ⟨_, rfl, ?_⟩⟩ hW (Nat.le_refl _)
      rw [Addr.add_add]
      exact hat j hj
    obtain ⟨n, ty, z, u⟩ := c
    simp only at hz ⊢
    rcases type_cases ty with ht | rfl | rfl | rfl | rfl
    · rw [szOk_none ht] at hz; cases hz
    · have hz1 := sz_num hz (.inl rfl)
      by_cases hfit : z.toNat ≤ t.length
      · by_cases h8 : z = 8
        · exact rval_i8 n z u a cc t w h8 hnt h0 hbt (by omega) hfit
        · exact rval_i n z u a cc t w (by omega) hnt h0 hbt (by omega) hfit hat
      · exact rval_short n z u a cc t w hz1 hnt h0 (by omega) hfit
    · exact rval_u n z u a cc t w (sz_num hz (.inr rfl)) hnt h0 hbt (by omega)
    · exact rval_b n z u a (cc + 1) t w hnt h0 hct hat
    · refine rval_s n z u a (cc + 1) t w hnt h0 (if cc + 1 = 1 then some a else some (a.add 1)) rfl (fun W hW => ?_) hct
      by_cases hne : t = []
      · subst hne
        exact ⟨_, _, rfl, Nat.zero_le _, fun j hj => absurd hj (Nat.not_lt_zero j)⟩
      · have hl : 0 < t.length := by cases t with
          | nil => exact absurd rfl hne
          | cons _ _ => simp
        rw [if_neg (by omega)]
        exact hbt W hW hne
end Go.Proofs.YtocmjlnhcloccaaGreatDoor
namespace Go.Proofs.YtocmjlnhcloccaaGreatDoor
open Go.RowKit

theorem elem_size (W : World) : (sizeOf (Tryz.prog.elem 31)).run Tryz.prog W = .ok 1 W := by kernel_rfl
theorem elem_is : Tryz.prog.underlying 31 = some (.slice (Tryz.prog.elem 31)) := by kernel_rfl
theorem sl_l (oa : Option Addr) (n cap t : Nat) (W : World) (h : t ≤ n) : (Instr.sliceAt 31 (.slice oa n cap) (some (.int .i64 (t : Int))) none none).run Tryz.prog W = .ok (sliced oa t n cap 1) W := by
  rw [run_sliceAt_slice W 31 _ _ _ _ elem_is, run_slice_l W 31 oa n cap elem_is .i64 t (by omega) (by omega), elem_size, Int.toNat_natCast]
  rfl
theorem sliced_at {w : World} {oa : Option Addr} {cap i k : Nat} {l : List UInt8} (h : BytesAt w (.slice oa l.length cap) l) (hi : i ≤ k) (hk : k ≤ l.length) : BytesAt w (sliced oa i k cap 1) ((l.drop i).take (k - i)) := by
  have h' := h
  obtain ⟨_, _, he, hcap, _⟩ := h'
  cases he
  exact h.cut (by omega) _ (by rw [Nat.mul_one]) (cap - i) (by omega)
/-- the cells of values, one behind the other -/
def vc4 (v : Vl) : List Value := [.int .i64 v.k, .int .i64 v.i, .int .u64 v.u, .string v.s]
def vcells (l : List Vl) : List Value := l.flatMap vc4
theorem vcells_len : ∀ l : List Vl, (vcells l).length = l.length * 4
  | [] => rfl
  | x :: l => by
    show (vc4 x ++ vcells l).length = _
    rw [List.length_append, vcells_len l, List.length_cons]
    show 4 + _ = _
    omega
theorem vcells_at : ∀ (l : List Vl) (j : Nat) (h : j < l.length) (i : Nat), i < 4 → (vcells l)[j * 4 + i]? = (vc4 l[j])[i]?
  | x :: l, 0, _, i, hi => by
    show (vc4 x ++ vcells l)[0 * 4 + i]? = (vc4 x)[i]?
    rw [List.getElem?_append_left (by show 0 * 4 + i < 4; omega), show 0 * 4 + i = i by omega]
  | x :: l, j + 1, h, i, hi => by
    show (vc4 x ++ vcells l)[(j + 1) * 4 + i]? = (vc4 (x :: l)[j + 1])[i]?
    rw [List.getElem?_append_right (by show 4 ≤ (j + 1) * 4 + i; omega), show (j + 1) * 4 + i - (vc4 x).length = j * 4 + i by show (j + 1) * 4 + i - 4 = _; omega, vcells_at l j (by simpa using h) i hi]
    rfl
theorem slice_own {w : World} {base : Nat} {v : Value} {l : List Vl} (h : w.ownsRow base 68 4 v l.length (vcells l)) : SliceOf w v l := by
  have h0 := h
  rcases h.2 with ⟨e, hn⟩ | ⟨g, cap, cur, e, _, _, hnc, _⟩
  · exact .inl ⟨e, List.eq_nil_of_length_eq_zero hn⟩
  · subst e
    refine .inr ⟨_, cap, rfl, hnc, fun j hj => ?_⟩
    rw [add4]
    have q : ∀ i, i < 4 → w.cell? ⟨g, j * 4 + i, none⟩ = (vc4 l[j])[i]? := fun i hi => by
      rw [h0.cellAt (j * 4 + i) (by omega), vcells_at l j hj i hi]
    exact ⟨q 0 (by omega), q 1 (by omega), q 2 (by omega), q 3 (by omega)⟩
theorem vcells_snoc (l : List Vl) (v : Vl) : vcells (l ++ [v]) = vcells l ++ vc4 v := by
  unfold vcells
  rw [List.flatMap_append]
  simp
/-- a row's first values, and then the others -/
def joinR (pre : List Vl) (a : Nat) : Option (List Vl × Nat) → Option (List Vl × Nat)
  | some (ws, m) => some (pre ++ ws, a + m)
  | none => none
def RdRel (cs : List Col) (l : List UInt8) (pre : List Vl) (k a : Nat) : Prop := readRow cs l = joinR pre a (readRow (cs.drop k) (l.drop a))
theorem RdRel.zero (cs : List Col) (l : List UInt8) : RdRel cs l [] 0 0 := by
  unfold RdRel
  rw [List.drop_zero, List.drop_zero]
  cases readRow cs l with
  | none => rfl
  | some x =>
    obtain ⟨vs, m⟩ := x
    show some (vs, m) = some ([] ++ vs, 0 + m)
    rw [List.nil_append, Nat.zero_add]
theorem RdRel.no {cs : List Col} {l : List UInt8} {pre : List Vl} {k a : Nat} {c : Col} (h : RdRel cs l pre k a) (hk : k < cs.length) (hc : cs[k] = c) (hv : readVal c (l.drop a) = none) : readRow cs l = none := by
  unfold RdRel at h
  rw [h, List.drop_eq_getElem_cons hk, hc]
  unfold readRow
  rw [hv]
  rfl
theorem RdRel.next {cs : List Col} {l : List UInt8} {pre : List Vl} {k a n : Nat} {c : Col} {v : Vl} (h : RdRel cs l pre k a) (hk : k < cs.length) (hc : cs[k] = c) (hv : readVal c (l.drop a) = some (v, n)) : RdRel cs l (pre ++ [v]) (k + 1) (a + n) := by
  unfold RdRel at h ⊢
  rw [h, List.drop_eq_getElem_cons hk, hc]
  conv => lhs; unfold readRow
  rw [hv]
  simp only
  rw [List.drop_drop]
  cases readRow (cs.drop (k + 1)) (l.drop (a + n)) with
  | none => rfl
  | some x =>
    obtain ⟨ws, m⟩ := x
    show some (pre ++ (v :: ws), a + (n + m)) = some ((pre ++ [v]) ++ ws, a + n + m)
    rw [List.append_assoc, Nat.add_assoc]
    rfl
theorem RdRel.done {cs : List Col} {l : List UInt8} {pre : List Vl} {k a : Nat} (h : RdRel cs l pre k a) (hk : cs.length ≤ k) : readRow cs l = some (pre, a) := by
  unfold RdRel at h
  rw [h, List.drop_of_length_le hk]
  show some (pre ++ [], a + 0) = _
  rw [List.append_nil, Nat.add_zero]

theorem own_keep4 {w w' : World} {B : Nat} {v : Value} {n : Nat} {xs : List Value} (h : w.ownsRow B 68 4 v n xs) (hb : Below w.heap.size w w') : w'.ownsRow B 68 4 v n xs :=
  h.kept (row := none) ⟨hb.os, hb.tape, hb.output, hb.size, fun k hk _ => hb.block k hk⟩ (by cases v.ownBlock <;> simp)
/-- what the region that reads a value reads -/
def LC (W : World) (B0 : Nat) (oc : Option Addr) (nc cc : Nat) (ac : Addr) (c : Col) : Prop := W.cell? ⟨B0, 0, none⟩ = some (.slice oc nc cc) ∧ W.cell? ac = some (.string c.n) ∧ W.cell? ⟨ac.block, ac.off + 1, none⟩ = some (.int .i64 c.t) ∧ W.cell? ⟨ac.block, ac.off + 2, none⟩ = some (.int .i64 c.z) ∧ W.cell? ⟨ac.block, ac.off + 3, none⟩ = some (.bool c.u)
theorem LC.keep {W W' : World} {B0 : Nat} {oc : Option Addr} {nc cc : Nat} {ac : Addr} {c : Col} (h : LC W B0 oc nc cc ac c) (hb : Below W.heap.size W W') : LC W' B0 oc nc cc ac c := by
  obtain ⟨h0, h1, h2, h3, h4⟩ := h
  exact ⟨cell_old h0 hb, cell_old h1 hb, cell_old h2 hb, cell_old h3 hb, cell_old h4 hb⟩
/-- what Read tells -/
theorem own_typed {W : World} {B e z n : Nat} {v : Value} {xs : List Value} (h : W.ownsRow B e z v n xs) : ∀ g, v.ownBlock = some g → B ≤ g ∧ ∃ cur, W.heap[g]? = some (.cells cur e (0, 0)) := fun g hg => by
  rcases h.2 with ⟨rfl, _⟩ | ⟨g', cap, cur, rfl, hb, hc, _⟩
  · cases hg
  · obtain rfl : g' = g := Option.some.inj hg
    exact ⟨hb, cur, hc⟩
def RReadPost (o : Option (List Vl × Nat)) (w : World) (e : Ending) (w' : World) : Prop :=
  match o with
  | some (vs, k) => ∃ v, e = .returned (.tuple #[v, .int .i64 k]) ∧ (SliceOf w' v vs ∧ ∀ g, v.ownBlock = some g → w.heap.size ≤ g ∧ ∃ cur, w'.heap[g]? = some (.cells cur 68 (0, 0))) ∧ Below w.heap.size w w'
  | none => e = .returned (.tuple #[.slice none 0 0, .int .i64 0]) ∧ Below w.heap.size w w'
set_option maxRecDepth 100000 in
set_option maxHeartbeats 4000000 in
theorem rRead_any (p : SchV) (S : Sch) (oa : Option Addr) (cap : Nat) (l : List UInt8) (w : World) (hcl : S.cols.length ≤ 1000) (hC : ColsIn w p.oc S.cols) (hz : ∀ c ∈ S.cols, szOk c.t c.z = true) (hb : BytesAt w (.slice oa l.length cap) l) (hn : l.length ≤ 1000000) :
    Calls Tryz.prog 20 #[.agg #[.slice p.oc S.cols.length p.cc, .slice p.ok S.key.length p.ck, .slice p.ou S.uqs.length p.cu], .slice oa l.length cap] w (RReadPost (readRow S.cols l) w) := by
  obtain ⟨i0, hi0, hz0, hz1, hz2⟩ := info_parts infoV
  obtain ⟨oc, cc, ok, ck, ou, cu⟩ := p
  simp only at hC ⊢
  have HC := Lib.hid hC
  have HB := Lib.hid hb
  have HZ := Lib.hid hz
  clear hC hb hz
  go_enter Tryz.func20, Tryz.ntmps20
  go_wp2_with fail
  go_loopw [6, 7, 8] (fun a b v wr => ∃ (k t : Nat) (pre : List Vl), k ≤ S.cols.length ∧ t ≤ l.length ∧ a = .int .i64 t ∧ v = .int .i64 k ∧ Hid (pre.length = k) ∧ Hid (RdRel S.cols l pre k t) ∧ Hid (wr.ownsRow (w.heap.size + 1) 68 4 b k (vcells pre)) ∧ Hid (wr.cell? ⟨w.heap.size, 0, none⟩ = some (.slice oc S.cols.length cc)) ∧ Hid (Below w.heap.size w wr)) (fun _ _ v _ => S.cols.length - (intOf v).toNat)
  case atStart => exact ⟨0, 0, [], Nat.zero_le _, Nat.zero_le _, rfl, rfl, Lib.hid rfl, Lib.hid (RdRel.zero _ _), Lib.hid (World.ownsRow_nil _ _ _ _), Lib.hid (by simp [go_sem]), Lib.hid ((Below.refl _ _).alloc (Nat.le_refl _) _)⟩
  case round =>
    obtain ⟨k, t, pre, hk, ht, rfl, rfl, HP, HR, HO, HX, HW⟩ := hrel
    have hlx : w.heap.size < wr.heap.size := World.block_lt_of_cell? wr _ HX.out
    by_cases hlt : k < S.cols.length
    · obtain ⟨c, hcc⟩ : ∃ c, S.cols[k] = c := ⟨_, rfl⟩
      obtain ⟨ac, rfl, hat⟩ := HC.out.keep HW.out (Nat.le_refl _) k hlt
      rw [hcc] at hat
      have hszc := HZ.out c (hcc ▸ List.getElem_mem hlt)
      have hcut := sliced_at (HB.out.keep HW.out (Nat.le_refl _)) ht (Nat.le_refl _)
      rw [List.take_of_length_le (by simp)] at hcut
      have hsl : ∀ W, (Instr.sliceAt 31 (.slice oa l.length cap) (some (.int .i64 (t : Int))) none none).run Tryz.prog W = .ok (sliced oa t l.length cap 1) W := fun W => sl_l oa l.length cap t W ht
      obtain ⟨ob, cb, esl, hcb, hcells⟩ := hcut
      have hcut' : BytesAt wr (.slice ob (l.drop t).length cb) (l.drop t) := ⟨ob, cb, rfl, hcb, hcells⟩
      have hv0 := fun W (h : Below wr.heap.size wr W) => rvalue_any c ob cb (l.drop t) W hszc (by simp; omega) (hcut'.keep h (Nat.le_refl _))
      rw [← esl] at hv0
      have HLC : Hid (LC wr w.heap.size (some ac) S.cols.length cc (ac.add (k * 4)) c) := Lib.hid ⟨HX.out, hat.1, hat.2.1, hat.2.2.1, hat.2.2.2⟩
      have hx0 := HX.out
      have b0 : (0 : Int) ≤ (k : Int) := by omega
      have b1 : (k : Int) < (S.cols.length : Int) := by omega
      clear esl hcb hcells hcut' hat
      generalize sliced oa t l.length cap 1 = sv at *
      cases hv : readVal c (l.drop t) with
      | none =>
        have HN := Lib.hid (HR.out.no hlt hcc hv)
        rw [hv] at hv0
        have HV : Hid (∀ W, Below wr.heap.size wr W → Calls Tryz.prog 39 #[.agg #[.string c.n, .int .i64 c.t, .int .i64 c.z, .bool c.u], sv] W fun e w' => e = .returned (.tuple #[.agg #[.int .i64 0, .int .i64 0, .int .u64 0, .string ⟨#[]⟩], .int .i64 0]) ∧ Below W.heap.size W w') := Lib.hid hv0
        clear hv hv0 hszc hcc
        go_wp2_with fail
        -- BEGIN hand_rdN
        refine wp_region_held_drew (S := fun W => Below wr.heap.size wr W) (by kernel_rfl) ?_ (fun hHeld => ?_)
        · exact Below.drew (Below.refl _ _)
        refine wpAnyH_take (i := 0) (oi := { dst := some 19, op := Go.Op.fieldAddr 26 (Go.Operand.tmp 2) 0, type := 0, pos := "ref.go:91", after := #[], guard := none }) (v := ?v0n) rfl (by kernel_rfl) (by kernel_rfl) (by kernel_rfl) (fun _ _ _ h => h) (Or.inl ⟨by rfl, ?hy0n⟩) hHeld ?rest0n
        case hy0n => (intro W hSw; (try dsimp only at hSw); go_simp; try with_reducible rfl)
        try simp only [Act.put, List.setIfInBounds_toArray, List.set_cons_zero, List.set_cons_succ]
        refine wpAnyH_take (i := 1) (oi := { dst := some 20, op := Go.Op.load 22 (Go.Operand.tmp 19), type := 22, pos := "ref.go:91", after := #[{ on := 0, ground := Go.Ground.data }], guard := none }) (v := ?v1n) rfl (by kernel_rfl) (by kernel_rfl) (by kernel_rfl) (fun _ _ _ h => h) (Or.inl ⟨by rfl, ?hy1n⟩) hHeld ?rest1n
        case hy1n => (intro W hSw; (try dsimp only at hSw); have hx := (LC.keep HLC.out hSw).1; go_simp; try with_reducible rfl)
        try simp only [Act.put, List.setIfInBounds_toArray, List.set_cons_zero, List.set_cons_succ]
        refine wpAnyH_take (i := 2) (oi := { dst := some 21, op := Go.Op.move (Go.Operand.tmp 8), type := 3, pos := "ref.go:91", after := #[], guard := none }) (v := ?v2n) rfl (by kernel_rfl) (by kernel_rfl) (by kernel_rfl) (fun _ _ _ h => h) (Or.inl ⟨by rfl, ?hy2n⟩) hHeld ?rest2n
        case hy2n => (intro W hSw; (try dsimp only at hSw); go_simp; try with_reducible rfl)
        try simp only [Act.put, List.setIfInBounds_toArray, List.set_cons_zero, List.set_cons_succ]
        refine wpAnyH_take (i := 3) (oi := { dst := some 22, op := Go.Op.indexAddr 22 (Go.Operand.tmp 20) (Go.Operand.tmp 21), type := 0, pos := "ref.go:91", after := #[{ on := 1, ground := Go.Ground.data }, { on := 2, ground := Go.Ground.data }], guard := none }) (v := ?v3n) rfl (by kernel_rfl) (by kernel_rfl) (by kernel_rfl) (fun _ _ _ h => h) (Or.inl ⟨by rfl, ?hy3n⟩) hHeld ?rest3n
        case hy3n => (intro W hSw; (try dsimp only at hSw); go_simp; try with_reducible rfl)
        try simp only [Act.put, List.setIfInBounds_toArray, List.set_cons_zero, List.set_cons_succ]
        refine wpAnyH_take (i := 4) (oi := { dst := some 23, op := Go.Op.load 64 (Go.Operand.tmp 22), type := 64, pos := "ref.go:91", after := #[{ on := 3, ground := Go.Ground.data }], guard := none }) (v := ?v4n) rfl (by kernel_rfl) (by kernel_rfl) (by kernel_rfl) (fun _ _ _ h => h) (Or.inl ⟨by rfl, ?hy4n⟩) hHeld ?rest4n
        case hy4n => (intro W hSw; (try dsimp only at hSw); have hx := LC.keep HLC.out hSw; obtain ⟨_, hx1, hx2, hx3, hx4⟩ := hx; go_simp; try with_reducible rfl)
        try simp only [Act.put, List.setIfInBounds_toArray, List.set_cons_zero, List.set_cons_succ]
        refine wpAnyH_take (i := 5) (oi := { dst := some 24, op := Go.Op.move (Go.Operand.tmp 1), type := 31, pos := "ref.go:91", after := #[], guard := none }) (v := ?v5n) rfl (by kernel_rfl) (by kernel_rfl) (by kernel_rfl) (fun _ _ _ h => h) (Or.inl ⟨by rfl, ?hy5n⟩) hHeld ?rest5n
        case hy5n => (intro W hSw; (try dsimp only at hSw); go_simp; try with_reducible rfl)
        try simp only [Act.put, List.setIfInBounds_toArray, List.set_cons_zero, List.set_cons_succ]
        refine wpAnyH_take (i := 6) (oi := { dst := some 25, op := Go.Op.move (Go.Operand.tmp 6), type := 3, pos := "ref.go:91", after := #[], guard := none }) (v := ?v6n) rfl (by kernel_rfl) (by kernel_rfl) (by kernel_rfl) (fun _ _ _ h => h) (Or.inl ⟨by rfl, ?hy6n⟩) hHeld ?rest6n
        case hy6n => (intro W hSw; (try dsimp only at hSw); go_simp; try with_reducible rfl)
        try simp only [Act.put, List.setIfInBounds_toArray, List.set_cons_zero, List.set_cons_succ]
        refine wpAnyH_take (i := 7) (oi := { dst := some 26, op := Go.Op.slice 31 (Go.Operand.tmp 24) (some (Go.Operand.tmp 25)) none none, type := 31, pos := "ref.go:91", after := #[{ on := 5, ground := Go.Ground.data }, { on := 6, ground := Go.Ground.data }], guard := none }) (v := ?v7n) rfl (by kernel_rfl) (by kernel_rfl) (by kernel_rfl) (fun _ _ _ h => h) (Or.inl ⟨by rfl, ?hy7n⟩) hHeld ?rest7n
        case hy7n => (intro W hSw; (try dsimp only at hSw); have hx := hsl W; go_simp; try with_reducible rfl)
        try simp only [Act.put, List.setIfInBounds_toArray, List.set_cons_zero, List.set_cons_succ]
        refine wpAnyH_ready (rs := [8, 12]) (by kernel_rfl) (by simp) ?_
        refine (AllReadyH.cons (o := { dst := some 27, op := Go.Op.call { callee := Go.Callee.value (Go.Operand.func 39), args := #[Go.Operand.tmp 23, Go.Operand.tmp 26], argTypes := #[64, 31] }, type := 85, pos := "ref.go:91", after := #[{ on := 4, ground := Go.Ground.data }, { on := 7, ground := Go.Ground.data }], guard := none }) rfl (fun K hK => ?_) (AllReadyH.cons (o := { dst := some 9, op := Go.Op.alloc 68, type := 0, pos := "ref.go:91", after := #[], guard := none }) rfl (fun K hK => ?_) AllReadyH.nil))
        · go_simp
          go_at_call 39
          refine (HV.out _ hHeld).mono ?_
          rintro e w5 ⟨rfl, hb5⟩
          refine hK.out _ _ (hHeld.trans (hb5.mono hHeld.size)) (fun hHeld' => ?_)
          clear hK K hHeld
          have hHeld := hHeld'
          clear hHeld'
          try simp only [Act.put, List.setIfInBounds_toArray, List.set_cons_zero, List.set_cons_succ]
          have hB5 := hHeld
          clear hb5
          refine wpAnyH_take (i := 9) (oi := { dst := some 18, op := Go.Op.move (Go.Operand.tmp 27), type := 85, pos := "ref.go:91", after := #[{ on := 8, ground := Go.Ground.data }], guard := none }) (v := ?v9nx) rfl (by kernel_rfl) (by kernel_rfl) (by kernel_rfl) (fun _ _ _ h => h) (Or.inl ⟨by rfl, ?hy9nx⟩) hHeld ?rest9nx
          case hy9nx => (intro W hSw; (try dsimp only at hSw); go_simp; try with_reducible rfl)
          try simp only [Act.put, List.setIfInBounds_toArray, List.set_cons_zero, List.set_cons_succ]
          refine wpAnyH_take (i := 10) (oi := { dst := some 28, op := Go.Op.extract (Go.Operand.tmp 18) 0, type := 68, pos := "ref.go:91", after := #[{ on := 9, ground := Go.Ground.data }], guard := none }) (v := ?v10nx) rfl (by kernel_rfl) (by kernel_rfl) (by kernel_rfl) (fun _ _ _ h => h) (Or.inl ⟨by rfl, ?hy10nx⟩) hHeld ?rest10nx
          case hy10nx => (intro W hSw; (try dsimp only at hSw); go_simp; try with_reducible rfl)
          try simp only [Act.put, List.setIfInBounds_toArray, List.set_cons_zero, List.set_cons_succ]
          refine wpAnyH_take (i := 11) (oi := { dst := some 29, op := Go.Op.extract (Go.Operand.tmp 18) 1, type := 3, pos := "ref.go:91", after := #[{ on := 9, ground := Go.Ground.data }, { on := 13, ground := Go.Ground.gcOnly Go.Departure.lateStores }], guard := none }) (v := ?v11nx) rfl (by kernel_rfl) (by kernel_rfl) (by kernel_rfl) (fun _ _ _ h => h) (Or.inl ⟨by rfl, ?hy11nx⟩) hHeld ?rest11nx
          case hy11nx => (intro W hSw; (try dsimp only at hSw); go_simp; try with_reducible rfl)
          try simp only [Act.put, List.setIfInBounds_toArray, List.set_cons_zero, List.set_cons_succ]
          refine wpAnyH_ready (rs := [12]) (by kernel_rfl) (by simp) ?_
          refine AllReadyH.cons (o := { dst := some 9, op := Go.Op.alloc 68, type := 0, pos := "ref.go:91", after := #[], guard := none }) rfl (fun K hK => ?_) AllReadyH.nil
          go_simp
          refine hK.out _ _ (hHeld.alloc hHeld.size _) (fun hHeld' => ?_)
          clear hK K hHeld
          have hHeld := hHeld'
          clear hHeld'
          try simp only [Act.put, List.setIfInBounds_toArray, List.set_cons_zero, List.set_cons_succ]
          refine wpAnyH_ready (rs := [13]) (by kernel_rfl) (by simp) ?_
          refine AllReadyH.cons (o := { dst := none, op := Go.Op.store 68 (Go.Operand.tmp 9) (Go.Operand.tmp 28), type := 0, pos := "ref.go:91", after := #[{ on := 12, ground := Go.Ground.data }, { on := 10, ground := Go.Ground.data }, { on := 8, ground := Go.Ground.chain }, { on := 0, ground := Go.Ground.phase }, { on := 1, ground := Go.Ground.phase }, { on := 2, ground := Go.Ground.phase }, { on := 3, ground := Go.Ground.phase }, { on := 4, ground := Go.Ground.phase }, { on := 5, ground := Go.Ground.phase }, { on := 6, ground := Go.Ground.phase }, { on := 7, ground := Go.Ground.phase }, { on := 8, ground := Go.Ground.phase }, { on := 9, ground := Go.Ground.phase }, { on := 10, ground := Go.Ground.phase }, { on := 11, ground := Go.Ground.textOnly Go.Departure.lateStores }, { on := 12, ground := Go.Ground.phase }], guard := none }) rfl (fun K hK => ?_) AllReadyH.nil
          go_simp
          refine hK.out _ _ (hB5.alloc hB5.size _) (fun hHeld' => ?_)
          clear hK K hHeld
          have hHeld := hHeld'
          clear hHeld'
          try simp only [Act.put, List.setIfInBounds_toArray, List.set_cons_zero, List.set_cons_succ]
          refine wpAnyH_take (i := 14) (oi := { dst := some 10, op := Go.Op.assign (Go.Operand.tmp 29), type := 3, pos := "ref.go:91", after := #[{ on := 11, ground := Go.Ground.data }, { on := 13, ground := Go.Ground.chain }, { on := 0, ground := Go.Ground.phase }, { on := 1, ground := Go.Ground.phase }, { on := 2, ground := Go.Ground.phase }, { on := 3, ground := Go.Ground.phase }, { on := 4, ground := Go.Ground.phase }, { on := 5, ground := Go.Ground.phase }, { on := 6, ground := Go.Ground.phase }, { on := 7, ground := Go.Ground.phase }, { on := 8, ground := Go.Ground.phase }, { on := 9, ground := Go.Ground.phase }, { on := 10, ground := Go.Ground.phase }, { on := 11, ground := Go.Ground.phase }, { on := 12, ground := Go.Ground.phase }, { on := 13, ground := Go.Ground.phase }], guard := none }) (v := ?v14nx) rfl (by kernel_rfl) (by kernel_rfl) (by kernel_rfl) (fun _ _ _ h => h) (Or.inl ⟨by rfl, ?hy14nx⟩) hHeld ?rest14nx
          case hy14nx => (intro W hSw; (try dsimp only at hSw); go_simp; try with_reducible rfl)
          try simp only [Act.put, List.setIfInBounds_toArray, List.set_cons_zero, List.set_cons_succ]
          refine wpAnyH_done (by kernel_rfl) ?_ _
          try dsimp only
          try simp only [Act.put, List.setIfInBounds_toArray, List.set_cons_zero, List.set_cons_succ]
          generalize hW6 : World.alloc w5 _ = W6 at hHeld ⊢
          clear hW6
          go_wp2_with fail
          go_ret2
          rw [HN.out]
          exact ⟨rfl, HW.out.trans (hHeld.mono HW.out.size)⟩
        · go_simp
          refine hK.out _ _ (hHeld.alloc hHeld.size _) (fun hHeld' => ?_)
          clear hK K hHeld
          have hHeld := hHeld'
          clear hHeld'
          try simp only [Act.put, List.setIfInBounds_toArray, List.set_cons_zero, List.set_cons_succ]
          refine wpAnyH_ready (rs := [8]) (by kernel_rfl) (by simp) ?_
          refine AllReadyH.cons (o := { dst := some 27, op := Go.Op.call { callee := Go.Callee.value (Go.Operand.func 39), args := #[Go.Operand.tmp 23, Go.Operand.tmp 26], argTypes := #[64, 31] }, type := 85, pos := "ref.go:91", after := #[{ on := 4, ground := Go.Ground.data }, { on := 7, ground := Go.Ground.data }], guard := none }) rfl (fun K hK => ?_) AllReadyH.nil
          go_simp
          go_at_call 39
          refine (HV.out _ hHeld).mono ?_
          rintro e w5 ⟨rfl, hb5⟩
          refine hK.out _ _ (hHeld.trans (hb5.mono hHeld.size)) (fun hHeld' => ?_)
          clear hK K hHeld
          have hHeld := hHeld'
          clear hHeld'
          try simp only [Act.put, List.setIfInBounds_toArray, List.set_cons_zero, List.set_cons_succ]
          have z0 : w5.cell? ⟨wr.heap.size, 0, none⟩ = some (.int .i64 0) := cell_old (by simp [go_sem]) hb5
          have z1 : w5.cell? ⟨wr.heap.size, 1, none⟩ = some (.int .i64 0) := cell_old (by simp [go_sem]) hb5
          have z2 : w5.cell? ⟨wr.heap.size, 2, none⟩ = some (.int .u64 0) := cell_old (by simp [go_sem]) hb5
          have z3 : w5.cell? ⟨wr.heap.size, 3, none⟩ = some (.string ⟨#[]⟩) := cell_old (by simp [go_sem]) hb5
          have f0 : w5.frozen? ⟨wr.heap.size, 0, none⟩ = false := by rw [hb5.frozen (by simp)]; simp [go_sem]
          have f1 : w5.frozen? ⟨wr.heap.size, 1, none⟩ = false := by rw [hb5.frozen (by simp)]; simp [go_sem]
          have f2 : w5.frozen? ⟨wr.heap.size, 2, none⟩ = false := by rw [hb5.frozen (by simp)]; simp [go_sem]
          have f3 : w5.frozen? ⟨wr.heap.size, 3, none⟩ = false := by rw [hb5.frozen (by simp)]; simp [go_sem]
          have hB5 := hHeld
          have hz5 : wr.heap.size < w5.heap.size := World.block_lt_of_cell? w5 _ z0
          clear hb5
          refine wpAnyH_take (i := 9) (oi := { dst := some 18, op := Go.Op.move (Go.Operand.tmp 27), type := 85, pos := "ref.go:91", after := #[{ on := 8, ground := Go.Ground.data }], guard := none }) (v := ?v9ny) rfl (by kernel_rfl) (by kernel_rfl) (by kernel_rfl) (fun _ _ _ h => h) (Or.inl ⟨by rfl, ?hy9ny⟩) hHeld ?rest9ny
          case hy9ny => (intro W hSw; (try dsimp only at hSw); go_simp; try with_reducible rfl)
          try simp only [Act.put, List.setIfInBounds_toArray, List.set_cons_zero, List.set_cons_succ]
          refine wpAnyH_take (i := 10) (oi := { dst := some 28, op := Go.Op.extract (Go.Operand.tmp 18) 0, type := 68, pos := "ref.go:91", after := #[{ on := 9, ground := Go.Ground.data }], guard := none }) (v := ?v10ny) rfl (by kernel_rfl) (by kernel_rfl) (by kernel_rfl) (fun _ _ _ h => h) (Or.inl ⟨by rfl, ?hy10ny⟩) hHeld ?rest10ny
          case hy10ny => (intro W hSw; (try dsimp only at hSw); go_simp; try with_reducible rfl)
          try simp only [Act.put, List.setIfInBounds_toArray, List.set_cons_zero, List.set_cons_succ]
          refine wpAnyH_take (i := 11) (oi := { dst := some 29, op := Go.Op.extract (Go.Operand.tmp 18) 1, type := 3, pos := "ref.go:91", after := #[{ on := 9, ground := Go.Ground.data }, { on := 13, ground := Go.Ground.gcOnly Go.Departure.lateStores }], guard := none }) (v := ?v11ny) rfl (by kernel_rfl) (by kernel_rfl) (by kernel_rfl) (fun _ _ _ h => h) (Or.inl ⟨by rfl, ?hy11ny⟩) hHeld ?rest11ny
          case hy11ny => (intro W hSw; (try dsimp only at hSw); go_simp; try with_reducible rfl)
          try simp only [Act.put, List.setIfInBounds_toArray, List.set_cons_zero, List.set_cons_succ]
          refine wpAnyH_ready (rs := [13]) (by kernel_rfl) (by simp) ?_
          refine AllReadyH.cons (o := { dst := none, op := Go.Op.store 68 (Go.Operand.tmp 9) (Go.Operand.tmp 28), type := 0, pos := "ref.go:91", after := #[{ on := 12, ground := Go.Ground.data }, { on := 10, ground := Go.Ground.data }, { on := 8, ground := Go.Ground.chain }, { on := 0, ground := Go.Ground.phase }, { on := 1, ground := Go.Ground.phase }, { on := 2, ground := Go.Ground.phase }, { on := 3, ground := Go.Ground.phase }, { on := 4, ground := Go.Ground.phase }, { on := 5, ground := Go.Ground.phase }, { on := 6, ground := Go.Ground.phase }, { on := 7, ground := Go.Ground.phase }, { on := 8, ground := Go.Ground.phase }, { on := 9, ground := Go.Ground.phase }, { on := 10, ground := Go.Ground.phase }, { on := 11, ground := Go.Ground.textOnly Go.Departure.lateStores }, { on := 12, ground := Go.Ground.phase }], guard := none }) rfl (fun K hK => ?_) AllReadyH.nil
          go_simp
          refine hK.out _ _ ((((hB5.setCell (Nat.le_refl _) _).setCell (Nat.le_refl _) _).setCell (Nat.le_refl _) _).setCell (Nat.le_refl _) _) (fun hHeld' => ?_)
          clear hK K hHeld
          have hHeld := hHeld'
          clear hHeld'
          try simp only [Act.put, List.setIfInBounds_toArray, List.set_cons_zero, List.set_cons_succ]
          refine wpAnyH_take (i := 14) (oi := { dst := some 10, op := Go.Op.assign (Go.Operand.tmp 29), type := 3, pos := "ref.go:91", after := #[{ on := 11, ground := Go.Ground.data }, { on := 13, ground := Go.Ground.chain }, { on := 0, ground := Go.Ground.phase }, { on := 1, ground := Go.Ground.phase }, { on := 2, ground := Go.Ground.phase }, { on := 3, ground := Go.Ground.phase }, { on := 4, ground := Go.Ground.phase }, { on := 5, ground := Go.Ground.phase }, { on := 6, ground := Go.Ground.phase }, { on := 7, ground := Go.Ground.phase }, { on := 8, ground := Go.Ground.phase }, { on := 9, ground := Go.Ground.phase }, { on := 10, ground := Go.Ground.phase }, { on := 11, ground := Go.Ground.phase }, { on := 12, ground := Go.Ground.phase }, { on := 13, ground := Go.Ground.phase }], guard := none }) (v := ?v14ny) rfl (by kernel_rfl) (by kernel_rfl) (by kernel_rfl) (fun _ _ _ h => h) (Or.inl ⟨by rfl, ?hy14ny⟩) hHeld ?rest14ny
          case hy14ny => (intro W hSw; (try dsimp only at hSw); go_simp; try with_reducible rfl)
          try simp only [Act.put, List.setIfInBounds_toArray, List.set_cons_zero, List.set_cons_succ]
          refine wpAnyH_done (by kernel_rfl) ?_ _
          try dsimp only
          try simp only [Act.put, List.setIfInBounds_toArray, List.set_cons_zero, List.set_cons_succ]
          generalize hW6 : World.setCell (World.setCell (World.setCell (World.setCell w5 _ _) _ _) _ _) _ _ = W6 at hHeld ⊢
          clear hW6
          go_wp2_with fail
          go_ret2
          rw [HN.out]
          exact ⟨rfl, HW.out.trans (hHeld.mono HW.out.size)⟩
        -- END hand_rdN
      | some x =>
        obtain ⟨⟨vk, vi, vu, vs⟩, n⟩ := x
        have hvl := valB_readVal hszc hv
        have hn1 : 1 ≤ n := hvl.2.2.1
        have hn2 : t + n ≤ l.length := by have := hvl.2.2.2.1; rw [List.length_drop] at this; omega
        have hne : ((n : Int) == 0) = false := by rw [beq_eq_false_iff_ne]; omega
        have HN := Lib.hid (HR.out.next hlt hcc hv)
        rw [hv] at hv0
        have HV : Hid (∀ W, Below wr.heap.size wr W → Calls Tryz.prog 39 #[.agg #[.string c.n, .int .i64 c.t, .int .i64 c.z, .bool c.u], sv] W fun e w' => e = .returned (.tuple #[.agg #[.int .i64 vk, .int .i64 vi, .int .u64 vu, .string vs], .int .i64 n]) ∧ Below W.heap.size W w') := Lib.hid hv0
        clear hv hv0 hszc hcc hvl
        go_wp2_with fail
        -- BEGIN hand_rdS
        refine wp_region_held_drew (S := fun W => Below wr.heap.size wr W) (by kernel_rfl) ?_ (fun hHeld => ?_)
        · exact Below.drew (Below.refl _ _)
        refine wpAnyH_take (i := 0) (oi := { dst := some 19, op := Go.Op.fieldAddr 26 (Go.Operand.tmp 2) 0, type := 0, pos := "ref.go:91", after := #[], guard := none }) (v := ?v0s) rfl (by kernel_rfl) (by kernel_rfl) (by kernel_rfl) (fun _ _ _ h => h) (Or.inl ⟨by rfl, ?hy0s⟩) hHeld ?rest0s
        case hy0s => (intro W hSw; (try dsimp only at hSw); go_simp; try with_reducible rfl)
        try simp only [Act.put, List.setIfInBounds_toArray, List.set_cons_zero, List.set_cons_succ]
        refine wpAnyH_take (i := 1) (oi := { dst := some 20, op := Go.Op.load 22 (Go.Operand.tmp 19), type := 22, pos := "ref.go:91", after := #[{ on := 0, ground := Go.Ground.data }], guard := none }) (v := ?v1s) rfl (by kernel_rfl) (by kernel_rfl) (by kernel_rfl) (fun _ _ _ h => h) (Or.inl ⟨by rfl, ?hy1s⟩) hHeld ?rest1s
        case hy1s => (intro W hSw; (try dsimp only at hSw); have hx := (LC.keep HLC.out hSw).1; go_simp; try with_reducible rfl)
        try simp only [Act.put, List.setIfInBounds_toArray, List.set_cons_zero, List.set_cons_succ]
        refine wpAnyH_take (i := 2) (oi := { dst := some 21, op := Go.Op.move (Go.Operand.tmp 8), type := 3, pos := "ref.go:91", after := #[], guard := none }) (v := ?v2s) rfl (by kernel_rfl) (by kernel_rfl) (by kernel_rfl) (fun _ _ _ h => h) (Or.inl ⟨by rfl, ?hy2s⟩) hHeld ?rest2s
        case hy2s => (intro W hSw; (try dsimp only at hSw); go_simp; try with_reducible rfl)
        try simp only [Act.put, List.setIfInBounds_toArray, List.set_cons_zero, List.set_cons_succ]
        refine wpAnyH_take (i := 3) (oi := { dst := some 22, op := Go.Op.indexAddr 22 (Go.Operand.tmp 20) (Go.Operand.tmp 21), type := 0, pos := "ref.go:91", after := #[{ on := 1, ground := Go.Ground.data }, { on := 2, ground := Go.Ground.data }], guard := none }) (v := ?v3s) rfl (by kernel_rfl) (by kernel_rfl) (by kernel_rfl) (fun _ _ _ h => h) (Or.inl ⟨by rfl, ?hy3s⟩) hHeld ?rest3s
        case hy3s => (intro W hSw; (try dsimp only at hSw); go_simp; try with_reducible rfl)
        try simp only [Act.put, List.setIfInBounds_toArray, List.set_cons_zero, List.set_cons_succ]
        refine wpAnyH_take (i := 4) (oi := { dst := some 23, op := Go.Op.load 64 (Go.Operand.tmp 22), type := 64, pos := "ref.go:91", after := #[{ on := 3, ground := Go.Ground.data }], guard := none }) (v := ?v4s) rfl (by kernel_rfl) (by kernel_rfl) (by kernel_rfl) (fun _ _ _ h => h) (Or.inl ⟨by rfl, ?hy4s⟩) hHeld ?rest4s
        case hy4s => (intro W hSw; (try dsimp only at hSw); have hx := LC.keep HLC.out hSw; obtain ⟨_, hx1, hx2, hx3, hx4⟩ := hx; go_simp; try with_reducible rfl)
        try simp only [Act.put, List.setIfInBounds_toArray, List.set_cons_zero, List.set_cons_succ]
        refine wpAnyH_take (i := 5) (oi := { dst := some 24, op := Go.Op.move (Go.Operand.tmp 1), type := 31, pos := "ref.go:91", after := #[], guard := none }) (v := ?v5s) rfl (by kernel_rfl) (by kernel_rfl) (by kernel_rfl) (fun _ _ _ h => h) (Or.inl ⟨by rfl, ?hy5s⟩) hHeld ?rest5s
        case hy5s => (intro W hSw; (try dsimp only at hSw); go_simp; try with_reducible rfl)
        try simp only [Act.put, List.setIfInBounds_toArray, List.set_cons_zero, List.set_cons_succ]
        refine wpAnyH_take (i := 6) (oi := { dst := some 25, op := Go.Op.move (Go.Operand.tmp 6), type := 3, pos := "ref.go:91", after := #[], guard := none }) (v := ?v6s) rfl (by kernel_rfl) (by kernel_rfl) (by kernel_rfl) (fun _ _ _ h => h) (Or.inl ⟨by rfl, ?hy6s⟩) hHeld ?rest6s
        case hy6s => (intro W hSw; (try dsimp only at hSw); go_simp; try with_reducible rfl)
        try simp only [Act.put, List.setIfInBounds_toArray, List.set_cons_zero, List.set_cons_succ]
        refine wpAnyH_take (i := 7) (oi := { dst := some 26, op := Go.Op.slice 31 (Go.Operand.tmp 24) (some (Go.Operand.tmp 25)) none none, type := 31, pos := "ref.go:91", after := #[{ on := 5, ground := Go.Ground.data }, { on := 6, ground := Go.Ground.data }], guard := none }) (v := ?v7s) rfl (by kernel_rfl) (by kernel_rfl) (by kernel_rfl) (fun _ _ _ h => h) (Or.inl ⟨by rfl, ?hy7s⟩) hHeld ?rest7s
        case hy7s => (intro W hSw; (try dsimp only at hSw); have hx := hsl W; go_simp; try with_reducible rfl)
        try simp only [Act.put, List.setIfInBounds_toArray, List.set_cons_zero, List.set_cons_succ]
        refine wpAnyH_ready (rs := [8, 12]) (by kernel_rfl) (by simp) ?_
        refine (AllReadyH.cons (o := { dst := some 27, op := Go.Op.call { callee := Go.Callee.value (Go.Operand.func 39), args := #[Go.Operand.tmp 23, Go.Operand.tmp 26], argTypes := #[64, 31] }, type := 85, pos := "ref.go:91", after := #[{ on := 4, ground := Go.Ground.data }, { on := 7, ground := Go.Ground.data }], guard := none }) rfl (fun K hK => ?_) (AllReadyH.cons (o := { dst := some 9, op := Go.Op.alloc 68, type := 0, pos := "ref.go:91", after := #[], guard := none }) rfl (fun K hK => ?_) AllReadyH.nil))
        · go_simp
          go_at_call 39
          refine (HV.out _ hHeld).mono ?_
          rintro e w5 ⟨rfl, hb5⟩
          refine hK.out _ _ (hHeld.trans (hb5.mono hHeld.size)) (fun hHeld' => ?_)
          clear hK K hHeld
          have hHeld := hHeld'
          clear hHeld'
          try simp only [Act.put, List.setIfInBounds_toArray, List.set_cons_zero, List.set_cons_succ]
          have hB5 := hHeld
          clear hb5
          refine wpAnyH_take (i := 9) (oi := { dst := some 18, op := Go.Op.move (Go.Operand.tmp 27), type := 85, pos := "ref.go:91", after := #[{ on := 8, ground := Go.Ground.data }], guard := none }) (v := ?v9sx) rfl (by kernel_rfl) (by kernel_rfl) (by kernel_rfl) (fun _ _ _ h => h) (Or.inl ⟨by rfl, ?hy9sx⟩) hHeld ?rest9sx
          case hy9sx => (intro W hSw; (try dsimp only at hSw); go_simp; try with_reducible rfl)
          try simp only [Act.put, List.setIfInBounds_toArray, List.set_cons_zero, List.set_cons_succ]
          refine wpAnyH_take (i := 10) (oi := { dst := some 28, op := Go.Op.extract (Go.Operand.tmp 18) 0, type := 68, pos := "ref.go:91", after := #[{ on := 9, ground := Go.Ground.data }], guard := none }) (v := ?v10sx) rfl (by kernel_rfl) (by kernel_rfl) (by kernel_rfl) (fun _ _ _ h => h) (Or.inl ⟨by rfl, ?hy10sx⟩) hHeld ?rest10sx
          case hy10sx => (intro W hSw; (try dsimp only at hSw); go_simp; try with_reducible rfl)
          try simp only [Act.put, List.setIfInBounds_toArray, List.set_cons_zero, List.set_cons_succ]
          refine wpAnyH_take (i := 11) (oi := { dst := some 29, op := Go.Op.extract (Go.Operand.tmp 18) 1, type := 3, pos := "ref.go:91", after := #[{ on := 9, ground := Go.Ground.data }, { on := 13, ground := Go.Ground.gcOnly Go.Departure.lateStores }], guard := none }) (v := ?v11sx) rfl (by kernel_rfl) (by kernel_rfl) (by kernel_rfl) (fun _ _ _ h => h) (Or.inl ⟨by rfl, ?hy11sx⟩) hHeld ?rest11sx
          case hy11sx => (intro W hSw; (try dsimp only at hSw); go_simp; try with_reducible rfl)
          try simp only [Act.put, List.setIfInBounds_toArray, List.set_cons_zero, List.set_cons_succ]
          refine wpAnyH_ready (rs := [12]) (by kernel_rfl) (by simp) ?_
          refine AllReadyH.cons (o := { dst := some 9, op := Go.Op.alloc 68, type := 0, pos := "ref.go:91", after := #[], guard := none }) rfl (fun K hK => ?_) AllReadyH.nil
          go_simp
          refine hK.out _ _ (hHeld.alloc hHeld.size _) (fun hHeld' => ?_)
          clear hK K hHeld
          have hHeld := hHeld'
          clear hHeld'
          try simp only [Act.put, List.setIfInBounds_toArray, List.set_cons_zero, List.set_cons_succ]
          refine wpAnyH_ready (rs := [13]) (by kernel_rfl) (by simp) ?_
          refine AllReadyH.cons (o := { dst := none, op := Go.Op.store 68 (Go.Operand.tmp 9) (Go.Operand.tmp 28), type := 0, pos := "ref.go:91", after := #[{ on := 12, ground := Go.Ground.data }, { on := 10, ground := Go.Ground.data }, { on := 8, ground := Go.Ground.chain }, { on := 0, ground := Go.Ground.phase }, { on := 1, ground := Go.Ground.phase }, { on := 2, ground := Go.Ground.phase }, { on := 3, ground := Go.Ground.phase }, { on := 4, ground := Go.Ground.phase }, { on := 5, ground := Go.Ground.phase }, { on := 6, ground := Go.Ground.phase }, { on := 7, ground := Go.Ground.phase }, { on := 8, ground := Go.Ground.phase }, { on := 9, ground := Go.Ground.phase }, { on := 10, ground := Go.Ground.phase }, { on := 11, ground := Go.Ground.textOnly Go.Departure.lateStores }, { on := 12, ground := Go.Ground.phase }], guard := none }) rfl (fun K hK => ?_) AllReadyH.nil
          go_simp
          refine hK.out _ _ (hB5.alloc hB5.size _) (fun hHeld' => ?_)
          clear hK K hHeld
          have hHeld := hHeld'
          clear hHeld'
          try simp only [Act.put, List.setIfInBounds_toArray, List.set_cons_zero, List.set_cons_succ]
          refine wpAnyH_take (i := 14) (oi := { dst := some 10, op := Go.Op.assign (Go.Operand.tmp 29), type := 3, pos := "ref.go:91", after := #[{ on := 11, ground := Go.Ground.data }, { on := 13, ground := Go.Ground.chain }, { on := 0, ground := Go.Ground.phase }, { on := 1, ground := Go.Ground.phase }, { on := 2, ground := Go.Ground.phase }, { on := 3, ground := Go.Ground.phase }, { on := 4, ground := Go.Ground.phase }, { on := 5, ground := Go.Ground.phase }, { on := 6, ground := Go.Ground.phase }, { on := 7, ground := Go.Ground.phase }, { on := 8, ground := Go.Ground.phase }, { on := 9, ground := Go.Ground.phase }, { on := 10, ground := Go.Ground.phase }, { on := 11, ground := Go.Ground.phase }, { on := 12, ground := Go.Ground.phase }, { on := 13, ground := Go.Ground.phase }], guard := none }) (v := ?v14sx) rfl (by kernel_rfl) (by kernel_rfl) (by kernel_rfl) (fun _ _ _ h => h) (Or.inl ⟨by rfl, ?hy14sx⟩) hHeld ?rest14sx
          case hy14sx => (intro W hSw; (try dsimp only at hSw); go_simp; try with_reducible rfl)
          try simp only [Act.put, List.setIfInBounds_toArray, List.set_cons_zero, List.set_cons_succ]
          refine wpAnyH_done (by kernel_rfl) ?_ _
          try dsimp only
          try simp only [Act.put, List.setIfInBounds_toArray, List.set_cons_zero, List.set_cons_succ]
          generalize hW6 : World.alloc w5 _ = W6 at hHeld ⊢
          have c0 : W6.cell? ⟨w5.heap.size, 0, none⟩ = some (.int .i64 vk) := by rw [← hW6]; simp [go_sem]
          have c1 : W6.cell? ⟨w5.heap.size, 1, none⟩ = some (.int .i64 vi) := by rw [← hW6]; simp [go_sem]
          have c2 : W6.cell? ⟨w5.heap.size, 2, none⟩ = some (.int .u64 vu) := by rw [← hW6]; simp [go_sem]
          have c3 : W6.cell? ⟨w5.heap.size, 3, none⟩ = some (.string vs) := by rw [← hW6]; simp [go_sem]
          have hbl : w5.heap.size < W6.heap.size := World.block_lt_of_cell? W6 _ c0
          have HW6 := Lib.hid (HW.out.trans (hHeld.mono HW.out.size))
          have HX6 := Lib.hid (cell_old HX.out hHeld)
          have HO6 := Lib.hid (own_keep4 HO.out hHeld)
          have hz6 := hHeld.size
          clear hHeld hW6 hB5
          go_wp2_with (first | (at_builtin; refine wpList_append_own _ rfl _ _ 27 rfl (w.heap.size + 1) 68 i0 (.agg #[.int .i64 0, .int .i64 0, .int .u64 0, .string ⟨#[]⟩]) 4 40 Tryz.underlying27 hi0 hz0 hz1 hz2 rfl (by decide) _ k (vcells pre) rfl (HO6.out.alloc _) ⟨W6.heap.size, 0, none⟩ 1 1 (vc4 ⟨vk, vi, vu, vs⟩) rfl rfl ?e1x ?e2x ?e3x ?e4x ?e5x ?_))
          case e1x =>
            intro j' u' hj'
            match j', hj' with
            | 0, hj' => simp [vc4] at hj'; subst hj'; simp [Addr.add]
            | 1, hj' => simp [vc4] at hj'; subst hj'; simp [Addr.add]
            | 2, hj' => simp [vc4] at hj'; subst hj'; simp [Addr.add]
            | 3, hj' => simp [vc4] at hj'; subst hj'; simp [Addr.add]
          case e2x => intro u' hu'; simp [vc4] at hu'; rcases hu' with rfl | rfl | rfl | rfl <;> rfl
          case e3x => unfold maxLen; omega
          case e4x => omega
          case e5x => simp; omega
          intro v4 w4 hown4 hg4 _
          have HR0 : some w.heap.size ≠ Value.ownBlock _ := fun e => by have := (HO6.out.lt _ e.symm).1; omega
          have HX4 := Lib.hid (show w4.cell? ⟨w.heap.size, 0, none⟩ = some (.slice (some ac) S.cols.length cc) by rw [hg4.cell_far _ (by simp; omega) HR0]; exact cell_old HX6.out ((Below.refl _ _).alloc (Nat.le_refl _) _))
          have HW4 := Lib.hid (show Below w.heap.size w w4 from (HW6.out.alloc HW6.out.size _).grown hg4 (by simp; omega) (fun x h => by have := (HO6.out.lt x h).1; omega))
          rw [← vcells_snoc] at hown4
          have HO4 := Lib.hid hown4
          have HP4 := Lib.hid (show (pre ++ [(⟨vk, vi, vu, vs⟩ : Vl)]).length = k + 1 by rw [List.length_append, HP.out]; rfl)
          clear hown4 hg4 HR0 c0 c1 c2 c3
          go_wp2_with fail
          go_roundw
          case rel => exact ⟨k + 1, t + n, pre ++ [⟨vk, vi, vu, vs⟩], by omega, by omega, by go_num, by go_num, HP4, HN, HO4, HX4, HW4⟩
          case measure => simp [intOf]; omega
        · go_simp
          refine hK.out _ _ (hHeld.alloc hHeld.size _) (fun hHeld' => ?_)
          clear hK K hHeld
          have hHeld := hHeld'
          clear hHeld'
          try simp only [Act.put, List.setIfInBounds_toArray, List.set_cons_zero, List.set_cons_succ]
          refine wpAnyH_ready (rs := [8]) (by kernel_rfl) (by simp) ?_
          refine AllReadyH.cons (o := { dst := some 27, op := Go.Op.call { callee := Go.Callee.value (Go.Operand.func 39), args := #[Go.Operand.tmp 23, Go.Operand.tmp 26], argTypes := #[64, 31] }, type := 85, pos := "ref.go:91", after := #[{ on := 4, ground := Go.Ground.data }, { on := 7, ground := Go.Ground.data }], guard := none }) rfl (fun K hK => ?_) AllReadyH.nil
          go_simp
          go_at_call 39
          refine (HV.out _ hHeld).mono ?_
          rintro e w5 ⟨rfl, hb5⟩
          refine hK.out _ _ (hHeld.trans (hb5.mono hHeld.size)) (fun hHeld' => ?_)
          clear hK K hHeld
          have hHeld := hHeld'
          clear hHeld'
          try simp only [Act.put, List.setIfInBounds_toArray, List.set_cons_zero, List.set_cons_succ]
          have z0 : w5.cell? ⟨wr.heap.size, 0, none⟩ = some (.int .i64 0) := cell_old (by simp [go_sem]) hb5
          have z1 : w5.cell? ⟨wr.heap.size, 1, none⟩ = some (.int .i64 0) := cell_old (by simp [go_sem]) hb5
          have z2 : w5.cell? ⟨wr.heap.size, 2, none⟩ = some (.int .u64 0) := cell_old (by simp [go_sem]) hb5
          have z3 : w5.cell? ⟨wr.heap.size, 3, none⟩ = some (.string ⟨#[]⟩) := cell_old (by simp [go_sem]) hb5
          have f0 : w5.frozen? ⟨wr.heap.size, 0, none⟩ = false := by rw [hb5.frozen (by simp)]; simp [go_sem]
          have f1 : w5.frozen? ⟨wr.heap.size, 1, none⟩ = false := by rw [hb5.frozen (by simp)]; simp [go_sem]
          have f2 : w5.frozen? ⟨wr.heap.size, 2, none⟩ = false := by rw [hb5.frozen (by simp)]; simp [go_sem]
          have f3 : w5.frozen? ⟨wr.heap.size, 3, none⟩ = false := by rw [hb5.frozen (by simp)]; simp [go_sem]
          have hB5 := hHeld
          have hz5 : wr.heap.size < w5.heap.size := World.block_lt_of_cell? w5 _ z0
          clear hb5
          refine wpAnyH_take (i := 9) (oi := { dst := some 18, op := Go.Op.move (Go.Operand.tmp 27), type := 85, pos := "ref.go:91", after := #[{ on := 8, ground := Go.Ground.data }], guard := none }) (v := ?v9sy) rfl (by kernel_rfl) (by kernel_rfl) (by kernel_rfl) (fun _ _ _ h => h) (Or.inl ⟨by rfl, ?hy9sy⟩) hHeld ?rest9sy
          case hy9sy => (intro W hSw; (try dsimp only at hSw); go_simp; try with_reducible rfl)
          try simp only [Act.put, List.setIfInBounds_toArray, List.set_cons_zero, List.set_cons_succ]
          refine wpAnyH_take (i := 10) (oi := { dst := some 28, op := Go.Op.extract (Go.Operand.tmp 18) 0, type := 68, pos := "ref.go:91", after := #[{ on := 9, ground := Go.Ground.data }], guard := none }) (v := ?v10sy) rfl (by kernel_rfl) (by kernel_rfl) (by kernel_rfl) (fun _ _ _ h => h) (Or.inl ⟨by rfl, ?hy10sy⟩) hHeld ?rest10sy
          case hy10sy => (intro W hSw; (try dsimp only at hSw); go_simp; try with_reducible rfl)
          try simp only [Act.put, List.setIfInBounds_toArray, List.set_cons_zero, List.set_cons_succ]
          refine wpAnyH_take (i := 11) (oi := { dst := some 29, op := Go.Op.extract (Go.Operand.tmp 18) 1, type := 3, pos := "ref.go:91", after := #[{ on := 9, ground := Go.Ground.data }, { on := 13, ground := Go.Ground.gcOnly Go.Departure.lateStores }], guard := none }) (v := ?v11sy) rfl (by kernel_rfl) (by kernel_rfl) (by kernel_rfl) (fun _ _ _ h => h) (Or.inl ⟨by rfl, ?hy11sy⟩) hHeld ?rest11sy
          case hy11sy => (intro W hSw; (try dsimp only at hSw); go_simp; try with_reducible rfl)
          try simp only [Act.put, List.setIfInBounds_toArray, List.set_cons_zero, List.set_cons_succ]
          refine wpAnyH_ready (rs := [13]) (by kernel_rfl) (by simp) ?_
          refine AllReadyH.cons (o := { dst := none, op := Go.Op.store 68 (Go.Operand.tmp 9) (Go.Operand.tmp 28), type := 0, pos := "ref.go:91", after := #[{ on := 12, ground := Go.Ground.data }, { on := 10, ground := Go.Ground.data }, { on := 8, ground := Go.Ground.chain }, { on := 0, ground := Go.Ground.phase }, { on := 1, ground := Go.Ground.phase }, { on := 2, ground := Go.Ground.phase }, { on := 3, ground := Go.Ground.phase }, { on := 4, ground := Go.Ground.phase }, { on := 5, ground := Go.Ground.phase }, { on := 6, ground := Go.Ground.phase }, { on := 7, ground := Go.Ground.phase }, { on := 8, ground := Go.Ground.phase }, { on := 9, ground := Go.Ground.phase }, { on := 10, ground := Go.Ground.phase }, { on := 11, ground := Go.Ground.textOnly Go.Departure.lateStores }, { on := 12, ground := Go.Ground.phase }], guard := none }) rfl (fun K hK => ?_) AllReadyH.nil
          go_simp
          refine hK.out _ _ ((((hB5.setCell (Nat.le_refl _) _).setCell (Nat.le_refl _) _).setCell (Nat.le_refl _) _).setCell (Nat.le_refl _) _) (fun hHeld' => ?_)
          clear hK K hHeld
          have hHeld := hHeld'
          clear hHeld'
          try simp only [Act.put, List.setIfInBounds_toArray, List.set_cons_zero, List.set_cons_succ]
          refine wpAnyH_take (i := 14) (oi := { dst := some 10, op := Go.Op.assign (Go.Operand.tmp 29), type := 3, pos := "ref.go:91", after := #[{ on := 11, ground := Go.Ground.data }, { on := 13, ground := Go.Ground.chain }, { on := 0, ground := Go.Ground.phase }, { on := 1, ground := Go.Ground.phase }, { on := 2, ground := Go.Ground.phase }, { on := 3, ground := Go.Ground.phase }, { on := 4, ground := Go.Ground.phase }, { on := 5, ground := Go.Ground.phase }, { on := 6, ground := Go.Ground.phase }, { on := 7, ground := Go.Ground.phase }, { on := 8, ground := Go.Ground.phase }, { on := 9, ground := Go.Ground.phase }, { on := 10, ground := Go.Ground.phase }, { on := 11, ground := Go.Ground.phase }, { on := 12, ground := Go.Ground.phase }, { on := 13, ground := Go.Ground.phase }], guard := none }) (v := ?v14sy) rfl (by kernel_rfl) (by kernel_rfl) (by kernel_rfl) (fun _ _ _ h => h) (Or.inl ⟨by rfl, ?hy14sy⟩) hHeld ?rest14sy
          case hy14sy => (intro W hSw; (try dsimp only at hSw); go_simp; try with_reducible rfl)
          try simp only [Act.put, List.setIfInBounds_toArray, List.set_cons_zero, List.set_cons_succ]
          refine wpAnyH_done (by kernel_rfl) ?_ _
          try dsimp only
          try simp only [Act.put, List.setIfInBounds_toArray, List.set_cons_zero, List.set_cons_succ]
          generalize hW6 : World.setCell (World.setCell (World.setCell (World.setCell w5 _ _) _ _) _ _) _ _ = W6 at hHeld ⊢
          have c0 : W6.cell? ⟨wr.heap.size, 0, none⟩ = some (.int .i64 vk) := by rw [← hW6]; simp [go_sem, z0]
          have c1 : W6.cell? ⟨wr.heap.size, 1, none⟩ = some (.int .i64 vi) := by rw [← hW6]; simp [go_sem, z1]
          have c2 : W6.cell? ⟨wr.heap.size, 2, none⟩ = some (.int .u64 vu) := by rw [← hW6]; simp [go_sem, z2]
          have c3 : W6.cell? ⟨wr.heap.size, 3, none⟩ = some (.string vs) := by rw [← hW6]; simp [go_sem, z3]
          have hbl : wr.heap.size < W6.heap.size := World.block_lt_of_cell? W6 _ c0
          have HW6 := Lib.hid (HW.out.trans (hHeld.mono HW.out.size))
          have HX6 := Lib.hid (cell_old HX.out hHeld)
          have HO6 := Lib.hid (own_keep4 HO.out hHeld)
          have hz6 := hHeld.size
          clear hHeld hW6 hB5
          go_wp2_with (first | (at_builtin; refine wpList_append_own _ rfl _ _ 27 rfl (w.heap.size + 1) 68 i0 (.agg #[.int .i64 0, .int .i64 0, .int .u64 0, .string ⟨#[]⟩]) 4 40 Tryz.underlying27 hi0 hz0 hz1 hz2 rfl (by decide) _ k (vcells pre) rfl (HO6.out.alloc _) ⟨W6.heap.size, 0, none⟩ 1 1 (vc4 ⟨vk, vi, vu, vs⟩) rfl rfl ?e1y ?e2y ?e3y ?e4y ?e5y ?_))
          case e1y =>
            intro j' u' hj'
            match j', hj' with
            | 0, hj' => simp [vc4] at hj'; subst hj'; simp [Addr.add]
            | 1, hj' => simp [vc4] at hj'; subst hj'; simp [Addr.add]
            | 2, hj' => simp [vc4] at hj'; subst hj'; simp [Addr.add]
            | 3, hj' => simp [vc4] at hj'; subst hj'; simp [Addr.add]
          case e2y => intro u' hu'; simp [vc4] at hu'; rcases hu' with rfl | rfl | rfl | rfl <;> rfl
          case e3y => unfold maxLen; omega
          case e4y => omega
          case e5y => simp; omega
          intro v4 w4 hown4 hg4 _
          have HR0 : some w.heap.size ≠ Value.ownBlock _ := fun e => by have := (HO6.out.lt _ e.symm).1; omega
          have HX4 := Lib.hid (show w4.cell? ⟨w.heap.size, 0, none⟩ = some (.slice (some ac) S.cols.length cc) by rw [hg4.cell_far _ (by simp; omega) HR0]; exact cell_old HX6.out ((Below.refl _ _).alloc (Nat.le_refl _) _))
          have HW4 := Lib.hid (show Below w.heap.size w w4 from (HW6.out.alloc HW6.out.size _).grown hg4 (by simp; omega) (fun x h => by have := (HO6.out.lt x h).1; omega))
          rw [← vcells_snoc] at hown4
          have HO4 := Lib.hid hown4
          have HP4 := Lib.hid (show (pre ++ [(⟨vk, vi, vu, vs⟩ : Vl)]).length = k + 1 by rw [List.length_append, HP.out]; rfl)
          clear hown4 hg4 HR0 c0 c1 c2 c3
          go_wp2_with fail
          go_roundw
          case rel => exact ⟨k + 1, t + n, pre ++ [⟨vk, vi, vu, vs⟩], by omega, by omega, by go_num, by go_num, HP4, HN, HO4, HX4, HW4⟩
          case measure => simp [intOf]; omega
        -- END hand_rdS
    · have HN := Lib.hid (HR.out.done (by omega))
      obtain rfl : k = S.cols.length := by omega
      have hx0 := HX.out
      have ho := HO.out
      rw [← HP.out] at ho
      have HS := Lib.hid (slice_own ho)
      have HNW := Lib.hid (own_typed ho)
      clear ho
      go_wp2_with fail
      go_ret2
      rw [HN.out]
      exact ⟨_, rfl, ⟨HS.out, fun g hg => ⟨by have := (HNW.out g hg).1; omega, (HNW.out g hg).2⟩⟩, HW.out⟩
end Go.Proofs.YtocmjlnhcloccaaGreatDoor
