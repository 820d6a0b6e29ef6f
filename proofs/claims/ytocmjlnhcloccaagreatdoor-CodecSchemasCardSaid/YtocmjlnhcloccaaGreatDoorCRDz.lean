/-
  swingbridgeref04.DecodeSchema.
-/
import Derived.Test.YtocmjlnhcloccaaGreatDoorCSchA
import Derived.Test.YtocmjlnhcloccaaGreatDoorCSvs
import Derived.Test.YtocmjlnhcloccaaGreatDoorOctA
import Derived.Test.YtocmjlnhcloccaaGreatDoorCRVl
import Derived.Test.YtocmjlnhcloccaaGreatDoorCSchB
import Derived.Test.YtocmjlnhcloccaaGreatDoorCRdz
import Derived.Deep.CutBlock
namespace Go.Proofs.YtocmjlnhcloccaaGreatDoor
open Go.RowKit

/-- a reader: what is left, or that there was something that is none -/
abbrev RdR := Option (List UInt8)
def rNumP (r : RdR) : RdR × Nat := match r with
  | none => (none, 0)
  | some l => match readN l with
    | some (n, k) => if n ≤ 1000 then (some (l.drop k), n) else (none, 0)
    | none => (none, 0)
def rPlGo : Nat → RdR → RdR × List Int
  | 0, r => (r, [])
  | f + 1, r => ((rPlGo f (rNumP r).1).1, ((rNumP r).2 : Int) :: (rPlGo f (rNumP r).1).2)
def rPlP (r : RdR) : RdR × List Int := rPlGo (min (rNumP r).2 9) (rNumP r).1
def rUqGo : Nat → RdR → RdR × List (List Int)
  | 0, r => (r, [])
  | f + 1, r => ((rUqGo f (rPlP r).1).1, (rPlP r).2 :: (rUqGo f (rPlP r).1).2)
def rColGo : Nat → RdR → Option (RdR × List Col)
  | 0, r => some (r, [])
  | _ + 1, none => some (none, [])
  | f + 1, some l => match readT l with
    | none => none
    | some (s, k) => match rColGo f (rNumP (rNumP (rNumP (some (l.drop k))).1).1).1 with
      | none => none
      | some (r5, cs) => some (r5, ⟨⟨s.toArray⟩, (rNumP (some (l.drop k))).2, (rNumP (rNumP (some (l.drop k))).1).2, decide ((rNumP (rNumP (rNumP (some (l.drop k))).1).1).2 = 1)⟩ :: cs)
/-- what is read, and whether it is anything -/
def refRd (b : List UInt8) : Option (RdR × Sch) := match rColGo (min (rNumP (some b)).2 9) (rNumP (some b)).1 with
  | none => none
  | some (r1, cs) => some ((rUqGo (min (rNumP (rPlP r1).1).2 4) (rNumP (rPlP r1).1).1).1, ⟨cs, (rPlP r1).2, (rUqGo (min (rNumP (rPlP r1).1).2 4) (rNumP (rPlP r1).1).1).2⟩)
def refS (b : List UInt8) : Option Sch := match refRd b with
  | none => none
  | some (r, S) => if r.isSome = true ∧ schOk S = true ∧ schL S = b then some S else none
theorem rNumP_full (n : Nat) (m : List UInt8) (h : n ≤ 1000) : rNumP (some (numB n ++ m)) = (some m, n) := by
  unfold rNumP
  simp only
  rw [readN_numB n m (by omega)]
  simp only
  rw [if_pos h, ← numB_length, List.drop_left]
theorem rPlGo_full : ∀ (xs : List Int) (m : List UInt8), (∀ x ∈ xs, 0 ≤ x ∧ x ≤ 8) → rPlGo xs.length (some (xs.flatMap (fun x => numB x.toNat) ++ m)) = (some m, xs)
  | [], _, _ => rfl
  | x :: xs, m, h => by
    have hx := h x (by simp)
    have ih := rPlGo_full xs m (fun y hy => h y (by simp [hy]))
    rw [List.flatMap_cons, List.length_cons, List.append_assoc]
    unfold rPlGo
    rw [rNumP_full x.toNat _ (by omega)]
    simp only
    rw [ih]
    simp only [Prod.mk.injEq, true_and, List.cons.injEq, and_true]
    omega
theorem rPlP_full (xs : List Int) (m : List UInt8) (h : IntB xs) : rPlP (some (encI xs ++ m)) = (some m, xs) := by
  obtain ⟨hl, hx⟩ := h
  unfold rPlP encI
  rw [List.append_assoc, rNumP_full xs.length _ (by omega)]
  simp only
  rw [Nat.min_eq_left (by omega), rPlGo_full xs m hx]
theorem rUqGo_full : ∀ (us : List (List Int)) (m : List UInt8), (∀ l ∈ us, IntB l) → rUqGo us.length (some (us.flatMap encI ++ m)) = (some m, us)
  | [], _, _ => rfl
  | x :: xs, m, h => by
    have ih := rUqGo_full xs m (fun y hy => h y (by simp [hy]))
    rw [List.flatMap_cons, List.length_cons, List.append_assoc]
    unfold rUqGo
    rw [rPlP_full x _ (h x (by simp))]
    simp only
    rw [ih]
theorem rColGo_full : ∀ (cs : List Col) (m : List UInt8), (∀ c ∈ cs, ColB c) → rColGo cs.length (some (cs.flatMap encCol ++ m)) = some (some m, cs)
  | [], _, _ => rfl
  | x :: xs, m, h => by
    have ih := rColGo_full xs m (fun y hy => h y (by simp [hy]))
    obtain ⟨n, t, z, u⟩ := x
    obtain ⟨hn, ht0, ht, hz0, hz⟩ := h ⟨n, t, z, u⟩ (by simp)
    simp only at hn ht0 ht hz0 hz
    have hnl : n.data.toList.length ≤ 24 := by rw [Array.length_toList]; exact hn
    rw [List.flatMap_cons, List.length_cons, List.append_assoc]
    rw [show encCol ⟨n, t, z, u⟩ = txtL n.data.toList ++ (numB t.toNat ++ (numB z.toNat ++ numB (if u = true then 1 else 0))) from rfl]
    simp only [List.append_assoc]
    unfold rColGo
    rw [readT_txt _ _ (by omega)]
    simp only
    rw [List.drop_left, rNumP_full t.toNat _ (by omega)]
    simp only
    rw [rNumP_full z.toNat _ (by omega)]
    simp only
    rw [rNumP_full (if u = true then 1 else 0) _ (by split <;> omega)]
    simp only
    rw [ih]
    simp only [Option.some.injEq, Prod.mk.injEq, true_and, List.cons.injEq, and_true]
    have e1 : ((t.toNat : Nat) : Int) = t := by omega
    have e2 : ((z.toNat : Nat) : Int) = z := by omega
    rw [e1, e2]
    cases u <;> simp
theorem refRd_full {S : Sch} (h : schOk S = true) : refRd (schL S) = some (some [], S) := by
  have hb := schOk_bd h
  obtain ⟨cs, ks, us⟩ := S
  obtain ⟨h1, h2, h3, h4, h5⟩ := hb
  simp only at h1 h2 h3 h4 h5
  unfold refRd schL
  simp only [List.append_assoc]
  rw [rNumP_full cs.length _ (by omega)]
  simp only
  rw [Nat.min_eq_left (by omega), rColGo_full cs _ h2]
  simp only
  rw [rPlP_full ks _ h3]
  simp only
  rw [rNumP_full us.length _ (by omega)]
  simp only
  have h6 := rUqGo_full us [] h5
  rw [List.append_nil] at h6
  rw [Nat.min_eq_left (by omega), h6]
theorem refS_some {b : List UInt8} {S : Sch} : refS b = some S ↔ schOk S = true ∧ schL S = b := by
  constructor
  · intro h
    unfold refS at h
    split at h
    · cases h
    · split at h
      · rename_i hc
        cases h
        exact hc.2
      · cases h
  · rintro ⟨h, rfl⟩
    unfold refS
    rw [refRd_full h]
    simp [h]
/-- both tell the same -/
theorem refS_decS (b : List UInt8) : refS b = decS b := by
  cases h : decS b with
  | some S => exact refS_some.2 (decS_some.1 h)
  | none =>
    cases h2 : refS b with
    | none => rfl
    | some S => rw [decS_some.2 (refS_some.1 h2)] at h; cases h
end Go.Proofs.YtocmjlnhcloccaaGreatDoor
namespace Go.Proofs.YtocmjlnhcloccaaGreatDoor
open Go.RowKit

/-- a reader's value: what is left of the bytes, which lie below N, or that there was something that is none -/
def RV (N : Nat) (W : World) (r : RdR) (ob : Option Addr) (n c : Nat) (b : Bool) : Prop :=
  match r with
  | some l => n = l.length ∧ BelowAt W N ob l ∧ l.length ≤ c ∧ l.length ≤ 1000000 ∧ b = false
  | none => ob = none ∧ n = 0 ∧ c = 0 ∧ b = true
theorem RV.keep {N : Nat} {W W' : World} {r : RdR} {ob : Option Addr} {n c : Nat} {b : Bool} (h : RV N W r ob n c b) (hb : Below N W W') : RV N W' r ob n c b := by
  cases r with
  | none => exact h
  | some l => exact ⟨h.1, h.2.1.keep hb, h.2.2⟩
theorem RV.bytes {N : Nat} {W : World} {r : RdR} {ob : Option Addr} {n c : Nat} {b : Bool} (h : RV N W r ob n c b) : ∃ l : List UInt8, n = l.length ∧ l.length ≤ 1000000 ∧ BelowAt W N ob l ∧ BytesAt W (.slice ob l.length c) l ∧ (r = some l ∧ b = false ∨ r = none ∧ b = true ∧ l = []) := by
  cases r with
  | none =>
    obtain ⟨rfl, rfl, rfl, rfl⟩ := h
    exact ⟨[], rfl, by decide, (fun j hj => by cases hj), ⟨none, 0, rfl, Nat.le_refl _, (fun j hj => by cases hj)⟩, .inr ⟨rfl, rfl, rfl⟩⟩
  | some l =>
    obtain ⟨rfl, h1, h2, h3, rfl⟩ := h
    exact ⟨l, rfl, h3, h1, h1.bytes h2, .inl ⟨rfl, rfl⟩⟩
theorem BelowAt.rest2 {N : Nat} {W : World} {oa : Option Addr} {l : List UInt8} {c k : Nat} (h : BelowAt W N oa l) (hc : l.length ≤ c) (hk : k ≤ l.length) (ob : Option Addr) (hob : ob = if c = k then oa else oa.map (·.add (k * 1))) : BelowAt W N ob (l.drop k) := fun j hj => by
  have hjl : k + j < l.length := by rw [List.length_drop] at hj; omega
  have hs := sliced_at (h.bytes hc) hk (Nat.le_refl l.length)
  rw [List.take_of_length_le (by simp)] at hs
  unfold sliced at hs
  obtain ⟨o2, c2, e, _, hcell⟩ := hs
  obtain ⟨a, ha, hx⟩ := hcell j hj
  simp only [Value.slice.injEq] at e
  obtain ⟨a0, ha0, hlt, _⟩ := h (k + j) hjl
  have e2 : ob = some a := by rw [hob, ← ha, ← e.1]
  refine ⟨a, e2, ?_, hx⟩
  rw [hob, ha0, if_neg (by omega)] at e2
  simp only [Option.map_some, Option.some.injEq] at e2
  rw [← e2, Addr.add_block]
  exact hlt
theorem rNumP_le : ∀ r : RdR, (rNumP r).2 ≤ 1000
  | none => Nat.zero_le _
  | some l => by
    unfold rNumP
    simp only
    split
    · split
      · rename_i h; exact h
      · exact Nat.zero_le _
    · exact Nat.zero_le _
/-- what number tells -/
def RNPost (N : Nat) (r : RdR) (w : World) (e : Ending) (w' : World) : Prop := ∃ ob n c b, e = .returned (.tuple #[.agg #[.slice ob n c, .bool b], .int .i64 ((rNumP r).2 : Nat)]) ∧ RV N w' (rNumP r).1 ob n c b ∧ Below w.heap.size w w'
theorem rnum_bad (N : Nat) (r : RdR) (h : rNumP r = (none, 0)) (w w' : World) (hb : Below w.heap.size w w') : RNPost N r w (.returned (.tuple #[.agg #[.slice none 0 0, .bool true], .int .i64 0])) w' := by
  unfold RNPost
  rw [h]
  exact ⟨none, 0, 0, true, rfl, ⟨rfl, rfl, rfl, rfl⟩, hb⟩
set_option maxRecDepth 100000 in
set_option maxHeartbeats 2000000 in
theorem rnum_any (N : Nat) (r : RdR) (ob : Option Addr) (n c : Nat) (b : Bool) (w : World) (h : RV N w r ob n c b) (hNw : N ≤ w.heap.size) :
    Calls Tryz.prog 54 #[.agg #[.slice ob n c, .bool b]] w (RNPost N r w) := by
  have hh := h
  obtain ⟨l, rfl, hl, hbl, hba, hc⟩ := h.bytes
  have hba2 := hba.keep (((Below.refl _ _).alloc (Nat.le_refl _) (.cells #[.slice ob l.length c, .bool b] 102)).alloc (by simp) (.cells #[.slice none 0 0, .bool false] 102)) (Nat.le_refl _)
  have C := rReadNumber_any _ l _ hba2 hl
  have HBA := Lib.hid hba
  have HBL := Lib.hid hbl
  clear h hba hba2 hbl
  cases hN : readN l with
  | none =>
    rw [hN, show rdRes none = .tuple #[.int .u64 0, .int .i64 0, .int .i64 120] from rfl] at C
    have HC := Lib.hid C
    have HE := Lib.hid (show rNumP r = (none, 0) by
      rcases hc with ⟨rfl, _⟩ | ⟨rfl, _⟩
      · unfold rNumP; simp only [hN]
      · rfl)
    clear C hN hc
    cases b
    · go_enter Tryz.func54, Tryz.ntmps54
      go_wp2_with (first | (go_at_call 85; refine HC.out.mono ?_; rintro e w' ⟨rfl, rfl⟩))
      exact bodyPost_ret (v := .tuple #[.agg #[.slice none 0 0, .bool true], .int .i64 0]) (by simp [results, Tryz.results54, go_sem]) rfl (rnum_bad N r HE.out w _ (by (repeat refine Below.set ?_ (by simp)); exact ((Below.refl _ _).alloc (Nat.le_refl _) _).alloc (by simp) _))
    · go_enter Tryz.func54, Tryz.ntmps54
      go_wp2_with (first | (go_at_call 85; refine HC.out.mono ?_; rintro e w' ⟨rfl, rfl⟩))
      exact bodyPost_ret (v := .tuple #[.agg #[.slice none 0 0, .bool true], .int .i64 0]) (by simp [results, Tryz.results54, go_sem]) rfl (rnum_bad N r HE.out w _ (by (repeat refine Below.set ?_ (by simp)); exact ((Below.refl _ _).alloc (Nat.le_refl _) _).alloc (by simp) _))
  | some x =>
    obtain ⟨m, k⟩ := x
    rcases hc with ⟨rfl, rfl⟩ | ⟨rfl, rfl, rfl⟩
    · rw [hN, show rdRes (some (m, k)) = .tuple #[.int .u64 m, .int .i64 k, .int .i64 0] from rfl] at C
      have HC := Lib.hid C
      have hk := (readN_lt hN).2.2.2
      have h64 := (readN_lt hN).1
      by_cases hm : m ≤ 1000
      · have HE := Lib.hid (show rNumP (some l) = (some (l.drop k), m) by unfold rNumP; simp only [hN]; rw [if_pos hm])
        have hsl : ∀ W, (Instr.sliceAt 31 (.slice ob l.length c) (some (.int .i64 (k : Int))) none none).run Tryz.prog W = .ok (sliced ob k l.length c 1) W := fun W => sl_l ob l.length c k W hk
        have hlc : l.length ≤ c := by obtain ⟨oa', cap', e, hc, _⟩ := HBA.out; cases e; exact hc
        have hdr : ∃ ob2, (if c = k then ob else ob.map (·.add (k * 1))) = ob2 ∧ BelowAt w N ob2 (l.drop k) := ⟨_, rfl, HBL.out.rest2 hlc hk _ rfl⟩
        unfold sliced at hsl
        obtain ⟨ob2, ho2, hdr⟩ := hdr
        rw [ho2] at hsl
        obtain ⟨c2, hc2⟩ : ∃ c2, c - k = c2 := ⟨_, rfl⟩
        rw [hc2] at hsl
        obtain ⟨n2, hn2⟩ : ∃ n2, l.length - k = n2 := ⟨_, rfl⟩
        rw [hn2] at hsl
        have HDR := Lib.hid hdr
        have HN2 := Lib.hid hn2
        have e2 := i64_nat m (by omega)
        have hm2 : (m : Int) ≤ 1000 := by omega
        have HC2 := Lib.hid hc2
        clear C hN hdr hn2 hc2 ho2
        go_enter Tryz.func54, Tryz.ntmps54
        go_wp2_with (first | (go_at_call 85; refine HC.out.mono ?_; rintro e w' ⟨rfl, rfl⟩))
        refine bodyPost_ret (v := .tuple #[.agg #[.slice ob2 n2 c2, .bool false], .int .i64 m]) (by simp [results, Tryz.results54, go_sem]) rfl ?_
        unfold RNPost
        rw [HE.out]
        have hB : ∀ W', Below w.heap.size w W' → RV N W' (some (l.drop k)) ob2 n2 c2 false := fun W' hb => ⟨by rw [List.length_drop]; exact HN2.out.symm, HDR.out.keep (hb.mono hNw), by rw [List.length_drop, ← HC2.out]; omega, by rw [List.length_drop]; omega, rfl⟩
        refine ⟨ob2, n2, c2, false, rfl, hB _ ?_, ?_⟩ <;> ((repeat refine Below.set ?_ (by simp)); exact ((Below.refl _ _).alloc (Nat.le_refl _) _).alloc (by simp) _)
      · have HE := Lib.hid (show rNumP (some l) = (none, 0) by unfold rNumP; simp only [hN]; rw [if_neg hm])
        have hm2 : 1000 < (m : Int) := by omega
        clear C hN
        go_enter Tryz.func54, Tryz.ntmps54
        go_wp2_with (first | (go_at_call 85; refine HC.out.mono ?_; rintro e w' ⟨rfl, rfl⟩))
        exact bodyPost_ret (v := .tuple #[.agg #[.slice none 0 0, .bool true], .int .i64 0]) (by simp [results, Tryz.results54, go_sem]) rfl (rnum_bad N (some l) HE.out w _ (by (repeat refine Below.set ?_ (by simp)); exact ((Below.refl _ _).alloc (Nat.le_refl _) _).alloc (by simp) _))
    · cases (show readN [] = none from rfl).symm.trans hN
theorem rPlGo_len : ∀ (f : Nat) (r : RdR), (rPlGo f r).2.length = f
  | 0, _ => rfl
  | f + 1, r => by simp only [rPlGo, List.length_cons]; rw [rPlGo_len f]
theorem rPlGo_bd : ∀ (f : Nat) (r : RdR), ∀ x ∈ (rPlGo f r).2, 0 ≤ x ∧ x ≤ 1000
  | 0, _, x, h => by cases h
  | f + 1, r, x, h => by
    simp only [rPlGo] at h
    rcases List.mem_cons.1 h with rfl | h
    · have := rNumP_le r; omega
    · exact rPlGo_bd f _ x h
/-- of f places xs have been read -/
def PRel (f : Nat) (r0 : RdR) (k : Nat) (xs : List Int) (r : RdR) : Prop := rPlGo f r0 = ((rPlGo (f - k) r).1, xs ++ (rPlGo (f - k) r).2)
theorem PRel.zero (f : Nat) (r : RdR) : PRel f r 0 [] r := by unfold PRel; simp
theorem PRel.next {f : Nat} {r0 : RdR} {k : Nat} {xs : List Int} {r : RdR} (h : PRel f r0 k xs r) (hk : k < f) : PRel f r0 (k + 1) (xs ++ [((rNumP r).2 : Int)]) (rNumP r).1 := by
  unfold PRel at *
  rw [h, show f - k = (f - (k + 1)) + 1 by omega]
  simp only [rPlGo]
  simp
theorem PRel.done {f : Nat} {r0 : RdR} {xs : List Int} {r : RdR} (h : PRel f r0 f xs r) : rPlGo f r0 = (r, xs) := by
  unfold PRel at h
  rw [h, Nat.sub_self]
  simp [rPlGo]
/-- the boxes of places: the reader's, the result's -/
structure PBx (W : World) (B : Nat) (x y : Value) : Prop where
  c0 : W.cell? ⟨B, 0, none⟩ = some x
  c1 : W.cell? ⟨B, 1, none⟩ = some y
  cf : ∀ o, W.frozen? ⟨B, o, none⟩ = false
  r0 : W.cell? ⟨B + 1, 0, none⟩ = some (.slice none 0 0)
  r1 : W.cell? ⟨B + 1, 1, none⟩ = some (.bool false)
  rf : ∀ o, W.frozen? ⟨B + 1, o, none⟩ = false
theorem PBx.grown {W W' : World} {B : Nat} {x y : Value} {row : Option Nat} (h : PBx W B x y) (hg : W.grownBy W' row) (hr : ∀ k, row = some k → B + 2 ≤ k) : PBx W' B x y := by
  have hl : B + 1 < W.heap.size := World.block_lt_of_cell? _ _ h.r0
  have q : ∀ o, W'.cell? ⟨B, o, none⟩ = W.cell? ⟨B, o, none⟩ := fun o => hg.cell_far _ (by simp; omega) (fun e => by have h3 : B + 2 ≤ B := hr _ e.symm; omega)
  have q1 : ∀ o, W'.cell? ⟨B + 1, o, none⟩ = W.cell? ⟨B + 1, o, none⟩ := fun o => hg.cell_far _ (by simp; omega) (fun e => by have h3 : B + 2 ≤ B + 1 := hr _ e.symm; omega)
  exact ⟨by rw [q]; exact h.c0, by rw [q]; exact h.c1, fun o => by rw [hg.frozen_far _ (by simp; omega) (fun e => by have h3 : B + 2 ≤ B := hr _ e.symm; omega)]; exact h.cf o, by rw [q1]; exact h.r0, by rw [q1]; exact h.r1, fun o => by rw [hg.frozen_far _ (by simp; omega) (fun e => by have h3 : B + 2 ≤ B + 1 := hr _ e.symm; omega)]; exact h.rf o⟩
theorem PBx.set {W : World} {B : Nat} {x y : Value} (h : PBx W B x y) (u v : Value) : PBx ((W.setCell ⟨B, 0, none⟩ u).setCell ⟨B, 1, none⟩ v) B u v := by
  obtain ⟨c0, c1, cf, r0, r1, rf⟩ := h
  refine ⟨?_, ?_, fun o => ?_, ?_, ?_, fun o => ?_⟩ <;> simp [go_sem, *]
theorem own_set {W : World} {B N n sz o : Nat} {e : TypeId} {v x : Value} {xs : List Value} (h : W.ownsRow N e sz v n xs) (hB : B < N) : (W.setCell ⟨B, o, none⟩ x).ownsRow N e sz v n xs :=
  h.kept (row := some B) ⟨rfl, rfl, rfl, by simp, fun k _ hk => by
    unfold World.setCell
    simp only [Array.getElem?_modify]
    rw [if_neg (fun e => hk (by rw [e]))]⟩ (by
    cases hv : v.ownBlock with
    | none => exact .inl rfl
    | some g => exact .inr (fun e => by cases e; have := (h.lt _ hv).1; omega))
/-- what places tells -/
def RPPost (N : Nat) (P : RdR × List Int) (w : World) (e : Ending) (w' : World) : Prop := ∃ ob n c b v, e = .returned (.tuple #[.agg #[.slice ob n c, .bool b], v]) ∧ RV N w' P.1 ob n c b ∧ w'.ownsRow (w.heap.size + 2) 3 1 v P.2.length (ivs P.2) ∧ Below w.heap.size w w'
theorem pbx_new (w : World) (ob : Option Addr) (n c : Nat) (b : Bool) : PBx ((w.alloc (.cells #[.slice ob n c, .bool b] 102)).alloc (.cells #[.slice none 0 0, .bool false] 102)) w.heap.size (.slice ob n c) (.bool b) := by
  refine ⟨?_, ?_, fun o => ?_, ?_, ?_, fun o => ?_⟩ <;> simp [go_sem]
set_option maxRecDepth 100000 in
set_option maxHeartbeats 4000000 in
theorem rplaces_any (N : Nat) (r : RdR) (ob : Option Addr) (n c : Nat) (b : Bool) (w : World) (h : RV N w r ob n c b) (hNw : N ≤ w.heap.size) :
    Calls Tryz.prog 56 #[.agg #[.slice ob n c, .bool b]] w (RPPost N (rPlP r) w) := by
  obtain ⟨i0, hi0, hz0, hz1, hz2⟩ := info_parts infoI
  have b0 : Below w.heap.size w ((w.alloc (.cells #[.slice ob n c, .bool b] 102)).alloc (.cells #[.slice none 0 0, .bool false] 102)) := ((Below.refl _ _).alloc (Nat.le_refl _) _).alloc (by simp) _
  have H1 := Lib.hid (rnum_any N r ob n c b _ (h.keep (b0.mono hNw)) (by simp; omega))
  have HN := Lib.hid (fun W r ob n c b h hN => rnum_any N r ob n c b W h hN)
  have HB0 := Lib.hid b0
  have HP0 := Lib.hid (pbx_new w ob n c b)
  have hm := rNumP_le r
  obtain ⟨m, hme⟩ : ∃ m, (rNumP r).2 = m := ⟨_, rfl⟩
  have HR := Lib.hid (show rPlP r = rPlGo (min m 9) (rNumP r).1 by unfold rPlP; rw [hme])
  unfold RNPost at H1
  rw [hme] at H1 hm
  obtain ⟨r1, hr1⟩ : ∃ r1, (rNumP r).1 = r1 := ⟨_, rfl⟩
  rw [hr1] at H1 HR
  clear h b0 hme hr1
  obtain ⟨P, hP⟩ : ∃ P, rPlP r = P := ⟨_, rfl⟩
  rw [hP] at HR ⊢
  clear hP
  go_enter Tryz.func56, Tryz.ntmps56
  go_wp2_with fail
  refine H1.out.mono ?_
  rintro e w1 ⟨ob1, n1, c1, b1, rfl, hv1, hb1⟩
  have hp1 := HP0.out.grown (grown_below hb1 none) (fun _ h => by cases h)
  have e0 := hp1.c0
  have e1 := hp1.c1
  have f0 := hp1.cf 0
  have f1 := hp1.cf 1
  have HV2 := Lib.hid (hv1.keep (((Below.refl N w1).setCell (p := ⟨w.heap.size, 0, none⟩) hNw (.slice ob1 n1 c1)).setCell (p := ⟨w.heap.size, 1, none⟩) hNw (.bool b1)))
  have HP2 := Lib.hid (hp1.set (.slice ob1 n1 c1) (.bool b1))
  have HB2 := Lib.hid (((HB0.out.trans (hb1.mono HB0.out.size)).setCell (p := ⟨w.heap.size, 0, none⟩) (Nat.le_refl _) (.slice ob1 n1 c1)).setCell (p := ⟨w.heap.size, 1, none⟩) (Nat.le_refl _) (.bool b1))
  clear hv1 hb1 hp1
  go_wp2_with fail
  go_loopw [5, 6, 7] (fun o t _ wr => ∃ (k : Nat) (xs : List Int) (r' : RdR) (ob' : Option Addr) (n' c' : Nat) (b' : Bool), k ≤ min m 9 ∧ xs.length = k ∧ t = .int .i64 k ∧ Hid (PRel (min m 9) r1 k xs r') ∧ Hid (wr.ownsRow (w.heap.size + 2) 3 1 o k (ivs xs)) ∧ Hid (RV N wr r' ob' n' c' b') ∧ Hid (PBx wr w.heap.size (.slice ob' n' c') (.bool b')) ∧ Hid (Below w.heap.size w wr)) (fun _ t _ _ => 9 - (intOf t).toNat)
  case atStart => exact ⟨0, [], r1, ob1, n1, c1, b1, Nat.zero_le _, rfl, rfl, Lib.hid (PRel.zero _ _), Lib.hid (World.ownsRow_nil _ _ _ _), HV2, HP2, HB2⟩
  case round =>
    obtain ⟨k, xs, r', ob', n', c', b', hk, hxl, rfl, HPR, HO, HV, HPB, HB⟩ := hrel
    have g0 := HPB.out.c0
    have g1 := HPB.out.c1
    by_cases hlt : k < min m 9
    · have hk2 : (k : Int) < (m : Int) := by omega
      have hk9 : (k : Int) < 9 := by omega
      have hwr := HB.out.size
      have HC := Lib.hid (HN.out wr r' ob' n' c' b' HV.out (by omega))
      obtain ⟨x, hx⟩ : ∃ x, (rNumP r').2 = x := ⟨_, rfl⟩
      have HNX := Lib.hid (HPR.out.next hlt)
      unfold RNPost at HC
      rw [hx] at HC HNX
      clear hx
      go_wp2_with fail
      refine HC.out.mono ?_
      rintro e w2 ⟨ob2, n2, c2, b2, rfl, hv2, hb2⟩
      have hp2 := HPB.out.grown (grown_below hb2 none) (fun _ h => by cases h)
      have e0 := hp2.c0
      have e1 := hp2.c1
      have f0 := hp2.cf 0
      have f1 := hp2.cf 1
      have HV3 := Lib.hid (hv2.keep (((Below.refl N w2).setCell (p := ⟨w.heap.size, 0, none⟩) hNw (.slice ob2 n2 c2)).setCell (p := ⟨w.heap.size, 1, none⟩) hNw (.bool b2)))
      have HP3 := Lib.hid (hp2.set (.slice ob2 n2 c2) (.bool b2))
      have HB3 := Lib.hid (((HB.out.trans (hb2.mono hwr)).setCell (p := ⟨w.heap.size, 0, none⟩) (Nat.le_refl _) (.slice ob2 n2 c2)).setCell (p := ⟨w.heap.size, 1, none⟩) (Nat.le_refl _) (.bool b2))
      have hww : w.heap.size < w.heap.size + 2 := by omega
      have HO3 := Lib.hid (own_set (B := w.heap.size) (o := 1) (x := .bool b2) (own_set (B := w.heap.size) (o := 0) (x := .slice ob2 n2 c2) (own_stay HO.out hb2) hww) hww)
      clear hv2 hb2 hp2
      generalize hw3 : (w2.setCell ⟨w.heap.size, 0, none⟩ (.slice ob2 n2 c2)).setCell ⟨w.heap.size, 1, none⟩ (.bool b2) = w3 at HV3 HP3 HB3 HO3
      go_upto_region 8 with fail
      try rw [hw3]
      clear hw3 e0 e1 f0 f1
      go_wp2_with (first | (at_builtin; refine wpList_append_own _ rfl _ _ 23 rfl (w.heap.size + 2) 3 i0 (.int .i64 0) 1 8 Tryz.underlying23 hi0 hz0 hz1 hz2 rfl (by decide) _ k (ivs xs) rfl (HO3.out.alloc _) ⟨w3.heap.size, 0, none⟩ 1 1 [.int .i64 x] rfl rfl ?e1 ?e2 ?e3 ?e4 ?e5 ?_))
      case e1 =>
        intro j' u' hj'
        match j', hj' with
        | 0, hj' => simp at hj'; subst hj'; simp [Addr.add]
      case e2 => intro u' hu'; simp at hu'; subst hu'; rfl
      case e3 => unfold maxLen; omega
      case e4 => omega
      case e5 => have := World.block_lt_of_cell? _ _ HP3.out.r0; simp at this ⊢; omega
      intro v4 w4 hown4 hg4 _
      have hB4 : ∀ g, u5.ownBlock = some g → w.heap.size + 2 ≤ g := fun g e => (HO3.out.lt g e).1
      have hs3 := HB3.out.size
      have HV4 := Lib.hid (HV3.out.keep (((Below.refl N w3).alloc (by omega) (.cells #[.int .i64 x] 3)).grown hg4 (by simp; omega) (fun g e => by have := hB4 g e; omega)))
      have HP4 := Lib.hid ((HP3.out.grown (World.grownBy_alloc w3 (.cells #[.int .i64 x] 3) none) (fun _ h => by cases h)).grown hg4 hB4)
      have HB4 := Lib.hid ((HB3.out.alloc HB3.out.size (.cells #[.int .i64 x] 3)).grown hg4 (by simp; omega) (fun g e => by have := hB4 g e; omega))
      rw [show ivs xs ++ [.int .i64 x] = ivs (xs ++ [(x : Int)]) from (ivs_snoc xs x).symm] at hown4
      have HO4 := Lib.hid hown4
      clear hown4 hg4 hB4
      go_wp2_with fail
      go_roundw
      case rel => exact ⟨k + 1, xs ++ [(x : Int)], _, ob2, n2, c2, b2, by omega, by simp [hxl], by go_num, HNX, HO4, HV4, HP4, HB4⟩
      case measure => simp [intOf]; omega
    · have hke : k = min m 9 := by omega
      have HE := Lib.hid (show P = (r', xs) by rw [HR.out]; rw [hke] at HPR; exact HPR.out.done)
      have q0 := HPB.out.r0
      have q1 := HPB.out.r1
      have qf0 := HPB.out.rf 0
      have qf1 := HPB.out.rf 1
      have HF : Hid (RPPost N P w (.returned (.tuple #[.agg #[.slice ob' n' c', .bool b'], u5])) ((wr.setCell ⟨w.heap.size + 1, 0, none⟩ (.slice ob' n' c')).setCell ⟨w.heap.size + 1, 1, none⟩ (.bool b'))) := Lib.hid (by
        have hww : w.heap.size + 1 < w.heap.size + 2 := by omega
        rw [HE.out]
        exact ⟨ob', n', c', b', u5, rfl, HV.out.keep (((Below.refl N wr).setCell (p := ⟨w.heap.size + 1, 0, none⟩) (by simp; omega) _).setCell (p := ⟨w.heap.size + 1, 1, none⟩) (by simp; omega) _), by rw [hxl]; exact own_set (own_set HO.out hww) hww, (HB.out.setCell (p := ⟨w.heap.size + 1, 0, none⟩) (by simp) _).setCell (p := ⟨w.heap.size + 1, 1, none⟩) (by simp) _⟩)
      clear HPR HE
      by_cases hm9 : m ≤ 9
      · have hnk : ¬ ((k : Int) < (m : Int)) := by omega
        clear hke hlt
        go_wp2_with fail
        exact bodyPost_ret (v := .tuple #[.agg #[.slice ob' n' c', .bool b'], u5]) (by simp [results, Tryz.results56, go_sem, q0, q1]) rfl HF.out
      · have hk9 : k = 9 := by omega
        have hkm : (k : Int) < (m : Int) := by omega
        subst hk9
        clear hke hlt
        go_wp2_with fail
        exact bodyPost_ret (v := .tuple #[.agg #[.slice ob' n' c', .bool b'], u5]) (by simp [results, Tryz.results56, go_sem, q0, q1]) rfl HF.out
end Go.Proofs.YtocmjlnhcloccaaGreatDoor
namespace Go.Proofs.YtocmjlnhcloccaaGreatDoor
open Go.RowKit

/-- of f columns cs have been read -/
def KRel (f : Nat) (r0 : RdR) (k : Nat) (cs : List Col) (r : RdR) : Prop := rColGo f r0 = match rColGo (f - k) r with
  | none => none
  | some (r', ys) => some (r', cs ++ ys)
theorem KRel.zero (f : Nat) (r : RdR) : KRel f r 0 [] r := by
  unfold KRel
  rw [Nat.sub_zero]
  cases rColGo f r with
  | none => rfl
  | some x => obtain ⟨a, b⟩ := x; simp
/-- the column that is read -/
def colR (s l : List UInt8) : Col := ⟨⟨s.toArray⟩, (rNumP (some l)).2, (rNumP (rNumP (some l)).1).2, decide ((rNumP (rNumP (rNumP (some l)).1).1).2 = 1)⟩
theorem KRel.next {f : Nat} {r0 : RdR} {k : Nat} {cs : List Col} {l s : List UInt8} {q : Nat} (h : KRel f r0 k cs (some l)) (hk : k < f) (ht : readT l = some (s, q)) : KRel f r0 (k + 1) (cs ++ [colR s (l.drop q)]) (rNumP (rNumP (rNumP (some (l.drop q))).1).1).1 := by
  unfold KRel at *
  rw [h, show f - k = (f - (k + 1)) + 1 by omega]
  simp only [rColGo, ht]
  cases rColGo (f - (k + 1)) (rNumP (rNumP (rNumP (some (l.drop q))).1).1).1 with
  | none => rfl
  | some x => obtain ⟨a, b⟩ := x; simp [colR]
theorem KRel.dead {f : Nat} {r0 : RdR} {k : Nat} {cs : List Col} {l : List UInt8} (h : KRel f r0 k cs (some l)) (hk : k < f) (ht : readT l = none) : rColGo f r0 = none := by
  unfold KRel at h
  rw [h, show f - k = (f - (k + 1)) + 1 by omega]
  simp only [rColGo, ht]
theorem KRel.done {f : Nat} {r0 : RdR} {cs : List Col} {r : RdR} (h : KRel f r0 f cs r) : rColGo f r0 = some (r, cs) := by
  unfold KRel at h
  rw [h, Nat.sub_self]
  simp [rColGo]
theorem KRel.bad {f : Nat} {r0 : RdR} {k : Nat} {cs : List Col} (h : KRel f r0 k cs none) : rColGo f r0 = some (none, cs) := by
  unfold KRel at h
  rw [h]
  cases f - k with
  | zero => simp [rColGo]
  | succ n => simp [rColGo]
/-- of f rows of places us have been read -/
def URel (f : Nat) (r0 : RdR) (k : Nat) (us : List (List Int)) (r : RdR) : Prop := rUqGo f r0 = ((rUqGo (f - k) r).1, us ++ (rUqGo (f - k) r).2)
theorem URel.zero (f : Nat) (r : RdR) : URel f r 0 [] r := by unfold URel; simp
theorem URel.next {f : Nat} {r0 : RdR} {k : Nat} {us : List (List Int)} {r : RdR} (h : URel f r0 k us r) (hk : k < f) : URel f r0 (k + 1) (us ++ [(rPlP r).2]) (rPlP r).1 := by
  unfold URel at *
  rw [h, show f - k = (f - (k + 1)) + 1 by omega]
  simp only [rUqGo]
  simp
theorem URel.done {f : Nat} {r0 : RdR} {us : List (List Int)} {r : RdR} (h : URel f r0 f us r) : rUqGo f r0 = (r, us) := by
  unfold URel at h
  rw [h, Nat.sub_self]
  simp [rUqGo]
theorem rPlP_len (r : RdR) : (rPlP r).2.length ≤ 9 := by
  unfold rPlP
  rw [rPlGo_len]
  exact Nat.min_le_right _ _
theorem rUqGo_len : ∀ (f : Nat) (r : RdR), (rUqGo f r).2.length = f ∧ ∀ l ∈ (rUqGo f r).2, l.length ≤ 9
  | 0, _ => ⟨rfl, fun l h => by cases h⟩
  | f + 1, r => by
    obtain ⟨h1, h2⟩ := rUqGo_len f (rPlP r).1
    refine ⟨by simp only [rUqGo, List.length_cons]; rw [h1], fun l h => ?_⟩
    simp only [rUqGo] at h
    rcases List.mem_cons.1 h with rfl | h
    · exact rPlP_len r
    · exact h2 l h
/-- the boxes: the result's, the schema's, the reader's -/
structure DBx (W : World) (B P : Nat) (x y a0 a1 a2 : Value) : Prop where
  r0 : W.cell? ⟨B, 0, none⟩ = some (.slice none 0 0)
  r1 : W.cell? ⟨B, 1, none⟩ = some (.slice none 0 0)
  r2 : W.cell? ⟨B, 2, none⟩ = some (.slice none 0 0)
  rf : ∀ o, W.frozen? ⟨B, o, none⟩ = false
  s0 : W.cell? ⟨B + 1, 0, none⟩ = some a0
  s1 : W.cell? ⟨B + 1, 1, none⟩ = some a1
  s2 : W.cell? ⟨B + 1, 2, none⟩ = some a2
  sf : ∀ o, W.frozen? ⟨B + 1, o, none⟩ = false
  p0 : W.cell? ⟨P, 0, none⟩ = some x
  p1 : W.cell? ⟨P, 1, none⟩ = some y
  pf : ∀ o, W.frozen? ⟨P, o, none⟩ = false
  ne : B + 1 < P
theorem DBx.lt {W : World} {B P : Nat} {x y a0 a1 a2 : Value} (h : DBx W B P x y a0 a1 a2) : P < W.heap.size := World.block_lt_of_cell? _ _ h.p0
theorem DBx.grown {W W' : World} {B P : Nat} {x y a0 a1 a2 : Value} {row : Option Nat} (h : DBx W B P x y a0 a1 a2) (hg : W.grownBy W' row) (hr : ∀ k, row = some k → P + 1 ≤ k) : DBx W' B P x y a0 a1 a2 := by
  have hl := h.lt
  have hne := h.ne
  have q : ∀ b o, b ≤ P → W'.cell? ⟨b, o, none⟩ = W.cell? ⟨b, o, none⟩ := fun b o hb => hg.cell_far _ (by simp; omega) (fun e => by have h3 : P + 1 ≤ b := hr _ e.symm; omega)
  have qf : ∀ b o, b ≤ P → W'.frozen? ⟨b, o, none⟩ = W.frozen? ⟨b, o, none⟩ := fun b o hb => hg.frozen_far _ (by simp; omega) (fun e => by have h3 : P + 1 ≤ b := hr _ e.symm; omega)
  exact ⟨by rw [q _ _ (by omega)]; exact h.r0, by rw [q _ _ (by omega)]; exact h.r1, by rw [q _ _ (by omega)]; exact h.r2, fun o => by rw [qf _ _ (by omega)]; exact h.rf o, by rw [q _ _ (by omega)]; exact h.s0, by rw [q _ _ (by omega)]; exact h.s1, by rw [q _ _ (by omega)]; exact h.s2, fun o => by rw [qf _ _ (by omega)]; exact h.sf o, by rw [q _ _ (Nat.le_refl _)]; exact h.p0, by rw [q _ _ (Nat.le_refl _)]; exact h.p1, fun o => by rw [qf _ _ (Nat.le_refl _)]; exact h.pf o, hne⟩
theorem DBx.below {W W' : World} {B P : Nat} {x y a0 a1 a2 : Value} (h : DBx W B P x y a0 a1 a2) (hb : Below W.heap.size W W') : DBx W' B P x y a0 a1 a2 := h.grown (grown_below hb none) (fun _ h => by cases h)
theorem DBx.setP {W : World} {B P : Nat} {x y a0 a1 a2 : Value} (h : DBx W B P x y a0 a1 a2) (u v : Value) : DBx ((W.setCell ⟨P, 0, none⟩ u).setCell ⟨P, 1, none⟩ v) B P u v a0 a1 a2 := by
  obtain ⟨r0, r1, r2, rf, s0, s1, s2, sf, p0, p1, pf, ne⟩ := h
  have h1 : B ≠ P := by omega
  have h2 : P ≠ B := by omega
  have h3 : B + 1 ≠ P := by omega
  have h4 : P ≠ B + 1 := by omega
  refine ⟨?_, ?_, ?_, fun o => ?_, ?_, ?_, ?_, fun o => ?_, ?_, ?_, fun o => ?_, ne⟩ <;> simp [go_sem, *]
theorem DBx.setP0 {W : World} {B P : Nat} {x y a0 a1 a2 : Value} (h : DBx W B P x y a0 a1 a2) (u : Value) : DBx (W.setCell ⟨P, 0, none⟩ u) B P u y a0 a1 a2 := by
  obtain ⟨r0, r1, r2, rf, s0, s1, s2, sf, p0, p1, pf, ne⟩ := h
  have h1 : B ≠ P := by omega
  have h2 : P ≠ B := by omega
  have h3 : B + 1 ≠ P := by omega
  have h4 : P ≠ B + 1 := by omega
  refine ⟨?_, ?_, ?_, fun o => ?_, ?_, ?_, ?_, fun o => ?_, ?_, ?_, fun o => ?_, ne⟩ <;> simp [go_sem, *]
theorem DBx.setS0 {W : World} {B P : Nat} {x y a0 a1 a2 : Value} (h : DBx W B P x y a0 a1 a2) (u : Value) : DBx (W.setCell ⟨B + 1, 0, none⟩ u) B P x y u a1 a2 := by
  obtain ⟨r0, r1, r2, rf, s0, s1, s2, sf, p0, p1, pf, ne⟩ := h
  have h1 : B ≠ P := by omega
  have h2 : P ≠ B := by omega
  have h3 : B + 1 ≠ P := by omega
  have h4 : P ≠ B + 1 := by omega
  refine ⟨?_, ?_, ?_, fun o => ?_, ?_, ?_, ?_, fun o => ?_, ?_, ?_, fun o => ?_, ne⟩ <;> simp [go_sem, *]
theorem DBx.setS1 {W : World} {B P : Nat} {x y a0 a1 a2 : Value} (h : DBx W B P x y a0 a1 a2) (u : Value) : DBx (W.setCell ⟨B + 1, 1, none⟩ u) B P x y a0 u a2 := by
  obtain ⟨r0, r1, r2, rf, s0, s1, s2, sf, p0, p1, pf, ne⟩ := h
  have h1 : B ≠ P := by omega
  have h2 : P ≠ B := by omega
  have h3 : B + 1 ≠ P := by omega
  have h4 : P ≠ B + 1 := by omega
  refine ⟨?_, ?_, ?_, fun o => ?_, ?_, ?_, ?_, fun o => ?_, ?_, ?_, fun o => ?_, ne⟩ <;> simp [go_sem, *]
theorem DBx.setS2 {W : World} {B P : Nat} {x y a0 a1 a2 : Value} (h : DBx W B P x y a0 a1 a2) (u : Value) : DBx (W.setCell ⟨B + 1, 2, none⟩ u) B P x y a0 a1 u := by
  obtain ⟨r0, r1, r2, rf, s0, s1, s2, sf, p0, p1, pf, ne⟩ := h
  have h1 : B ≠ P := by omega
  have h2 : P ≠ B := by omega
  have h3 : B + 1 ≠ P := by omega
  have h4 : P ≠ B + 1 := by omega
  refine ⟨?_, ?_, ?_, fun o => ?_, ?_, ?_, ?_, fun o => ?_, ?_, ?_, fun o => ?_, ne⟩ <;> simp [go_sem, *]
theorem dbx_new {w w1 : World} (x y : Value) (hb : Below ((w.alloc (.cells #[.slice none 0 0, .slice none 0 0, .slice none 0 0] 26)).alloc (.cells #[.slice none 0 0, .slice none 0 0, .slice none 0 0] 26)).heap.size ((w.alloc (.cells #[.slice none 0 0, .slice none 0 0, .slice none 0 0] 26)).alloc (.cells #[.slice none 0 0, .slice none 0 0, .slice none 0 0] 26)) w1) : DBx (w1.alloc (.cells #[x, y] 102)) w.heap.size w1.heap.size x y (.slice none 0 0) (.slice none 0 0) (.slice none 0 0) := by
  have hs : w.heap.size + 2 ≤ w1.heap.size := by have := hb.size; simpa using this
  have q : ∀ b o, b ≤ w.heap.size + 1 → (w1.alloc (.cells #[x, y] 102)).cell? ⟨b, o, none⟩ = ((w.alloc (.cells #[.slice none 0 0, .slice none 0 0, .slice none 0 0] 26)).alloc (.cells #[.slice none 0 0, .slice none 0 0, .slice none 0 0] 26)).cell? ⟨b, o, none⟩ := fun b o hbb => by
    rw [World.cell?_alloc_lt _ _ _ (by simp; omega)]
    exact hb.cell (by simp; omega)
  have qf : ∀ b o, b ≤ w.heap.size + 1 → (w1.alloc (.cells #[x, y] 102)).frozen? ⟨b, o, none⟩ = ((w.alloc (.cells #[.slice none 0 0, .slice none 0 0, .slice none 0 0] 26)).alloc (.cells #[.slice none 0 0, .slice none 0 0, .slice none 0 0] 26)).frozen? ⟨b, o, none⟩ := fun b o hbb => by
    have h2 : Below w1.heap.size w1 (w1.alloc (.cells #[x, y] 102)) := (Below.refl _ _).alloc (Nat.le_refl _) _
    rw [h2.frozen (by simp; omega)]
    exact hb.frozen (by simp; omega)
  refine ⟨?_, ?_, ?_, fun o => ?_, ?_, ?_, ?_, fun o => ?_, ?_, ?_, fun o => ?_, by omega⟩
  · rw [q _ _ (by omega)]; simp [go_sem]
  · rw [q _ _ (by omega)]; simp [go_sem]
  · rw [q _ _ (by omega)]; simp [go_sem]
  · rw [qf _ _ (by omega)]; simp [go_sem]
  · rw [q _ _ (by omega)]; simp [go_sem]
  · rw [q _ _ (by omega)]; simp [go_sem]
  · rw [q _ _ (by omega)]; simp [go_sem]
  · rw [qf _ _ (by omega)]; simp [go_sem]
  · simp [go_sem]
  · simp [go_sem]
  · simp [go_sem]
/-- columns, places between two blocks -/
def Mid (L M : Nat) (W W' : World) : Prop := ∀ k, L ≤ k → k < M → W'.heap[k]? = W.heap[k]?
theorem Mid.trans {L M : Nat} {a b c : World} (h : Mid L M a b) (k : Mid L M b c) : Mid L M a c := fun j h1 h2 => (k j h1 h2).trans (h j h1 h2)
theorem Mid.below {L M : Nat} {W W' : World} (hb : Below M W W') : Mid L M W W' := fun k _ h => hb.block k h
theorem Mid.set {L M B o : Nat} {W : World} {x : Value} (hB : B < L) : Mid L M W (W.setCell ⟨B, o, none⟩ x) := fun k hk _ => by
  unfold World.setCell
  simp only [Array.getElem?_modify]
  rw [if_neg (by omega)]
theorem Mid.grown {L M : Nat} {W W' : World} {row : Option Nat} (hg : W.grownBy W' row) (hM : M ≤ W.heap.size) (hr : ∀ x, row = some x → M ≤ x) : Mid L M W W' := fun k _ h => hg.block k (by omega) (fun e => by have := hr k e.symm; omega)
def ColsM (L M : Nat) (W : World) (oc : Option Addr) (cs : List Col) : Prop := ColsIn W oc cs ∧ ∀ a, oc = some a → L ≤ a.block ∧ a.block < M
theorem ColsM.mid {L M : Nat} {W W' : World} {oc : Option Addr} {cs : List Col} (h : ColsM L M W oc cs) (hf : Mid L M W W') : ColsM L M W' oc cs := ⟨fun j hj => by
    obtain ⟨a, ha, h0, h1, h2, h3⟩ := h.1 j hj
    obtain ⟨hL, hM⟩ := h.2 a ha
    have e : (a.add (j * 4)).block = a.block := Addr.add_block _ _
    have q : ∀ p : Addr, p.block = a.block → W'.cell? p = W.cell? p := fun p hp => World.cell?_of_block (by rw [hp]; exact hf _ hL hM)
    exact ⟨a, ha, (q _ e).trans h0, (q ⟨(a.add (j * 4)).block, (a.add (j * 4)).off + 1, none⟩ e).trans h1, (q ⟨(a.add (j * 4)).block, (a.add (j * 4)).off + 2, none⟩ e).trans h2, (q ⟨(a.add (j * 4)).block, (a.add (j * 4)).off + 3, none⟩ e).trans h3⟩, h.2⟩
def IntsM (L M : Nat) (W : World) (oc : Option Addr) (cs : List Int) : Prop := IntsIn W oc cs ∧ ∀ a, oc = some a → L ≤ a.block ∧ a.block < M
theorem IntsM.mid {L M : Nat} {W W' : World} {oc : Option Addr} {cs : List Int} (h : IntsM L M W oc cs) (hf : Mid L M W W') : IntsM L M W' oc cs := ⟨fun j hj => by
    obtain ⟨a, ha, h0⟩ := h.1 j hj
    obtain ⟨hL, hM⟩ := h.2 a ha
    exact ⟨a, ha, (World.cell?_of_block (by rw [Addr.add_block]; exact hf _ hL hM)).trans h0⟩, h.2⟩
/-- what EncodeSchema tells of a schema that is small, whether it may be or not -/
def RESPost (S : Sch) (w : World) (e : Ending) (w' : World) : Prop := (schOk S = true ∧ ∃ v, e = .returned (.tuple #[v, .int .i64 0]) ∧ BytesOf w' v (schL S) ∧ Below w.heap.size w w') ∨ (schOk S = false ∧ e = .returned (.tuple #[.slice none 0 0, .int .i64 2]) ∧ Below w.heap.size w w')
set_option maxRecDepth 100000 in
set_option maxHeartbeats 2000000 in
theorem rEncS_any (p : SchV) (S : Sch) (w : World) (hS : SchIn w p S) (m3 : ∀ c ∈ S.cols, c.n.size ≤ 9223372036854775807) (hcl : S.cols.length ≤ 1000) (hul : S.uqs.length ≤ 1000) (hkl : S.key.length ≤ 1000) (hpl : ∀ l ∈ S.uqs, l.length ≤ 1000) :
    Calls Tryz.prog 23 #[.agg #[.slice p.oc S.cols.length p.cc, .slice p.ok S.key.length p.ck, .slice p.ou S.uqs.length p.cu]] w (RESPost S w) := by
  cases hok : schOk S with
  | true =>
    refine (rEncS_ok p S w hS hok m3).mono ?_
    intro e w' h
    exact .inl ⟨hok, h⟩
  | false =>
    have HR : Hid (∀ W, Below w.heap.size w W → Calls Tryz.prog 19 #[.agg #[.slice p.oc S.cols.length p.cc, .slice p.ok S.key.length p.ck, .slice p.ou S.uqs.length p.cu]] W fun e w' => e = .returned (.bool false) ∧ Below W.heap.size W w') := Lib.hid (fun W hb => by
      have := rRight_any p S W m3 hcl hul hkl hpl (hS.keep hb (Nat.le_refl _))
      rwa [hok] at this)
    have HOK := Lib.hid hok
    clear hS m3 hcl hul hkl hpl hok
    go_enter Tryz.func23, Tryz.ntmps23
    go_wp2_with fail
    have hB0 := (Below.refl w.heap.size w).alloc (Nat.le_refl _) (.cells #[.slice p.oc S.cols.length p.cc, .slice p.ok S.key.length p.ck, .slice p.ou S.uqs.length p.cu] 26)
    refine (HR.out _ hB0).mono ?_
    rintro e w1 ⟨rfl, hb1⟩
    have HB1 := Lib.hid (hB0.trans (hb1.mono (by simp)))
    clear hB0 hb1
    go_wp2_with fail
    go_ret2
    exact .inr ⟨HOK.out, rfl, HB1.out⟩
end Go.Proofs.YtocmjlnhcloccaaGreatDoor
namespace Go.Proofs.YtocmjlnhcloccaaGreatDoor
open Go.RowKit

/-- what DecodeSchema tells -/
def RDPost (o : Option Sch) (w : World) (e : Ending) (w' : World) : Prop :=
  match o with
  | some S => ∃ p : SchV, e = .returned (.tuple #[.agg #[.slice p.oc S.cols.length p.cc, .slice p.ok S.key.length p.ck, .slice p.ou S.uqs.length p.cu], .int .i64 0]) ∧ SchIn w' p S ∧ Below w.heap.size w w'
  | none => e = .returned (.tuple #[.agg #[.slice none 0 0, .slice none 0 0, .slice none 0 0], .int .i64 140]) ∧ Below w.heap.size w w'
theorem readT_size {l s : List UInt8} {q : Nat} (h : readT l = some (s, q)) : s.length ≤ l.length ∧ q ≤ l.length := by
  obtain ⟨h1, h2⟩ := readT_take h
  refine ⟨?_, h2⟩
  have e : (l.take q).length = (txtL s).length := by rw [h1]
  unfold txtL at e
  rw [List.length_append, List.length_take] at e
  omega
theorem tl_ne {x y : List UInt8} (h : x ≠ y) : ((⟨x.toArray⟩ : ByteArray).toList == (⟨y.toArray⟩ : ByteArray).toList) = false := by
  rw [beq_eq_false_iff_ne, ByteArray.toList_eq, ByteArray.toList_eq]
  exact fun e => h (by simpa using e)
/-- behind the columns -/
def AfterC (w : World) (P m : Nat) (r1 : RdR) (wx : World) : Prop := ∃ (cs : List Col) (r' : RdR) (ob : Option Addr) (n c : Nat) (b : Bool) (oc : Option Addr) (cc : Nat), rColGo (min m 9) r1 = some (r', cs) ∧ DBx wx w.heap.size P (.slice ob n c) (.bool b) (.slice oc cs.length cc) (.slice none 0 0) (.slice none 0 0) ∧ wx.ownsRow (P + 1) 64 4 (.slice oc cs.length cc) cs.length (ccells cs) ∧ RV w.heap.size wx r' ob n c b ∧ Below w.heap.size w wx ∧ cs.length ≤ 9 ∧ ∀ x ∈ cs, x.n.size ≤ 1000000
/-- columns and the key lie as they lay -/
structure KM (L M : Nat) (W : World) (oc : Option Addr) (cs : List Col) (ok : Option Addr) (ks : List Int) : Prop where
  c : ColsM L M W oc cs
  k : IntsM L M W ok ks
theorem KM.mid {L M : Nat} {W W' : World} {oc : Option Addr} {cs : List Col} {ok : Option Addr} {ks : List Int} (h : KM L M W oc cs ok ks) (hf : Mid L M W W') : KM L M W' oc cs ok ks := ⟨h.c.mid hf, h.k.mid hf⟩
theorem rows_set {N B o : Nat} {W : World} {x : Value} {vals : List Value} {us : List (List Int)} (h : RowsL N W vals us) (hB : B < N) : RowsL N (W.setCell ⟨B, o, none⟩ x) vals us :=
  h.grown (row := some B) ⟨rfl, rfl, rfl, by simp, fun k _ hk => by
    unfold World.setCell
    simp only [Array.getElem?_modify]
    rw [if_neg (fun e => hk (by rw [e]))]⟩ (fun g _ hg _ e => by cases e; omega)
/-- behind the other sets -/
def AfterU (w : World) (P L M N m2 : Nat) (r3 : RdR) (oc : Option Addr) (cc : Nat) (cs : List Col) (ok : Option Addr) (ck : Nat) (ks : List Int) (wx : World) : Prop := ∃ (us : List (List Int)) (vals : List Value) (r' : RdR) (ob : Option Addr) (n c : Nat) (b : Bool) (ou : Option Addr) (cu : Nat), rUqGo (min m2 4) r3 = (r', us) ∧ DBx wx w.heap.size P (.slice ob n c) (.bool b) (.slice oc cs.length cc) (.slice ok ks.length ck) (.slice ou us.length cu) ∧ wx.ownsRow N 23 1 (.slice ou us.length cu) us.length vals ∧ RowsL N wx vals us ∧ RV w.heap.size wx r' ob n c b ∧ Below w.heap.size w wx ∧ KM L M wx oc cs ok ks ∧ N ≤ wx.heap.size
set_option maxRecDepth 100000 in
set_option maxHeartbeats 8000000 in
theorem rDecS_any (oa : Option Addr) (cap : Nat) (l : List UInt8) (w : World) (hb : BytesAt w (.slice oa l.length cap) l) (hn : l.length ≤ 1000000) :
    Calls Tryz.prog 25 #[.slice oa l.length cap] w (RDPost (refS l) w) := by
  have hcap : l.length ≤ cap := by obtain ⟨oa', cap', e, hc, _⟩ := hb; cases e; exact hc
  obtain ⟨i0, hi0, hz0, hz1, hz2⟩ := info_parts infoC
  obtain ⟨i1, hi1, hy0, hy1, hy2⟩ := info_parts infoIs
  have b0 : Below w.heap.size w ((w.alloc (.cells #[.slice none 0 0, .slice none 0 0, .slice none 0 0] 26)).alloc (.cells #[.slice none 0 0, .slice none 0 0, .slice none 0 0] 26)) := ((Below.refl _ _).alloc (Nat.le_refl _) _).alloc (by simp) _
  have H1 := Lib.hid (rnum_any w.heap.size (some l) oa l.length cap false ((w.alloc (.cells #[.slice none 0 0, .slice none 0 0, .slice none 0 0] 26)).alloc (.cells #[.slice none 0 0, .slice none 0 0, .slice none 0 0] 26)) ⟨rfl, BelowAt.of hb rfl b0, hcap, hn, rfl⟩ (by simp; omega))
  have HNUM := Lib.hid (fun W r ob n c b h hN => rnum_any w.heap.size r ob n c b W h hN)
  have HPLC := Lib.hid (fun W r ob n c b h hN => rplaces_any w.heap.size r ob n c b W h hN)
  have HB0 := Lib.hid b0
  have HBY := Lib.hid (fun W (hW : Below w.heap.size w W) => bytes_string (hb.keep hW (Nat.le_refl _)))
  obtain ⟨⟨r1, m⟩, hA0⟩ : ∃ x, rNumP (some l) = x := ⟨_, rfl⟩
  have hm := rNumP_le (some l)
  rw [hA0] at hm
  simp only at hm
  unfold RNPost at H1
  rw [hA0] at H1
  have HREF := Lib.hid (show refRd l = match rColGo (min m 9) r1 with
    | none => none
    | some (r1, cs) => some ((rUqGo (min (rNumP (rPlP r1).1).2 4) (rNumP (rPlP r1).1).1).1, ⟨cs, (rPlP r1).2, (rUqGo (min (rNumP (rPlP r1).1).2 4) (rNumP (rPlP r1).1).1).2⟩) by unfold refRd; simp only [hA0]; all_goals (cases rColGo (min m 9) r1 <;> rfl))
  obtain ⟨O, hO⟩ : ∃ O, refS l = O := ⟨_, rfl⟩
  have HOD := Lib.hid (show O = match refRd l with
    | none => none
    | some (r, S) => if r.isSome = true ∧ schOk S = true ∧ schL S = l then some S else none by rw [← hO]; rfl)
  rw [hO]
  clear hO hA0 hb b0
  go_enter Tryz.func25, Tryz.ntmps25
  go_wp2_with fail
  refine H1.out.mono ?_
  rintro e w1 ⟨ob1, n1, c1, b1, rfl, hv1, hb1⟩
  have hs1 : w.heap.size + 2 ≤ w1.heap.size := by have := hb1.size; simpa using this
  have HD0 := Lib.hid (dbx_new (.slice ob1 n1 c1) (.bool b1) hb1)
  have HV0 := Lib.hid (hv1.keep ((Below.refl w.heap.size w1).alloc (by omega) (.cells #[.slice ob1 n1 c1, .bool b1] 102)))
  have HBB := Lib.hid ((HB0.out.trans (hb1.mono HB0.out.size)).alloc (by omega) (.cells #[.slice ob1 n1 c1, .bool b1] 102))
  clear hv1 hb1
  obtain ⟨P, hP⟩ : ∃ P, w1.heap.size = P := ⟨_, rfl⟩
  rw [hP] at HD0
  have hPw : w.heap.size ≤ P := by omega
  generalize hw0 : w1.alloc (.cells #[.slice ob1 n1 c1, .bool b1] 102) = w0 at HD0 HV0 HBB
  go_upto_block 0 with fail
  try rw [hw0]
  try rw [hP]
  clear hw0 hP hs1
  go_cut [7, 8, 9, 10, 11, 12, 13] from 24 to 78 (fun _ _ _ _ _ _ _ wx => Hid (AfterC w P m r1 wx))
  case first =>
    go_wp2_with fail
    go_loopw [7] (fun t wr => ∃ (k : Nat) (cs : List Col) (r' : RdR) (ob : Option Addr) (n c : Nat) (b : Bool) (oc : Option Addr) (cc : Nat), k ≤ min m 9 ∧ cs.length = k ∧ t = .int .i64 k ∧ Hid (KRel (min m 9) r1 k cs r') ∧ Hid (DBx wr w.heap.size P (.slice ob n c) (.bool b) (.slice oc k cc) (.slice none 0 0) (.slice none 0 0)) ∧ Hid (wr.ownsRow (P + 1) 64 4 (.slice oc k cc) k (ccells cs)) ∧ Hid (RV w.heap.size wr r' ob n c b) ∧ Hid (Below w.heap.size w wr) ∧ Hid (∀ x ∈ cs, x.n.size ≤ 1000000)) (fun t _ => 9 - (intOf t).toNat)
    case atStart => exact ⟨0, [], r1, ob1, n1, c1, b1, none, 0, Nat.zero_le _, rfl, rfl, Lib.hid (KRel.zero _ _), HD0, Lib.hid (World.ownsRow_nil _ _ _ _), HV0, HBB, Lib.hid (fun x hx => by cases hx)⟩
    case round =>
      obtain ⟨k, cs, r', ob, n, c, b, oc, cc, hk, hcl, rfl, HK, HD, HO, HV, HB, HNM⟩ := hrel
      have g0 := HD.out.p0
      have g1 := HD.out.p1
      have gs := HD.out.s0
      clear HD0 HV0 HBB
      by_cases hlt : k < min m 9
      · have hk2 : (k : Int) < (m : Int) := by omega
        have hk9 : (k : Int) < 9 := by omega
        cases r' with
        | none =>
          obtain ⟨rfl, rfl, rfl, rfl⟩ := HV.out
          have HF := Lib.hid (show AfterC w P m r1 wr from ⟨cs, none, none, 0, 0, true, oc, cc, HK.out.bad, by rw [hcl]; exact HD.out, by rw [hcl]; exact HO.out, HV.out, HB.out, by omega, HNM.out⟩)
          clear HK HNM
          go_wp2_with fail
          go_meet
          exact HF
        | some l' =>
          obtain ⟨l'', rfl, hl', hbl, hba, hcase⟩ := HV.out.bytes
          obtain ⟨rfl, rfl⟩ : l'' = l' ∧ b = false := by
            rcases hcase with ⟨h1, h2⟩ | ⟨h1, _⟩
            · exact ⟨(Option.some.inj h1).symm, h2⟩
            · cases h1
          clear hcase
          have HT := rReadText_any (.slice ob l''.length c) l'' wr hba hl'
          cases ht : readT l'' with
          | none =>
            rw [ht, show rtRes none = .tuple #[.string ⟨#[]⟩, .int .i64 0, .int .i64 120] from rfl] at HT
            have HTT := Lib.hid HT
            have HE := Lib.hid (show O = none by rw [HOD.out, HREF.out, HK.out.dead hlt ht])
            have q0 := HD.out.r0
            have q1 := HD.out.r1
            have q2 := HD.out.r2
            have f0 := HD.out.rf 0
            have f1 := HD.out.rf 1
            have f2 := HD.out.rf 2
            clear HT ht hba hbl
            go_wp2_with fail
            refine HTT.out.mono ?_
            rintro e w' ⟨rfl, rfl⟩
            go_wp2_with fail
            refine bodyPost_ret (v := .tuple #[.agg #[.slice none 0 0, .slice none 0 0, .slice none 0 0], .int .i64 140]) (by simp [results, Tryz.results25, go_sem, q0, q1, q2]) rfl ?_
            rw [HE.out]
            exact ⟨rfl, ((HB.out.setCell (p := ⟨w.heap.size, 0, none⟩) (Nat.le_refl _) _).setCell (p := ⟨w.heap.size, 1, none⟩) (Nat.le_refl _) _).setCell (p := ⟨w.heap.size, 2, none⟩) (Nat.le_refl _) _⟩
          | some y =>
            obtain ⟨s, q⟩ := y
            rw [ht, show rtRes (some (s, q)) = .tuple #[.string ⟨s.toArray⟩, .int .i64 q, .int .i64 0] from rfl] at HT
            have HTT := Lib.hid HT
            have hsz := readT_size ht
            have HNX := Lib.hid (HK.out.next hlt ht)
            have hlc : l''.length ≤ c := HV.out.2.2.1
            have hsl : ∀ W, (Instr.sliceAt 31 (.slice ob l''.length c) (some (.int .i64 (q : Int))) none none).run Tryz.prog W = .ok (sliced ob q l''.length c 1) W := fun W => sl_l ob l''.length c q W hsz.2
            have hdr : ∃ ob2, (if c = q then ob else ob.map (·.add (q * 1))) = ob2 ∧ BelowAt wr w.heap.size ob2 (l''.drop q) := ⟨_, rfl, hbl.rest2 hlc hsz.2 _ rfl⟩
            unfold sliced at hsl
            obtain ⟨ob2, ho2, hdr⟩ := hdr
            rw [ho2] at hsl
            obtain ⟨c2, hc2⟩ : ∃ c2, c - q = c2 := ⟨_, rfl⟩
            obtain ⟨n2, hn2⟩ : ∃ n2, l''.length - q = n2 := ⟨_, rfl⟩
            rw [hc2, hn2] at hsl
            have HV1 := Lib.hid (show RV w.heap.size (wr.setCell ⟨P, 0, none⟩ (.slice ob2 n2 c2)) (some (l''.drop q)) ob2 n2 c2 false from ⟨by rw [List.length_drop, hn2], hdr.keep ((Below.refl w.heap.size wr).setCell (p := ⟨P, 0, none⟩) hPw _), by rw [List.length_drop]; omega, by rw [List.length_drop]; omega, rfl⟩)
            have HD1 := Lib.hid (HD.out.setP0 (.slice ob2 n2 c2))
            have HB1 := Lib.hid (HB.out.setCell (p := ⟨P, 0, none⟩) hPw (.slice ob2 n2 c2))
            have HO1 := Lib.hid (own_set (B := P) (o := 0) (x := .slice ob2 n2 c2) HO.out (by omega))
            have gf := HD.out.pf 0
            obtain ⟨⟨ra, xa⟩, hA1⟩ : ∃ x, rNumP (some (l''.drop q)) = x := ⟨_, rfl⟩
            obtain ⟨⟨rb, xb⟩, hA2⟩ : ∃ x, rNumP ra = x := ⟨_, rfl⟩
            obtain ⟨⟨rc, xc⟩, hA3⟩ : ∃ x, rNumP rb = x := ⟨_, rfl⟩
            have HNY := Lib.hid (show KRel (min m 9) r1 (k + 1) (cs ++ [⟨⟨s.toArray⟩, xa, xb, decide (xc = 1)⟩]) rc by
              have h := HNX.out
              unfold colR at h
              rw [hA1] at h
              simp only at h
              rw [hA2] at h
              simp only at h
              rw [hA3] at h
              exact h)
            have HNM2 := Lib.hid (show ∀ x ∈ cs ++ [(⟨⟨s.toArray⟩, xa, xb, decide (xc = 1)⟩ : Col)], x.n.size ≤ 1000000 from fun x hx => by
              rcases List.mem_append.1 hx with hx | hx
              · exact HNM.out x hx
              · rw [List.mem_singleton.1 hx]; show s.toArray.size ≤ 1000000; have := hsz.1; simp; omega)
            have hu : (Value.bool ((xc : Int) == 1)) = .bool (decide (xc = 1)) := by congr 1; rw [Bool.eq_iff_iff]; simp; omega
            clear HT ht hba hbl HNX hdr ho2 hc2 hn2 HK hlc hsz HNM
            go_wp2_with fail
            refine HTT.out.mono ?_
            rintro e w' ⟨rfl, rfl⟩
            generalize hwa : wr.setCell ⟨P, 0, none⟩ (.slice ob2 n2 c2) = wa at HV1 HD1 HB1 HO1
            go_upto_region 11 with fail
            try rw [hwa]
            clear hwa HTT hsl gf g0 g1 gs HV HD HB HO
            have HN1 := HNUM.out wa _ ob2 n2 c2 false HV1.out (by have := HB1.out.size; omega)
            unfold RNPost at HN1
            rw [hA1] at HN1
            have HC1 := Lib.hid HN1
            have p01 := HD1.out.p0
            have p11 := HD1.out.p1
            clear HN1
            go_wp2_with fail
            refine HC1.out.mono ?_
            rintro e x1 ⟨oy1, ny1, cy1, by1, rfl, hv, hb⟩
            have hd := HD1.out.below hb
            have q01 := hd.p0
            have q11 := hd.p1
            have f01 := hd.pf 0
            have f11 := hd.pf 1
            have HV2 := Lib.hid (hv.keep (((Below.refl w.heap.size x1).setCell (p := ⟨P, 0, none⟩) hPw (.slice oy1 ny1 cy1)).setCell (p := ⟨P, 1, none⟩) hPw (.bool by1)))
            have HD2 := Lib.hid (hd.setP (.slice oy1 ny1 cy1) (.bool by1))
            have HB2 := Lib.hid (((HB1.out.trans (hb.mono HB1.out.size)).setCell (p := ⟨P, 0, none⟩) hPw (.slice oy1 ny1 cy1)).setCell (p := ⟨P, 1, none⟩) hPw (.bool by1))
            have HO2 := Lib.hid (own_set (B := P) (o := 1) (x := .bool by1) (own_set (B := P) (o := 0) (x := .slice oy1 ny1 cy1) (own_stay HO1.out hb) (by omega)) (by omega))
            clear hv hd hb p01 p11 HV1 HD1 HB1 HO1 HC1
            generalize hw1 : (x1.setCell ⟨P, 0, none⟩ (.slice oy1 ny1 cy1)).setCell ⟨P, 1, none⟩ (.bool by1) = wb at HV2 HD2 HB2 HO2
            go_upto_region 12 with fail
            try rw [hw1]
            clear hw1 q01 q11 f01 f11
            have HN2 := HNUM.out wb _ oy1 ny1 cy1 by1 HV2.out (by have := HB2.out.size; omega)
            unfold RNPost at HN2
            rw [hA2] at HN2
            have HC2 := Lib.hid HN2
            have p02 := HD2.out.p0
            have p12 := HD2.out.p1
            clear HN2
            go_wp2_with fail
            refine HC2.out.mono ?_
            rintro e x2 ⟨oy2, ny2, cy2, by2, rfl, hv, hb⟩
            have hd := HD2.out.below hb
            have q02 := hd.p0
            have q12 := hd.p1
            have f02 := hd.pf 0
            have f12 := hd.pf 1
            have HV3 := Lib.hid (hv.keep (((Below.refl w.heap.size x2).setCell (p := ⟨P, 0, none⟩) hPw (.slice oy2 ny2 cy2)).setCell (p := ⟨P, 1, none⟩) hPw (.bool by2)))
            have HD3 := Lib.hid (hd.setP (.slice oy2 ny2 cy2) (.bool by2))
            have HB3 := Lib.hid (((HB2.out.trans (hb.mono HB2.out.size)).setCell (p := ⟨P, 0, none⟩) hPw (.slice oy2 ny2 cy2)).setCell (p := ⟨P, 1, none⟩) hPw (.bool by2))
            have HO3 := Lib.hid (own_set (B := P) (o := 1) (x := .bool by2) (own_set (B := P) (o := 0) (x := .slice oy2 ny2 cy2) (own_stay HO2.out hb) (by omega)) (by omega))
            clear hv hd hb p02 p12 HV2 HD2 HB2 HO2 HC2
            generalize hw2 : (x2.setCell ⟨P, 0, none⟩ (.slice oy2 ny2 cy2)).setCell ⟨P, 1, none⟩ (.bool by2) = wc at HV3 HD3 HB3 HO3
            go_upto_region 13 with fail
            try rw [hw2]
            clear hw2 q02 q12 f02 f12
            have HN3 := HNUM.out wc _ oy2 ny2 cy2 by2 HV3.out (by have := HB3.out.size; omega)
            unfold RNPost at HN3
            rw [hA3] at HN3
            have HC3 := Lib.hid HN3
            have p03 := HD3.out.p0
            have p13 := HD3.out.p1
            clear HN3
            go_wp2_with fail
            refine HC3.out.mono ?_
            rintro e x3 ⟨oy3, ny3, cy3, by3, rfl, hv, hb⟩
            have hd := HD3.out.below hb
            have q03 := hd.p0
            have q13 := hd.p1
            have f03 := hd.pf 0
            have f13 := hd.pf 1
            have HV4 := Lib.hid (hv.keep (((Below.refl w.heap.size x3).setCell (p := ⟨P, 0, none⟩) hPw (.slice oy3 ny3 cy3)).setCell (p := ⟨P, 1, none⟩) hPw (.bool by3)))
            have HD4 := Lib.hid (hd.setP (.slice oy3 ny3 cy3) (.bool by3))
            have HB4 := Lib.hid (((HB3.out.trans (hb.mono HB3.out.size)).setCell (p := ⟨P, 0, none⟩) hPw (.slice oy3 ny3 cy3)).setCell (p := ⟨P, 1, none⟩) hPw (.bool by3))
            have HO4 := Lib.hid (own_set (B := P) (o := 1) (x := .bool by3) (own_set (B := P) (o := 0) (x := .slice oy3 ny3 cy3) (own_stay HO3.out hb) (by omega)) (by omega))
            clear hv hd hb p03 p13 HV3 HD3 HB3 HO3 HC3
            generalize hw3 : (x3.setCell ⟨P, 0, none⟩ (.slice oy3 ny3 cy3)).setCell ⟨P, 1, none⟩ (.bool by3) = wd at HV4 HD4 HB4 HO4
            go_upto_region 14 with fail
            try rw [hw3]
            clear hw3 q03 q13 f03 f13
            have ps := HD4.out.s0
            have pf := HD4.out.sf 0
            have hwd := HD4.out.lt
            go_wp2_with (first | (at_builtin; refine wpList_append_own _ rfl _ _ 22 rfl (P + 1) 64 i0 (.agg #[.string ⟨#[]⟩, .int .i64 0, .int .i64 0, .bool false]) 4 40 Tryz.underlying22 hi0 hz0 hz1 hz2 rfl (by decide) _ k (ccells cs) rfl (HO4.out.alloc _) ⟨wd.heap.size, 0, none⟩ 1 1 [.string ⟨s.toArray⟩, .int .i64 xa, .int .i64 xb, .bool (decide (xc = 1))] rfl rfl ?e1 ?e2 ?e3 ?e4 ?e5 ?_))
            case e1 =>
              intro j' u' hj'
              match j', hj' with
              | 0, hj' => simp at hj'; subst hj'; simp [Addr.add]
              | 1, hj' => simp at hj'; subst hj'; simp [Addr.add]
              | 2, hj' => simp at hj'; subst hj'; simp [Addr.add]
              | 3, hj' => simp at hj'; subst hj'; simp [Addr.add]; try omega
            case e2 => intro u' hu'; simp at hu'; rcases hu' with rfl | rfl | rfl | rfl <;> rfl
            case e3 => unfold maxLen; omega
            case e4 => omega
            case e5 => simp; omega
            intro v4 w4 hown4 hg4 _
            have hB4 : ∀ g, Value.ownBlock (.slice oc k cc) = some g → P + 1 ≤ g := fun g e => (HO4.out.lt g e).1
            have HV5 := Lib.hid (HV4.out.keep (((Below.refl w.heap.size wd).alloc (by omega) (.cells #[.string ⟨s.toArray⟩, .int .i64 xa, .int .i64 xb, .bool (decide (xc = 1))] 64)).grown hg4 (by simp; omega) (fun g e => by have := hB4 g e; omega)))
            have HD5 := Lib.hid ((HD4.out.grown (World.grownBy_alloc wd (.cells #[.string ⟨s.toArray⟩, .int .i64 xa, .int .i64 xb, .bool (decide (xc = 1))] 64) none) (fun _ h => by cases h)).grown hg4 hB4)
            have HB5 := Lib.hid ((HB4.out.alloc HB4.out.size (.cells #[.string ⟨s.toArray⟩, .int .i64 xa, .int .i64 xb, .bool (decide (xc = 1))] 64)).grown hg4 (by simp; omega) (fun g e => by have := hB4 g e; omega))
            rw [show ccells cs ++ [.string ⟨s.toArray⟩, .int .i64 xa, .int .i64 xb, .bool (decide (xc = 1))] = ccells (cs ++ [(⟨⟨s.toArray⟩, xa, xb, decide (xc = 1)⟩ : Col)]) from (ccells_snoc cs ⟨⟨s.toArray⟩, xa, xb, decide (xc = 1)⟩).symm] at hown4
            obtain ⟨oc4, cc4, hv4⟩ : ∃ oc4 cc4, v4 = .slice oc4 (k + 1) cc4 := by
              rcases hown4.2 with ⟨rfl, h0⟩ | ⟨g, cap', cur, rfl, _⟩
              · omega
              · exact ⟨_, _, rfl⟩
            subst hv4
            have HO5 := Lib.hid hown4
            have ps5 := HD5.out.s0
            have pf5 := HD5.out.sf 0
            clear hown4 hg4 hB4 ps pf hwd
            go_wp2_with fail
            have hww : w.heap.size + 1 < P + 1 := by have := HD5.out.ne; omega
            go_roundw
            case rel => exact ⟨k + 1, cs ++ [⟨⟨s.toArray⟩, xa, xb, decide (xc = 1)⟩], rc, oy3, ny3, cy3, by3, oc4, cc4, by omega, by simp [hcl], by go_num, HNY, Lib.hid (HD5.out.setS0 _), Lib.hid (own_set HO5.out hww), Lib.hid (HV5.out.keep ((Below.refl w.heap.size w4).setCell (p := ⟨w.heap.size + 1, 0, none⟩) (by simp) _)), Lib.hid (HB5.out.setCell (p := ⟨w.heap.size + 1, 0, none⟩) (by simp) _), HNM2⟩
            case measure => simp [intOf]; omega
      · have hke : k = min m 9 := by omega
        have HF := Lib.hid (show AfterC w P m r1 wr from ⟨cs, r', ob, n, c, b, oc, cc, by rw [hke] at HK; exact HK.out.done, by rw [hcl]; exact HD.out, by rw [hcl]; exact HO.out, HV.out, HB.out, by omega, HNM.out⟩)
        clear HK HNM
        by_cases hm9 : m ≤ 9
        · have hnk : ¬ ((k : Int) < (m : Int)) := by omega
          clear hke hlt
          go_wp2_with fail
          go_meet
          exact HF
        · have hk9 : k = 9 := by omega
          have hkm : (k : Int) < (m : Int) := by omega
          clear hke hlt
          subst hk9
          go_wp2_with fail
          go_meet
          exact HF
  case rest =>
    obtain ⟨cs, r', ob, n, c, b, oc, cc, hC, hD, hO, hV, hB, hcl, hNM⟩ := hcut.out
    have hPw2 := hD.lt
    have hBP := hD.ne
    obtain ⟨oc', cc', ev, hcin, hcb⟩ := own_cols hO
    simp only [Value.slice.injEq, true_and] at ev
    obtain ⟨rfl, rfl⟩ := ev
    obtain ⟨⟨r2, ks⟩, hA⟩ : ∃ x, rPlP r' = x := ⟨_, rfl⟩
    obtain ⟨⟨r3, m2⟩, hA2⟩ : ∃ x, rNumP r2 = x := ⟨_, rfl⟩
    have hm2 := rNumP_le r2
    rw [hA2] at hm2
    simp only at hm2
    have hkl := rPlP_len r'
    rw [hA] at hkl
    simp only at hkl
    have HRF := Lib.hid (show refRd l = some ((rUqGo (min m2 4) r3).1, ⟨cs, ks, (rUqGo (min m2 4) r3).2⟩) by rw [HREF.out, hC]; simp only [hA, hA2])
    have HPL := HPLC.out wc r' ob n c b hV (by omega)
    rw [hA] at HPL
    have HP := Lib.hid HPL
    have p0 := hD.p0
    have p1 := hD.p1
    have HD0' := Lib.hid hD
    have HB0' := Lib.hid hB
    have HCM := Lib.hid (show ColsM (P + 1) wc.heap.size wc oc cs from ⟨hcin, hcb⟩)
    have HNM := Lib.hid hNM
    clear HD0 HV0 HBB HREF hcut hC hD hO hV hB HPL hA hcin hcb H1 HB0 hNM
    go_wp2_with fail
    refine HP.out.mono ?_
    rintro e x1 ⟨oz, nz, cz, bz, v, rfl, hv, hown, hb⟩
    obtain ⟨ok, ck, rfl, hkin, hkc, hkb, _⟩ := own_ints hown rfl
    simp only at hv hkin hkc
    have hM : wc.heap.size ≤ x1.heap.size := hb.size
    have hd := HD0'.out.below hb
    have q0 := hd.p0
    have q1 := hd.p1
    have f0 := hd.pf 0
    have f1 := hd.pf 1
    have s1 := hd.s1
    have sf1 := hd.sf 1
    have HVa := Lib.hid (hv.keep ((((Below.refl w.heap.size x1).setCell (p := ⟨P, 0, none⟩) hPw (.slice oz nz cz)).setCell (p := ⟨P, 1, none⟩) hPw (.bool bz)).setCell (p := ⟨w.heap.size + 1, 1, none⟩) (by simp) (.slice ok ks.length ck)))
    have HDa := Lib.hid ((hd.setP (.slice oz nz cz) (.bool bz)).setS1 (.slice ok ks.length ck))
    have HBa := Lib.hid ((((HB0'.out.trans (hb.mono HB0'.out.size)).setCell (p := ⟨P, 0, none⟩) hPw (.slice oz nz cz)).setCell (p := ⟨P, 1, none⟩) hPw (.bool bz)).setCell (p := ⟨w.heap.size + 1, 1, none⟩) (by simp) (.slice ok ks.length ck))
    have HKa := Lib.hid ((show KM (P + 1) x1.heap.size x1 oc cs ok ks from ⟨⟨(HCM.out.mid (Mid.below hb)).1, fun a ha => ⟨(HCM.out.2 a ha).1, Nat.lt_of_lt_of_le (HCM.out.2 a ha).2 hM⟩⟩, ⟨hkin, fun a ha => ⟨by have := (hkb a ha).1; omega, (hkb a ha).2⟩⟩⟩).mid ((Mid.set (B := P) (o := 0) (x := .slice oz nz cz) (by omega)).trans ((Mid.set (B := P) (o := 1) (x := .bool bz) (by omega)).trans (Mid.set (B := w.heap.size + 1) (o := 1) (x := .slice ok ks.length ck) (by omega)))))
    obtain ⟨M, hMe⟩ : ∃ M, x1.heap.size = M := ⟨_, rfl⟩
    have hsz : (((x1.setCell ⟨P, 0, none⟩ (.slice oz nz cz)).setCell ⟨P, 1, none⟩ (.bool bz)).setCell ⟨w.heap.size + 1, 1, none⟩ (.slice ok ks.length ck)).heap.size = M := by simp [hMe]
    rw [hMe] at HKa hM
    clear hv hown hb hd hkin hkb HP HCM HD0' HB0' p0 p1 hMe
    generalize hwe : ((x1.setCell ⟨P, 0, none⟩ (.slice oz nz cz)).setCell ⟨P, 1, none⟩ (.bool bz)).setCell ⟨w.heap.size + 1, 1, none⟩ (.slice ok ks.length ck) = we at HVa HDa HBa HKa hsz
    go_upto_region 16 with fail
    try rw [hwe]
    clear hwe q0 q1 f0 f1 s1 sf1
    have HNq := HNUM.out we r2 oz nz cz bz HVa.out (by have := HBa.out.size; omega)
    unfold RNPost at HNq
    rw [hA2] at HNq
    have HCq := Lib.hid HNq
    have p0 := HDa.out.p0
    have p1 := HDa.out.p1
    clear HNq hA2
    go_wp2_with fail
    refine HCq.out.mono ?_
    rintro e x2 ⟨oy, ny, cy, bb, rfl, hv, hb⟩
    have hd := HDa.out.below hb
    have q0 := hd.p0
    have q1 := hd.p1
    have f0 := hd.pf 0
    have f1 := hd.pf 1
    have hx2 : M ≤ x2.heap.size := by rw [← hsz]; exact hb.size
    have HV0 := Lib.hid (hv.keep (((Below.refl w.heap.size x2).setCell (p := ⟨P, 0, none⟩) hPw (.slice oy ny cy)).setCell (p := ⟨P, 1, none⟩) hPw (.bool bb)))
    have HD0 := Lib.hid (hd.setP (.slice oy ny cy) (.bool bb))
    have HB0 := Lib.hid (((HBa.out.trans (hb.mono HBa.out.size)).setCell (p := ⟨P, 0, none⟩) hPw (.slice oy ny cy)).setCell (p := ⟨P, 1, none⟩) hPw (.bool bb))
    have HK0 := Lib.hid (HKa.out.mid ((Mid.below (hb.mono (by omega))).trans ((Mid.set (B := P) (o := 0) (x := .slice oy ny cy) (by omega)).trans (Mid.set (B := P) (o := 1) (x := .bool bb) (by omega)))))
    obtain ⟨N, hN⟩ : ∃ N, x2.heap.size = N := ⟨_, rfl⟩
    have hsz2 : ((x2.setCell ⟨P, 0, none⟩ (.slice oy ny cy)).setCell ⟨P, 1, none⟩ (.bool bb)).heap.size = N := by simp [hN]
    rw [hN] at hx2
    clear hv hb hd HVa HDa HBa HKa HCq p0 p1 hN hsz
    generalize hwf : (x2.setCell ⟨P, 0, none⟩ (.slice oy ny cy)).setCell ⟨P, 1, none⟩ (.bool bb) = wf at HV0 HD0 HB0 HK0 hsz2
    go_upto_block 2 with fail
    try rw [hwf]
    clear hwf q0 q1 f0 f1
    have hMP : P + 1 ≤ M := by omega
    have hNM : M ≤ N := hx2
    clear hx2 hM hPw2
    go_cut [14, 15] from 90 to 109 (fun _ _ wx => Hid (AfterU w P (P + 1) M N m2 r3 oc cc cs ok ck ks wx))
    case first =>
      go_wp2_with fail
      go_loopw [14] (fun t wr => ∃ (k : Nat) (us : List (List Int)) (vals : List Value) (r' : RdR) (ob : Option Addr) (n c : Nat) (b : Bool) (ou : Option Addr) (cu : Nat), k ≤ min m2 4 ∧ us.length = k ∧ t = .int .i64 k ∧ Hid (URel (min m2 4) r3 k us r') ∧ Hid (DBx wr w.heap.size P (.slice ob n c) (.bool b) (.slice oc cs.length cc) (.slice ok ks.length ck) (.slice ou k cu)) ∧ Hid (wr.ownsRow N 23 1 (.slice ou k cu) k vals) ∧ Hid (RowsL N wr vals us) ∧ Hid (RV w.heap.size wr r' ob n c b) ∧ Hid (Below w.heap.size w wr) ∧ Hid (KM (P + 1) M wr oc cs ok ks) ∧ N ≤ wr.heap.size) (fun t _ => 4 - (intOf t).toNat)
      case atStart => exact ⟨0, [], [], r3, oy, ny, cy, bb, none, 0, Nat.zero_le _, rfl, rfl, Lib.hid (URel.zero _ _), HD0, Lib.hid (World.ownsRow_nil _ _ _ _), Lib.hid ⟨rfl, fun j h1 _ => absurd h1 (Nat.not_lt_zero j)⟩, HV0, HB0, HK0, by omega⟩
      case round =>
        obtain ⟨k, us, vals, r', ob, n, c, b, ou, cu, hk, hul, rfl, HU, HD, HO, HR, HV, HB, HK, hNs⟩ := hrel
        have g0 := HD.out.p0
        have g1 := HD.out.p1
        clear HD0 HV0 HB0 HK0
        by_cases hlt : k < min m2 4
        · have hk2 : (k : Int) < (m2 : Int) := by omega
          have hk4 : (k : Int) < 4 := by omega
          obtain ⟨⟨rz, zs⟩, hZ⟩ : ∃ x, rPlP r' = x := ⟨_, rfl⟩
          have HUN := Lib.hid (show URel (min m2 4) r3 (k + 1) (us ++ [zs]) rz by have h := HU.out.next hlt; rw [hZ] at h; exact h)
          have HPL := HPLC.out wr r' ob n c b HV.out (by have := HB.out.size; omega)
          rw [hZ] at HPL
          have HP := Lib.hid HPL
          clear HPL hZ HU
          go_wp2_with fail
          refine HP.out.mono ?_
          rintro e x3 ⟨oz, nz, cz, bz, v, rfl, hv, hown, hb⟩
          simp only at hv hown
          have hrl := (own_rowL hown rfl).mono (M := N) (by omega)
          obtain ⟨oi, ci, rfl, _⟩ := hrl
          have hd := HD.out.below hb
          have q0 := hd.p0
          have q1 := hd.p1
          have f0 := hd.pf 0
          have f1 := hd.pf 1
          have HV2 := Lib.hid (hv.keep (((Below.refl w.heap.size x3).setCell (p := ⟨P, 0, none⟩) hPw (.slice oz nz cz)).setCell (p := ⟨P, 1, none⟩) hPw (.bool bz)))
          have HD2 := Lib.hid (hd.setP (.slice oz nz cz) (.bool bz))
          have HB2 := Lib.hid (((HB.out.trans (hb.mono HB.out.size)).setCell (p := ⟨P, 0, none⟩) hPw (.slice oz nz cz)).setCell (p := ⟨P, 1, none⟩) hPw (.bool bz))
          have HO2 := Lib.hid (own_set (B := P) (o := 1) (x := .bool bz) (own_set (B := P) (o := 0) (x := .slice oz nz cz) (own_stay HO.out hb) (by omega)) (by omega))
          have HR2 := Lib.hid (rows_set (B := P) (o := 1) (x := .bool bz) (rows_set (B := P) (o := 0) (x := .slice oz nz cz) ((HR.out.grown (grown_below hb none) (fun _ _ _ _ => by simp)).snoc ((own_rowL hown rfl).mono (by omega))) (by omega)) (by omega))
          have HK2 := Lib.hid (HK.out.mid ((Mid.below (hb.mono (by omega))).trans ((Mid.set (B := P) (o := 0) (x := .slice oz nz cz) (by omega)).trans (Mid.set (B := P) (o := 1) (x := .bool bz) (by omega)))))
          have hN2 : N ≤ ((x3.setCell ⟨P, 0, none⟩ (.slice oz nz cz)).setCell ⟨P, 1, none⟩ (.bool bz)).heap.size := by have := hb.size; simp; omega
          clear hv hown hb hd HV HD HB HO HR HK HP g0 g1
          generalize hwg : (x3.setCell ⟨P, 0, none⟩ (.slice oz nz cz)).setCell ⟨P, 1, none⟩ (.bool bz) = wg at HV2 HD2 HB2 HO2 HR2 HK2 hN2
          go_upto_region 22 with fail
          try rw [hwg]
          clear hwg q0 q1 f0 f1
          have ps := HD2.out.s2
          have pf := HD2.out.sf 2
          go_wp2_with (first | (at_builtin; refine wpList_append_own _ rfl _ _ 24 rfl N 23 i1 (.slice none 0 0) 1 24 Tryz.underlying24 hi1 hy0 hy1 hy2 rfl (by decide) _ k vals rfl (HO2.out.alloc _) ⟨wg.heap.size, 0, none⟩ 1 1 [.slice oi zs.length ci] rfl rfl ?e1 ?e2 ?e3 ?e4 ?e5 ?_))
          case e1 =>
            intro j' u' hj'
            match j', hj' with
            | 0, hj' => simp at hj'; subst hj'; simp [Addr.add]
          case e2 => intro u' hu'; simp at hu'; subst hu'; rfl
          case e3 => unfold maxLen; omega
          case e4 => omega
          case e5 => simp; omega
          intro v4 w4 hown4 hg4 _
          have hB4 : ∀ g, Value.ownBlock (.slice ou k cu) = some g → N ≤ g := fun g e => (HO2.out.lt g e).1
          have hni := own_notint (HO2.out.alloc (.cells #[.slice oi zs.length ci] 23)) (by decide)
          have HV5 := Lib.hid (HV2.out.keep (((Below.refl w.heap.size wg).alloc (by omega) (.cells #[.slice oi zs.length ci] 23)).grown hg4 (by simp; omega) (fun g e => by have := hB4 g e; omega)))
          have HD5 := Lib.hid ((HD2.out.grown (World.grownBy_alloc wg (.cells #[.slice oi zs.length ci] 23) none) (fun _ h => by cases h)).grown hg4 (fun g e => by have := hB4 g e; omega))
          have HB5 := Lib.hid ((HB2.out.alloc HB2.out.size (.cells #[.slice oi zs.length ci] 23)).grown hg4 (by simp; omega) (fun g e => by have := hB4 g e; omega))
          have HR5 := Lib.hid ((HR2.out.grown (World.grownBy_alloc wg (.cells #[.slice oi zs.length ci] 23) none) (fun _ _ _ _ => by simp)).grown hg4 (fun g cur _ hc => hni g cur hc))
          have HK5 := Lib.hid (HK2.out.mid ((Mid.below ((Below.refl M wg).alloc (by omega) (.cells #[.slice oi zs.length ci] 23))).trans (Mid.grown hg4 (by simp; omega) (fun g e => by have := hB4 g e; omega))))
          have hN5 : N ≤ w4.heap.size := by have := hg4.size; simp at this; omega
          obtain ⟨oc4, cc4, hv4⟩ : ∃ oc4 cc4, v4 = .slice oc4 (k + 1) cc4 := by
            rcases hown4.2 with ⟨rfl, h0⟩ | ⟨g, cap', cur, rfl, _⟩
            · omega
            · exact ⟨_, _, rfl⟩
          subst hv4
          have HO5 := Lib.hid hown4
          have ps5 := HD5.out.s2
          have pf5 := HD5.out.sf 2
          clear hown4 hg4 hB4 ps pf hni
          go_wp2_with fail
          have hww : w.heap.size + 1 < N := by omega
          go_roundw
          case rel => exact ⟨k + 1, us ++ [zs], vals ++ [.slice oi zs.length ci], rz, oz, nz, cz, bz, oc4, cc4, by omega, by simp [hul], by go_num, HUN, Lib.hid (HD5.out.setS2 _), Lib.hid (own_set HO5.out hww), Lib.hid (rows_set HR5.out hww), Lib.hid (HV5.out.keep ((Below.refl w.heap.size w4).setCell (p := ⟨w.heap.size + 1, 2, none⟩) (by simp) _)), Lib.hid (HB5.out.setCell (p := ⟨w.heap.size + 1, 2, none⟩) (by simp) _), Lib.hid (HK5.out.mid (Mid.set (by omega))), by simpa using hN5⟩
          case measure => simp [intOf]; omega
        · have hke : k = min m2 4 := by omega
          have HF := Lib.hid (show AfterU w P (P + 1) M N m2 r3 oc cc cs ok ck ks wr from ⟨us, vals, r', ob, n, c, b, ou, cu, by rw [hke] at HU; exact HU.out.done, by rw [hul]; exact HD.out, by rw [hul]; exact HO.out, HR.out, HV.out, HB.out, HK.out, hNs⟩)
          clear HU
          by_cases hm4 : m2 ≤ 4
          · have hnk : ¬ ((k : Int) < (m2 : Int)) := by omega
            clear hke hlt
            go_wp2_with fail
            go_meet
            exact HF
          · have hk9 : k = 4 := by omega
            have hkm : (k : Int) < (m2 : Int) := by omega
            clear hke hlt
            subst hk9
            go_wp2_with fail
            go_meet
            exact HF
    case rest =>
      obtain ⟨us, vals, rl, ob, n, c, b, ou, cu, hU, hD, hO, hR, hV, hB, hK, hNs⟩ := hcut.out
      have hbu := rUqGo_len (min m2 4) r3
      rw [hU] at hbu
      simp only at hbu
      obtain ⟨ou', cu', ev, huin⟩ := own_sets hO hR
      simp only [Value.slice.injEq, true_and] at ev
      obtain ⟨rfl, rfl⟩ := ev
      have HRG := Lib.hid (show O = if rl.isSome = true ∧ schOk ⟨cs, ks, us⟩ = true ∧ schL ⟨cs, ks, us⟩ = l then some ⟨cs, ks, us⟩ else none by rw [HOD.out, HRF.out, hU])
      have HE := Lib.hid (rEncS_any ⟨oc, cc, ok, ck, ou, cu⟩ ⟨cs, ks, us⟩ wc ⟨hK.c.1, hK.k.1, huin.sets, by simpa using hkc⟩ (fun x hx => by have := HNM.out x hx; omega) (by simp only; omega) (by simp only; omega) (by simp only; omega) (fun x hx => by have := hbu.2 x hx; omega))
      have s0 := hD.s0
      have s1 := hD.s1
      have s2 := hD.s2
      have HD := Lib.hid hD
      have HB := Lib.hid hB
      have HOw := Lib.hid hO
      have HRw := Lib.hid hR
      have HK := Lib.hid hK
      have hbb : rl = none ∧ b = true ∨ (∃ l3, rl = some l3) ∧ b = false := by
        obtain ⟨l3, _, _, _, _, h | h⟩ := hV.bytes
        · exact .inr ⟨⟨l3, h.1⟩, h.2⟩
        · exact .inl ⟨h.1, h.2.1⟩
      clear HD0 HV0 HB0 HK0 HNUM HPLC hcut hU hD hO hR hV hB hK hbu huin HOD HRF HNM
      go_wp2_with fail
      refine HE.out.mono ?_
      rintro e x (⟨hok, v, rfl, hv, hb⟩ | ⟨hok, rfl, hb⟩)
      · have HBx := Lib.hid (HB.out.trans (hb.mono HB.out.size))
        have hd := HD.out.below hb
        have p1 := hd.p1
        have cA := bytes_string hv.at
        have cB := HBY.out x HBx.out
        rcases hbb with ⟨rfl, rfl⟩ | ⟨⟨l3, rfl⟩, rfl⟩
        · have HON := Lib.hid (show O = none by rw [HRG.out]; simp)
          clear hv hb
          have q0 := hd.r0
          have q1 := hd.r1
          have q2 := hd.r2
          have f0 := hd.rf 0
          have f1 := hd.rf 1
          have f2 := hd.rf 2
          clear hd
          go_wp2_with fail
          refine bodyPost_ret (v := .tuple #[.agg #[.slice none 0 0, .slice none 0 0, .slice none 0 0], .int .i64 140]) (by simp [results, Tryz.results25, go_sem, q0, q1, q2]) rfl ?_
          rw [HON.out]
          exact ⟨rfl, ((HBx.out.setCell (p := ⟨w.heap.size, 0, none⟩) (Nat.le_refl _) _).setCell (p := ⟨w.heap.size, 1, none⟩) (Nat.le_refl _) _).setCell (p := ⟨w.heap.size, 2, none⟩) (Nat.le_refl _) _⟩
        · by_cases heq : schL ⟨cs, ks, us⟩ = l
          · have HON := Lib.hid (show O = some ⟨cs, ks, us⟩ by rw [HRG.out]; simp [hok, heq])
            rw [heq] at cA
            generalize (⟨l.toArray⟩ : ByteArray) = sA at cA cB
            have hss : (sA.toList == sA.toList) = true := by simp
            have g0 := hd.s0
            have g1 := hd.s1
            have g2 := hd.s2
            have q0 := hd.r0
            have q1 := hd.r1
            have q2 := hd.r2
            have f0 := hd.rf 0
            have f1 := hd.rf 1
            have f2 := hd.rf 2
            have HKx := Lib.hid (HK.out.mid (Mid.below (hb.mono (by omega))))
            have HOx := Lib.hid (own_stay HOw.out hb)
            have HRx := Lib.hid (HRw.out.grown (grown_below hb none) (fun _ _ _ _ => by simp))
            clear hv hb hd
            go_wp2_with fail
            refine bodyPost_ret (v := .tuple #[.agg #[.slice oc cs.length cc, .slice ok ks.length ck, .slice ou us.length cu], .int .i64 0]) (by simp [results, Tryz.results25, go_sem, q0, q1, q2]) rfl ?_
            rw [HON.out]
            have hwN : w.heap.size < N := by omega
            have hk2 := HKx.out.mid ((Mid.set (B := w.heap.size) (o := 0) (x := .slice oc cs.length cc) (by omega)).trans ((Mid.set (B := w.heap.size) (o := 1) (x := .slice ok ks.length ck) (by omega)).trans (Mid.set (B := w.heap.size) (o := 2) (x := .slice ou us.length cu) (by omega))))
            obtain ⟨ou', cu', ev, huin⟩ := own_sets (own_set (B := w.heap.size) (o := 2) (x := .slice ou us.length cu) (own_set (B := w.heap.size) (o := 1) (x := .slice ok ks.length ck) (own_set (B := w.heap.size) (o := 0) (x := .slice oc cs.length cc) HOx.out hwN) hwN) hwN) (rows_set (B := w.heap.size) (o := 2) (x := .slice ou us.length cu) (rows_set (B := w.heap.size) (o := 1) (x := .slice ok ks.length ck) (rows_set (B := w.heap.size) (o := 0) (x := .slice oc cs.length cc) HRx.out hwN) hwN) hwN)
            simp only [Value.slice.injEq, true_and] at ev
            obtain ⟨rfl, rfl⟩ := ev
            exact ⟨⟨oc, cc, ok, ck, ou, cu⟩, rfl, ⟨hk2.c.1, hk2.k.1, huin.sets, by simpa using hkc⟩, ((HBx.out.setCell (p := ⟨w.heap.size, 0, none⟩) (Nat.le_refl _) _).setCell (p := ⟨w.heap.size, 1, none⟩) (Nat.le_refl _) _).setCell (p := ⟨w.heap.size, 2, none⟩) (Nat.le_refl _) _⟩
          · have HON := Lib.hid (show O = none by rw [HRG.out]; simp [heq])
            have hne : ((⟨(schL ⟨cs, ks, us⟩).toArray⟩ : ByteArray).toList == (⟨l.toArray⟩ : ByteArray).toList) = false := tl_ne heq
            generalize (⟨l.toArray⟩ : ByteArray) = sA at cA cB hne
            generalize (⟨(schL ⟨cs, ks, us⟩).toArray⟩ : ByteArray) = sB at cA cB hne
            clear hv hb
            have q0 := hd.r0
            have q1 := hd.r1
            have q2 := hd.r2
            have f0 := hd.rf 0
            have f1 := hd.rf 1
            have f2 := hd.rf 2
            clear hd
            go_wp2_with fail
            refine bodyPost_ret (v := .tuple #[.agg #[.slice none 0 0, .slice none 0 0, .slice none 0 0], .int .i64 140]) (by simp [results, Tryz.results25, go_sem, q0, q1, q2]) rfl ?_
            rw [HON.out]
            exact ⟨rfl, ((HBx.out.setCell (p := ⟨w.heap.size, 0, none⟩) (Nat.le_refl _) _).setCell (p := ⟨w.heap.size, 1, none⟩) (Nat.le_refl _) _).setCell (p := ⟨w.heap.size, 2, none⟩) (Nat.le_refl _) _⟩
      · have HBx := Lib.hid (HB.out.trans (hb.mono HB.out.size))
        have hd := HD.out.below hb
        have p1 := hd.p1
        have HON := Lib.hid (show O = none by rw [HRG.out]; simp [hok])
        rcases hbb with ⟨rfl, rfl⟩ | ⟨⟨l3, rfl⟩, rfl⟩
        · clear hb
          have q0 := hd.r0
          have q1 := hd.r1
          have q2 := hd.r2
          have f0 := hd.rf 0
          have f1 := hd.rf 1
          have f2 := hd.rf 2
          clear hd
          go_wp2_with fail
          refine bodyPost_ret (v := .tuple #[.agg #[.slice none 0 0, .slice none 0 0, .slice none 0 0], .int .i64 140]) (by simp [results, Tryz.results25, go_sem, q0, q1, q2]) rfl ?_
          rw [HON.out]
          exact ⟨rfl, ((HBx.out.setCell (p := ⟨w.heap.size, 0, none⟩) (Nat.le_refl _) _).setCell (p := ⟨w.heap.size, 1, none⟩) (Nat.le_refl _) _).setCell (p := ⟨w.heap.size, 2, none⟩) (Nat.le_refl _) _⟩
        · clear hb
          have q0 := hd.r0
          have q1 := hd.r1
          have q2 := hd.r2
          have f0 := hd.rf 0
          have f1 := hd.rf 1
          have f2 := hd.rf 2
          clear hd
          go_wp2_with fail
          refine bodyPost_ret (v := .tuple #[.agg #[.slice none 0 0, .slice none 0 0, .slice none 0 0], .int .i64 140]) (by simp [results, Tryz.results25, go_sem, q0, q1, q2]) rfl ?_
          rw [HON.out]
          exact ⟨rfl, ((HBx.out.setCell (p := ⟨w.heap.size, 0, none⟩) (Nat.le_refl _) _).setCell (p := ⟨w.heap.size, 1, none⟩) (Nat.le_refl _) _).setCell (p := ⟨w.heap.size, 2, none⟩) (Nat.le_refl _) _⟩
end Go.Proofs.YtocmjlnhcloccaaGreatDoor
