/-
  log: walk.
-/
import Derived.Test.YtbhgcioeibhjeaaGreatDoorLRcs
import Derived.Test.YtbhgcioeibhjeaaGreatDoorSqFs
import Derived.Shelf.Abstract
import Derived.Shelf.RegionOpen
import Derived.OwnWalkIn
import Derived.TacticsInMore
import Derived.LoopNIn
import Derived.LoopIn
import Derived.Scope
namespace Go.Proofs.YtbhgcioeibhjeaaGreatDoor
open Go.RowKit

/-- a step over some bytes: it tells nothing but what lies there -/
def StepOk (n : Nat) (O : Nat → Option (List UInt8)) : Prop := ∀ i b, O i = some b → i + 8 + b.length ≤ n
def walkGo (O : Nat → Option (List UInt8)) : Nat → Nat → List (Nat × List UInt8)
  | 0, _ => []
  | f + 1, i => match O i with
    | some b => (i, b) :: walkGo O f (i + 8 + b.length)
    | none => []
def walkW (n : Nat) (O : Nat → Option (List UInt8)) (i : Nat) : List (Nat × List UInt8) := walkGo O (n + 1 - i) i
theorem walkGo_fuel {n : Nat} {O : Nat → Option (List UInt8)} (hO : StepOk n O) : ∀ (f g i : Nat), n < f + i → n < g + i → walkGo O f i = walkGo O g i := by
  intro f
  induction f with
  | zero =>
    intro g i hf hg
    have hn : O i = none := by
      cases h : O i with
      | none => rfl
      | some b => have := hO i b h; omega
    cases g with
    | zero => rfl
    | succ g => simp [walkGo, hn]
  | succ f ih =>
    intro g i hf hg
    cases g with
    | zero =>
      have hn : O i = none := by
        cases h : O i with
        | none => rfl
        | some b => have := hO i b h; omega
      simp [walkGo, hn]
    | succ g =>
      unfold walkGo
      cases h : O i with
      | none => rfl
      | some b =>
        have := hO i b h
        simp only
        rw [ih g (i + 8 + b.length) (by omega) (by omega)]
theorem walkW_none {n : Nat} {O : Nat → Option (List UInt8)} {i : Nat} (h : O i = none) : walkW n O i = [] := by
  unfold walkW
  cases n + 1 - i with
  | zero => rfl
  | succ f => simp [walkGo, h]
theorem walkW_some {n : Nat} {O : Nat → Option (List UInt8)} (hO : StepOk n O) {i : Nat} {b : List UInt8} (h : O i = some b) : walkW n O i = (i, b) :: walkW n O (i + 8 + b.length) := by
  have hi := hO i b h
  unfold walkW
  rw [show n + 1 - i = (n - i) + 1 by omega]
  conv => lhs; unfold walkGo
  rw [h]
  simp only
  rw [walkGo_fuel hO (n - i) (n + 1 - (i + 8 + b.length)) (i + 8 + b.length) (by omega) (by omega)]
theorem walk_next {n : Nat} {O : Nat → Option (List UInt8)} (hO : StepOk n O) {i i0 : Nat} {b : List UInt8} {pre : List (Nat × List UInt8)} (h : O i = some b) (hp : pre ++ walkW n O i = walkW n O i0) : (pre ++ [(i, b)]) ++ walkW n O (i + 8 + b.length) = walkW n O i0 := by
  rw [List.append_assoc, List.singleton_append, ← walkW_some hO h]
  exact hp
theorem step_piece (l : List UInt8) : StepOk l.length (pieceO l) := fun i b h => (pieceO_len h).2.1
theorem step_whole (l : List UInt8) : StepOk l.length (wholeO l) := fun i b h => (pieceO_len (wholeO_piece h).1).2.1
end Go.Proofs.YtbhgcioeibhjeaaGreatDoor
namespace Go.Proofs.YtbhgcioeibhjeaaGreatDoor
open Go.RowKit Go.Shelf
attribute [local go_sem] Oper.semAt_some

def encW (oa : Option Addr) (x : Nat × List UInt8) : Array Value := #[.int .i64 x.1, pieceV oa (x.1 + 8) x.2.length]
theorem scope_wideL {n : Nat} {P : Program} {c : Code} {Q : Exit → Act → World → Prop} {a : Act} {w : World} (h : c.wpIn Fence.wide n P (Exit.noGoto Q) a w) : (Code.scope c).wpIn Fence.wide n P Q a w :=
  wpIn_wide.2 (wp_scope_straight (wpIn_wide.1 h))
/-- what a step tells -/
def StepAt (fid : Nat) (sv : Value) (oa : Option Addr) (n : Nat) (O : Nat → Option (List UInt8)) (W : World) : Prop := ∀ i, i ≤ n → Calls Tryz.prog fid #[sv, .int .i64 i] W fun e w' => e = .returned (match O i with
    | some b => .tuple #[pieceV oa (i + 8) b.length, .bool true]
    | none => .tuple #[.slice none 0 0, .bool false]) ∧ Below W.heap.size W w'
set_option maxRecDepth 100000 in
set_option maxHeartbeats 2000000 in
theorem walkW_turns (n : Nat) (hn : 1 ≤ n) (c0 c1 : Nat) (sv : Value) (oa : Option Addr) (m i0 : Nat) (O : Nat → Option (List UInt8)) (hO : StepOk m O) (hm : m ≤ 100000000) (hi0 : i0 ≤ m) (w : World) (h0 : w.cell? ⟨c0, 0, none⟩ = some (.int .i64 i0)) (h1 : w.cell? ⟨c1, 0, none⟩ = some (.func (.func 44) #[sv] #[]))
    (G : Nat → Prop) (hGl : ∀ k, G k → k < w.heap.size) (hG1 : G c1) (hSt : ∀ W, (∀ k, G k → W.heap[k]? = w.heap[k]?) → StepAt 44 sv oa m O W) :
    SeqTurns Fence.wide n Tryz.prog 72 #[.pointer (some ⟨c0, 0, none⟩), .pointer (some ⟨c1, 0, none⟩)] (encW oa) G (fun xs => xs = walkW m O i0) (fun xs => xs <+: walkW m O i0) w := fun ll J Jx W hW hJ hJx hY hJ0 => by
  have HY := Lib.hid hY
  have k0 : W.cell? ⟨c0, 0, none⟩ = some (.int .i64 i0) := (hW.cell (World.block_lt_of_cell? w _ h0)).trans h0
  have HJ0 := Lib.hid hJ0
  have HST := Lib.hid hSt
  have HO := Lib.hid hO
  have HK0 : Hid (∀ k, G k → W.heap[k]? = w.heap[k]?) := Lib.hid fun k hk => hW.block k (hGl k hk)
  have HGL : Hid (∀ k, G k → k < W.heap.size) := Lib.hid fun k hk => Nat.lt_of_lt_of_le (hGl k hk) hW.size
  have HC1 : Hid (∀ V : World, (∀ k, G k → V.heap[k]? = w.heap[k]?) → V.cell? ⟨c1, 0, none⟩ = some (.func (.func 44) #[sv] #[])) := Lib.hid fun V hV => (World.cell?_of_block (hV c1 hG1)).trans h1
  clear hY hJ0 hSt hO hGl h0 h1 hW hG1
  refine callsIn_of_wp Tryz.func72 rfl trivial ?_ rfl
  simp only [Tryz.ntmps72, List.size_toArray, List.length_cons, List.length_nil, Nat.reduceAdd, Nat.reduceSub, Array.replicate_succ, Array.replicate_zero, List.push_toArray, List.append_toArray, List.nil_append, List.cons_append]
  refine scope_wideL ?_
  gi_wp2
  refine wpIn_label ?_
  gi_wp2
  gi_loopw [4, 5, 6] (fun x y z wr => ∃ (pre : List (Nat × List UInt8)) (i : Nat), x = .int .i64 i ∧ Hid (pre ++ walkW m O i = walkW m O i0) ∧ i ≤ m ∧ Hid (∀ k, G k → wr.heap[k]? = w.heap[k]?) ∧ Hid (J pre wr) ∧ W.heap.size ≤ wr.heap.size) (fun x _ _ _ => m - (intOf x).toNat)
  case atStart => exact ⟨[], i0, rfl, Lib.hid rfl, hi0, HK0, HJ0, Nat.le_refl _⟩
  case round =>
    obtain ⟨pre, i, rfl, HP, hi, HK, HJ, hsz⟩ := hrel
    have k1 := HC1.out wr HK.out
    have hst := HST.out wr HK.out i hi
    cases hoi : O i with
    | none =>
      rw [hoi] at hst
      have HC := Lib.hid hst
      have HE := Lib.hid (HP.out.symm.trans (by rw [walkW_none hoi, List.append_nil]))
      clear hst hoi k0
      gi_wp2
      refine ⟨trivial, (callsIn_wide.2 HC.out).mono ?_⟩
      rintro e w1 ⟨rfl, hw⟩
      have HW := Lib.hid hw
      clear hw
      gi_wp2
      simp only [Exit.noGoto]
      go_end0
      exact ⟨⟨_, rfl⟩, .inl ⟨pre, HE.out.symm, hJ _ _ _ HJ.out (HW.out.mono hsz)⟩⟩
    | some b =>
      rw [hoi] at hst
      have hin := HO.out i b hoi
      have HN := Lib.hid (walk_next HO.out hoi HP.out)
      have HC : Hid (CallsIn Fence.wide (n - 1) Tryz.prog 44 #[sv, .int .i64 i] wr fun e w1 => e = .returned (.tuple #[pieceV oa (i + 8) b.length, .bool true]) ∧ Hid (Below wr.heap.size wr w1) ∧ YieldAt Fence.wide (n - 1) Tryz.prog ll #[.int .i64 i, pieceV oa (i + 8) b.length] w1 fun e W' =>
        (e = .returned (.bool true) ∧ Hid (J (pre ++ [(i, b)]) W') ∧ Hid (Keep W.heap.size G w1 W')) ∨ (e = .returned (.bool false) ∧ Hid (Jx (pre ++ [(i, b)]) W') ∧ Hid (Keep W.heap.size G w1 W'))) := Lib.hid ((callsIn_wide.2 hst).mono (by
          rintro e w1 ⟨rfl, hw⟩
          have hs := hw.size
          exact ⟨rfl, Lib.hid hw, HY.out pre (i, b) w1 (hJ _ _ _ HJ.out (hw.mono hsz)) ⟨_, HN.out⟩ (by omega)⟩))
      have hpv : pieceV oa (i + 8) b.length = .slice (if b.length = 0 then oa else oa.map (·.add (i + 8))) b.length b.length := rfl
      generalize (if b.length = 0 then oa else oa.map (·.add (i + 8))) = ob at hpv
      rw [hpv] at HC
      have HB := Lib.hid (fun (V : World) => behind_any i ob b.length b.length V (by omega) (by omega))
      clear hst hoi HY hpv k0
      have HLn := Lib.hid hin
      generalize hbl : b.length = bl at *
      gi_wp2
      refine ⟨trivial, HC.out.mono ?_⟩
      rintro e w1 ⟨rfl, HW, fn, tmps, assign, body, hy, hR⟩
      clear HC
      gi_wp2
      refine hR.mono ?_
      rintro e w2 (⟨rfl, HJ2, HK2⟩ | ⟨rfl, HJx2, HK2⟩)
      · have HK3 : Hid (∀ k, G k → w2.heap[k]? = w.heap[k]?) := Lib.hid fun k hk => by
          have hl1 := HGL.out k hk
          rw [HK2.out.same k (by have := HW.out.size; omega) (.inr hk), HW.out.block k (by omega)]
          exact HK.out k hk
        have hs2 := HK2.out.size
        have hs1 := HW.out.size
        gi_wp2
        refine ⟨trivial, (callsIn_wide.2 (HB.out _)).mono ?_⟩
        rintro e w3 ⟨rfl, rfl⟩
        gi_wp2
        go_roundw
        case rel => exact ⟨pre ++ [(i, b)], i + 8 + bl, by go_num, HN, by omega, HK3, HJ2, by omega⟩
        case measure => simp [intOf]; omega
      · gi_wp2
        simp only [Exit.noGoto]
        go_end0
        exact ⟨⟨_, rfl⟩, .inr ⟨pre ++ [(i, b)], ⟨_, HN.out⟩, HJx2.out⟩⟩
set_option maxRecDepth 100000 in
set_option maxHeartbeats 2000000 in
theorem walkP_turns (n : Nat) (hn : 1 ≤ n) (c0 c1 : Nat) (sv : Value) (oa : Option Addr) (m i0 : Nat) (O : Nat → Option (List UInt8)) (hO : StepOk m O) (hm : m ≤ 100000000) (hi0 : i0 ≤ m) (w : World) (h0 : w.cell? ⟨c0, 0, none⟩ = some (.int .i64 i0)) (h1 : w.cell? ⟨c1, 0, none⟩ = some (.func (.func 55) #[sv] #[]))
    (G : Nat → Prop) (hGl : ∀ k, G k → k < w.heap.size) (hG1 : G c1) (hSt : ∀ W, (∀ k, G k → W.heap[k]? = w.heap[k]?) → StepAt 55 sv oa m O W) :
    SeqTurns Fence.wide n Tryz.prog 72 #[.pointer (some ⟨c0, 0, none⟩), .pointer (some ⟨c1, 0, none⟩)] (encW oa) G (fun xs => xs = walkW m O i0) (fun xs => xs <+: walkW m O i0) w := fun ll J Jx W hW hJ hJx hY hJ0 => by
  have HY := Lib.hid hY
  have k0 : W.cell? ⟨c0, 0, none⟩ = some (.int .i64 i0) := (hW.cell (World.block_lt_of_cell? w _ h0)).trans h0
  have HJ0 := Lib.hid hJ0
  have HST := Lib.hid hSt
  have HO := Lib.hid hO
  have HK0 : Hid (∀ k, G k → W.heap[k]? = w.heap[k]?) := Lib.hid fun k hk => hW.block k (hGl k hk)
  have HGL : Hid (∀ k, G k → k < W.heap.size) := Lib.hid fun k hk => Nat.lt_of_lt_of_le (hGl k hk) hW.size
  have HC1 : Hid (∀ V : World, (∀ k, G k → V.heap[k]? = w.heap[k]?) → V.cell? ⟨c1, 0, none⟩ = some (.func (.func 55) #[sv] #[])) := Lib.hid fun V hV => (World.cell?_of_block (hV c1 hG1)).trans h1
  clear hY hJ0 hSt hO hGl h0 h1 hW hG1
  refine callsIn_of_wp Tryz.func72 rfl trivial ?_ rfl
  simp only [Tryz.ntmps72, List.size_toArray, List.length_cons, List.length_nil, Nat.reduceAdd, Nat.reduceSub, Array.replicate_succ, Array.replicate_zero, List.push_toArray, List.append_toArray, List.nil_append, List.cons_append]
  refine scope_wideL ?_
  gi_wp2
  refine wpIn_label ?_
  gi_wp2
  gi_loopw [4, 5, 6] (fun x y z wr => ∃ (pre : List (Nat × List UInt8)) (i : Nat), x = .int .i64 i ∧ Hid (pre ++ walkW m O i = walkW m O i0) ∧ i ≤ m ∧ Hid (∀ k, G k → wr.heap[k]? = w.heap[k]?) ∧ Hid (J pre wr) ∧ W.heap.size ≤ wr.heap.size) (fun x _ _ _ => m - (intOf x).toNat)
  case atStart => exact ⟨[], i0, rfl, Lib.hid rfl, hi0, HK0, HJ0, Nat.le_refl _⟩
  case round =>
    obtain ⟨pre, i, rfl, HP, hi, HK, HJ, hsz⟩ := hrel
    have k1 := HC1.out wr HK.out
    have hst := HST.out wr HK.out i hi
    cases hoi : O i with
    | none =>
      rw [hoi] at hst
      have HC := Lib.hid hst
      have HE := Lib.hid (HP.out.symm.trans (by rw [walkW_none hoi, List.append_nil]))
      clear hst hoi k0
      gi_wp2
      refine ⟨trivial, (callsIn_wide.2 HC.out).mono ?_⟩
      rintro e w1 ⟨rfl, hw⟩
      have HW := Lib.hid hw
      clear hw
      gi_wp2
      simp only [Exit.noGoto]
      go_end0
      exact ⟨⟨_, rfl⟩, .inl ⟨pre, HE.out.symm, hJ _ _ _ HJ.out (HW.out.mono hsz)⟩⟩
    | some b =>
      rw [hoi] at hst
      have hin := HO.out i b hoi
      have HN := Lib.hid (walk_next HO.out hoi HP.out)
      have HC : Hid (CallsIn Fence.wide (n - 1) Tryz.prog 55 #[sv, .int .i64 i] wr fun e w1 => e = .returned (.tuple #[pieceV oa (i + 8) b.length, .bool true]) ∧ Hid (Below wr.heap.size wr w1) ∧ YieldAt Fence.wide (n - 1) Tryz.prog ll #[.int .i64 i, pieceV oa (i + 8) b.length] w1 fun e W' =>
        (e = .returned (.bool true) ∧ Hid (J (pre ++ [(i, b)]) W') ∧ Hid (Keep W.heap.size G w1 W')) ∨ (e = .returned (.bool false) ∧ Hid (Jx (pre ++ [(i, b)]) W') ∧ Hid (Keep W.heap.size G w1 W'))) := Lib.hid ((callsIn_wide.2 hst).mono (by
          rintro e w1 ⟨rfl, hw⟩
          have hs := hw.size
          exact ⟨rfl, Lib.hid hw, HY.out pre (i, b) w1 (hJ _ _ _ HJ.out (hw.mono hsz)) ⟨_, HN.out⟩ (by omega)⟩))
      have hpv : pieceV oa (i + 8) b.length = .slice (if b.length = 0 then oa else oa.map (·.add (i + 8))) b.length b.length := rfl
      generalize (if b.length = 0 then oa else oa.map (·.add (i + 8))) = ob at hpv
      rw [hpv] at HC
      have HB := Lib.hid (fun (V : World) => behind_any i ob b.length b.length V (by omega) (by omega))
      clear hst hoi HY hpv k0
      have HLn := Lib.hid hin
      generalize hbl : b.length = bl at *
      gi_wp2
      refine ⟨trivial, HC.out.mono ?_⟩
      rintro e w1 ⟨rfl, HW, fn, tmps, assign, body, hy, hR⟩
      clear HC
      gi_wp2
      refine hR.mono ?_
      rintro e w2 (⟨rfl, HJ2, HK2⟩ | ⟨rfl, HJx2, HK2⟩)
      · have HK3 : Hid (∀ k, G k → w2.heap[k]? = w.heap[k]?) := Lib.hid fun k hk => by
          have hl1 := HGL.out k hk
          rw [HK2.out.same k (by have := HW.out.size; omega) (.inr hk), HW.out.block k (by omega)]
          exact HK.out k hk
        have hs2 := HK2.out.size
        have hs1 := HW.out.size
        gi_wp2
        refine ⟨trivial, (callsIn_wide.2 (HB.out _)).mono ?_⟩
        rintro e w3 ⟨rfl, rfl⟩
        gi_wp2
        go_roundw
        case rel => exact ⟨pre ++ [(i, b)], i + 8 + bl, by go_num, HN, by omega, HK3, HJ2, by omega⟩
        case measure => simp [intOf]; omega
      · gi_wp2
        simp only [Exit.noGoto]
        go_end0
        exact ⟨⟨_, rfl⟩, .inr ⟨pre ++ [(i, b)], ⟨_, HN.out⟩, HJx2.out⟩⟩
end Go.Proofs.YtbhgcioeibhjeaaGreatDoor
namespace Go.Proofs.YtbhgcioeibhjeaaGreatDoor
open Go.RowKit

theorem step_piece_at (oa : Option Addr) (cap : Nat) (l : List UInt8) (W : World) (hv : BytesAt W (.slice oa l.length cap) l) (hl : l.length ≤ 100000000) : StepAt 55 (.slice oa l.length cap) oa l.length (pieceO l) W := fun i hi => by
  have hcap : l.length ≤ cap := by
    obtain ⟨_, _, e, h, _⟩ := id hv
    cases e
    exact h
  by_cases h8 : i + 8 ≤ l.length
  · by_cases hm : manyO l i ≤ 60000
    · by_cases hf : i + 8 + manyO l i ≤ l.length
      · have hp : pieceO l i = some ((l.drop (i + 8)).take (manyO l i)) := if_pos ⟨h8, hm, hf⟩
        rw [hp]
        refine (piece_ok oa cap i l W hv hl h8 hm hf).mono ?_
        rintro e w ⟨rfl, rfl⟩
        refine ⟨?_, Below.refl _ _⟩
        have hlen : ((l.drop (i + 8)).take (manyO l i)).length = manyO l i := by rw [List.length_take, List.length_drop]; omega
        simp only [hlen]
      · have hp : pieceO l i = none := if_neg (fun h => hf h.2.2)
        rw [hp]
        refine (piece_far oa cap i l W hv hl h8 hm (by omega)).mono ?_
        rintro e w ⟨rfl, rfl⟩
        exact ⟨rfl, Below.refl _ _⟩
    · have hp : pieceO l i = none := if_neg (fun h => hm h.2.1)
      rw [hp]
      refine (piece_big oa cap i l W hv hl h8 (by omega)).mono ?_
      rintro e w ⟨rfl, rfl⟩
      exact ⟨rfl, Below.refl _ _⟩
  · have hp : pieceO l i = none := if_neg (fun h => h8 h.1)
    rw [hp]
    refine (piece_room oa l.length cap i W hl hcap hi (by omega)).mono ?_
    rintro e w ⟨rfl, rfl⟩
    exact ⟨rfl, Below.refl _ _⟩
theorem step_whole_at (oa : Option Addr) (cap : Nat) (l : List UInt8) (W : World) (hv : BytesAt W (.slice oa l.length cap) l) (hl : l.length ≤ 100000000) : StepAt 44 (.slice oa l.length cap) oa l.length (wholeO l) W := fun i hi => by
  have hcap : l.length ≤ cap := by
    obtain ⟨_, _, e, h, _⟩ := id hv
    cases e
    exact h
  by_cases h8 : i + 8 ≤ l.length
  · by_cases hmf : manyO l i ≤ 60000 ∧ i + 8 + manyO l i ≤ l.length
    · have hp : pieceO l i = some ((l.drop (i + 8)).take (manyO l i)) := if_pos ⟨h8, hmf.1, hmf.2⟩
      have hlen : ((l.drop (i + 8)).take (manyO l i)).length = manyO l i := by rw [List.length_take, List.length_drop]; omega
      refine (whole_sum oa cap i l W hv hl h8 hmf.1 hmf.2).mono ?_
      rintro e w ⟨rfl, hb⟩
      refine ⟨?_, hb⟩
      unfold wholeO
      rw [hp]
      simp only
      by_cases hc : crc ((l.drop (i + 8)).take (manyO l i)) = sumO l i
      · rw [if_pos hc, if_pos hc]
        simp only [hlen]
      · rw [if_neg hc, if_neg hc]
    · have hp : wholeO l i = none := by
        unfold wholeO
        rw [show pieceO l i = none from if_neg (fun h => hmf h.2)]
      rw [hp]
      refine (whole_none oa cap i l W hv hl h8 hmf).mono ?_
      rintro e w ⟨rfl, hb⟩
      exact ⟨rfl, hb⟩
  · have hp : wholeO l i = none := by
      unfold wholeO
      rw [show pieceO l i = none from if_neg (fun h => h8 h.1)]
    rw [hp]
    refine (whole_room oa l.length cap i W hl hcap hi (by omega)).mono ?_
    rintro e w ⟨rfl, hb⟩
    exact ⟨rfl, hb⟩
end Go.Proofs.YtbhgcioeibhjeaaGreatDoor
