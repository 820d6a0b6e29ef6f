/-
  key's reader: begun, the iterator's contract.
-/
import Derived.Test.YtcedeipmboekaaaGreatDoorKSeq
import Derived.Test.YtcedeipmboekaaaGreatDoorKValue
import Derived.Shelf.Abstract
import Derived.Shelf.RegionOpen
import Derived.OwnWalkIn
import Derived.TacticsInMore
import Derived.LoopNIn
import Derived.LoopIn
namespace Go.Proofs.YtcedeipmboekaaaGreatDoor
open Go.RowKit Go.Shelf
attribute [local go_sem] Oper.semAt_some

def byteK (s : ByteArray) (i : Nat) : Nat := (s.data.toList.getD i 0).toNat
def encK (s : ByteArray) (i : Nat) : Array Value := #[.int .i64 i, .int .i64 (byteK s i : Nat)]
def NeedK (R m : Nat) (s : ByteArray) (i : Nat) (A : World) : Prop := RdK A R m s i ∧ i ≤ s.size
def StepK (R m : Nat) (s : ByteArray) (i : Nat) (A A' : World) : Prop := RdK A' R m s (i + 1) ∧ A.grownBy A' (some R)
def FinK (A A' : World) : Prop := ∃ q, A' = A.drewN q
theorem valOf_cut1 (s : ByteArray) (i : Nat) (h : i < s.size) : wrap64 (valOf (cutS s i 1) 0 : Nat) = (byteK s i : Nat) := by
  have hl : i < s.data.toList.length := by rw [Array.length_toList]; exact h
  have : cutS s i 1 = [s.data.toList[i]] := by
    unfold cutS
    rw [List.drop_eq_getElem_cons hl]
    rfl
  have hb : byteK s i = (s.data.toList[i]).toNat := by unfold byteK; rw [List.getD_eq_getElem?_getD, List.getElem?_eq_getElem hl]; rfl
  rw [this, valOf_one, hb]
  have := (s.data.toList[i]).toNat_lt
  unfold wrap64
  omega
set_option maxRecDepth 100000 in
set_option maxHeartbeats 2000000 in
theorem begun_seq (n : Nat) (hn : 1 ≤ n) (R m : Nat) (s : ByteArray) (hs : s.size ≤ 1000000) :
    SeqP Fence.wide n Tryz.prog 29 #[.pointer (some ⟨R, 0, none⟩)] #[] (encK s) (NeedK R m s) (StepK R m s) FinK s.size := fun l J Jx Jp W hneed hY h0 => by
  have HNE := Lib.hid hneed
  have HY := Lib.hid hY
  have HJ0 := Lib.hid h0
  clear hneed hY h0
  refine callsIn_of_wp Tryz.func29 rfl trivial ?_ rfl
  simp only [Tryz.ntmps29, List.size_toArray, List.length_cons, List.length_nil, Nat.reduceAdd, Nat.reduceSub, Array.replicate_succ, Array.replicate_zero, List.push_toArray, List.append_toArray, List.nil_append, List.cons_append]
  gi_wp2
  gi_loopw [4] (fun _ wr => ∃ i : Nat, Hid (J i wr)) (fun _ wr => s.size - posK wr R)
  case atStart => exact ⟨0, HJ0⟩
  case round =>
    obtain ⟨i, HJ⟩ := hrel
    obtain ⟨hrd, hi⟩ := HNE.out _ _ HJ.out
    have HRD := Lib.hid hrd
    obtain ⟨h0, h1, h2, h3, h4, h5⟩ := hrd
    by_cases hlt : i < s.size
    · have HC : Hid (∀ q, Calls Tryz.prog 54 #[.pointer (some ⟨R, 0, none⟩), .int .i64 1] (wr.drewN q) fun e w1 => e = .returned (.int .i64 (byteK s i : Nat)) ∧ YieldAt Fence.wide (n - 1) Tryz.prog l #[.int .i64 i, .int .i64 (byteK s i : Nat)] w1 fun e B =>
          (e = .returned (.bool true) ∧ ∃ i', i < i' ∧ Hid (J i' B)) ∨ (e = .returned (.bool false) ∧ Hid (Jx i B)) ∨ (∃ ch, e = .panicked ch ∧ Hid (Jp ch B))) := Lib.hid fun q => by
        have := qfixedK_yes R m s i 1 (wr.drewN q) (HRD.out.keep (below_drewN (Below.refl _ wr) q)) hs (by decide) (by decide) (by omega)
        rw [valOf_cut1 s i hlt] at this
        refine this.mono ?_
        rintro e w1 ⟨rfl, hr1, hg1⟩
        exact ⟨rfl, HY.out i wr w1 HJ.out hlt ⟨hr1, (kgrown_drewN wr q _).trans hg1⟩⟩
      have hpos := Lib.hid (posK_rd HRD.out)
      clear h2 h3 h4 h5
      gi_wp2
      gi_quiet (fail)
      gi_wp2
      refine ⟨trivial, (callsIn_wide.2 (HC.out _)).mono ?_⟩
      rintro e w1 ⟨rfl, fn, tmps, assign, body, hy, hR⟩
      clear HC h0 h1
      gi_wp2
      refine hR.mono ?_
      rintro e w2 (⟨rfl, i', hi', HJ2⟩ | ⟨rfl, HJ2⟩ | ⟨ch, rfl, HJ2⟩)
      · clear hy hR
        gi_wp2
        go_roundw
        case rel => exact ⟨i', HJ2⟩
        case measure =>
          obtain ⟨hrd2, hi2⟩ := HNE.out _ _ HJ2.out
          rw [posK_rd hrd2, hpos.out]
          omega
      · clear hy hR
        gi_wp2
        refine bodyPost_ret (results_none rfl _ _ _) rfl ?_
        exact .inl ⟨_, rfl, .inr ⟨i, w2, HJ2.out, 0, rfl⟩⟩
      · exact ⟨rfl, .inr ⟨ch, rfl, HJ2.out⟩⟩
    · obtain rfl : i = s.size := by omega
      clear h2 h3 h4 h5
      gi_wp2
      gi_quiet (fail)
      gi_wp2
      go_end0
      exact .inl ⟨_, rfl, .inl ⟨wr, HJ.out, _, rfl⟩⟩
end Go.Proofs.YtcedeipmboekaaaGreatDoor
