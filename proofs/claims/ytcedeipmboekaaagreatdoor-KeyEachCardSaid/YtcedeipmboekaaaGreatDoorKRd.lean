/-
  key's reader: piece, take, fixed.
-/
import Derived.Test.YtcedeipmboekaaaGreatDoorKMap
import Derived.Lib.MinMax
import Derived.Lib.ConvBytes
namespace Go.Proofs.YtcedeipmboekaaaGreatDoor
open Go.RowKit

/-- a reader of s lies in block R, i bytes are taken -/
structure RdK (w : World) (R m : Nat) (s : ByteArray) (i : Nat) : Prop where
  bytes : w.cell? ⟨R, 0, none⟩ = some (.string s)
  pos : w.cell? ⟨R, 1, none⟩ = some (.int .i64 i)
  kinds : w.cell? ⟨R, 2, none⟩ = some (.map (some m))
  free : w.frozen? ⟨R, 1, none⟩ = false
  map : w.heap[m]? = some (.map keyKinds 5)
  ne : m ≠ R
/-- it gives up: a panic with a none -/
def KGone (w : World) (R : Nat) (e : Ending) (w' : World) : Prop := (∃ s, e = .panicked [{ v := .iface 90 (.string s), recovered := false }]) ∧ w.grownBy w' (some R)
/-- it has read a thing, up to k -/
def KGot (w : World) (R m : Nat) (s : ByteArray) (k : Nat) (x : Value) (e : Ending) (w' : World) : Prop := e = .returned x ∧ RdK w' R m s k ∧ w.grownBy w' (some R)
theorem kgrown_drewN (w : World) (n : Nat) (row : Option Nat) : w.grownBy (w.drewN n) row := ⟨rfl, rfl, rfl, Nat.le_refl _, fun _ _ _ => rfl⟩
theorem kgrown_below {w w' : World} (h : Below w.heap.size w w') (row : Option Nat) : w.grownBy w' row := ⟨h.os, h.tape, h.output, h.size, fun k hk _ => h.block k hk⟩
theorem RdK.lt {w : World} {R m i : Nat} {s : ByteArray} (h : RdK w R m s i) : R < w.heap.size := World.block_lt_of_cell? w _ h.bytes
theorem RdK.keep {w w' : World} {R m i : Nat} {s : ByteArray} (h : RdK w R m s i) (hg : Below w.heap.size w w') : RdK w' R m s i := by
  have hl := h.lt
  exact ⟨by rw [hg.cell (by simpa using hl)]; exact h.bytes, by rw [hg.cell (by simpa using hl)]; exact h.pos, by rw [hg.cell (by simpa using hl)]; exact h.kinds, by rw [hg.frozen (by simpa using hl)]; exact h.free, (hg.block _ (Array.getElem?_eq_some_iff.1 h.map).1).trans h.map, h.ne⟩
theorem kgot_set {w : World} {R m i k q : Nat} {s : ByteArray} {x : Value} (h : RdK w R m s i) : KGot w R m s k x (.returned x) ((w.drewN q).setCell ⟨R, 1, none⟩ (.int .i64 k)) := by
  obtain ⟨h0, h1, h2, h3, h4, h5⟩ := h
  refine ⟨rfl, ⟨by simp [go_sem, h0], by simp [go_sem, h1], by simp [go_sem, h2], by simp [go_sem, h3], ?_, h5⟩, World.grownBy.trans (kgrown_drewN w q _) ⟨rfl, rfl, rfl, by simp, fun k' _ hk' => by
    have hne : k' ≠ R := fun e => hk' (by rw [e])
    unfold World.setCell
    simp only [Array.getElem?_modify]
    rw [if_neg (fun e => hne e.symm)]⟩⟩
  unfold World.setCell
  simp only [Array.getElem?_modify]
  rw [if_neg (fun e => h5 e.symm)]
  exact h4
/-- so many bytes from a place on -/
def cutS (s : ByteArray) (i k : Nat) : List UInt8 := (s.data.toList.drop i).take k
theorem cutS_length (s : ByteArray) (i k : Nat) : (cutS s i k).length = min k (s.size - i) := by
  unfold cutS
  rw [List.length_take, List.length_drop]
  rfl
theorem extract_cut (s : ByteArray) (i k : Nat) : s.extract i (i + k) = ⟨(cutS s i k).toArray⟩ := by
  apply ByteArray.ext
  rw [ByteArray.data_extract]
  unfold cutS
  apply Array.toList_inj.1
  simp [Array.toList_extract, List.extract_eq_take_drop]
theorem piece_eq (s : ByteArray) (i k : Nat) (hi : i ≤ s.size) : s.extract i ((i : Int) + min (k : Int) ((s.size : Int) - i)).toNat = ⟨(cutS s i k).toArray⟩ := by
  rw [show ((i : Int) + min (k : Int) ((s.size : Int) - i)).toNat = i + min k (s.size - i) by omega, extract_cut]
  unfold cutS
  congr 2
  rcases Nat.le_total k (s.size - i) with h | h
  · rw [Nat.min_eq_left h]
  · rw [Nat.min_eq_right h, List.take_of_length_le (by rw [List.length_drop]; exact Nat.le_refl _), List.take_of_length_le (by rw [List.length_drop]; exact h)]
set_option maxHeartbeats 1000000 in
theorem qpiece_any (s : ByteArray) (i k : Nat) (w : World) (hs : s.size ≤ 1000000) (hi : i ≤ s.size) (hk : k ≤ 1000000) :
    Calls Tryz.prog 94 #[.string s, .int .i64 i, .int .i64 k] w fun e w' => e = .returned (.string ⟨(cutS s i k).toArray⟩) ∧ w = w' := by
  rw [← piece_eq s i k hi]
  go_enter Tryz.func94, Tryz.ntmps94
  go_wp2
  go_ret
  exact ⟨rfl, rfl⟩
theorem mk_size (l : List UInt8) : (⟨l.toArray⟩ : ByteArray).size = l.length := by
  show l.toArray.size = _
  simp
theorem quiet_symK {P : Program} {f : FuncId} {args : Array Value} {w : World} {n : Nat} {v : Value}
    (h : Calls P f args (w.drewN n) fun e w' => e = .returned v ∧ w.drewN n = w') : Calls P f args (w.drewN n) fun e w'' => e = .returned v ∧ ∃ m, w'' = w.drewN m :=
  h.mono fun _ _ ⟨he, hm⟩ => ⟨he, n, hm.symm⟩
set_option maxHeartbeats 1000000 in
theorem qtake_yes (R m : Nat) (s : ByteArray) (i k : Nat) (w : World) (hr : RdK w R m s i) (hs : s.size ≤ 1000000) (hi : i + k ≤ s.size) :
    Calls Tryz.prog 72 #[.pointer (some ⟨R, 0, none⟩), .int .i64 k] w (KGot w R m s (i + k) (.string ⟨(cutS s i k).toArray⟩)) := by
  have HR := Lib.hid hr
  obtain ⟨h0, h1, h2, h3, h4, h5⟩ := hr
  have HC := Lib.hid (fun w => qpiece_any s i k w hs (by omega) (by omega))
  obtain ⟨t, ht⟩ : ∃ t : ByteArray, t = ⟨(cutS s i k).toArray⟩ := ⟨_, rfl⟩
  have hts : ¬ (t.size : Int) < (k : Int) := by
    rw [ht, mk_size, cutS_length]
    omega
  rw [← ht] at HC ⊢
  clear ht h2 h4 h5
  go_enter Tryz.func72, Tryz.ntmps72
  go_wp2_with fail
  go_quiet ((go_at_call 94; exact quiet_symK (HC.out _)))
  go_wp2_with fail
  go_ret
  exact kgot_set HR.out
set_option maxHeartbeats 1000000 in
theorem qtake_no (R m : Nat) (s : ByteArray) (i k : Nat) (w : World) (hr : RdK w R m s i) (hs : s.size ≤ 1000000) (hi : i ≤ s.size) (hk : k ≤ 1000000) (hik : s.size < i + k) :
    Calls Tryz.prog 72 #[.pointer (some ⟨R, 0, none⟩), .int .i64 k] w (KGone w R) := by
  obtain ⟨h0, h1, h2, h3, h4, h5⟩ := hr
  have HC := Lib.hid (fun w => qpiece_any s i k w hs hi hk)
  obtain ⟨t, ht⟩ : ∃ t : ByteArray, t = ⟨(cutS s i k).toArray⟩ := ⟨_, rfl⟩
  have hts : (t.size : Int) < (k : Int) := by
    rw [ht, mk_size, cutS_length]
    omega
  rw [← ht] at HC
  clear ht h2 h4 h5
  go_enter Tryz.func72, Tryz.ntmps72
  go_wp2_with fail
  go_quiet ((go_at_call 94; exact quiet_symK (HC.out _)))
  go_wp2_with fail
  exact ⟨rfl, ⟨_, rfl⟩, kgrown_drewN w _ _⟩
end Go.Proofs.YtcedeipmboekaaaGreatDoor
