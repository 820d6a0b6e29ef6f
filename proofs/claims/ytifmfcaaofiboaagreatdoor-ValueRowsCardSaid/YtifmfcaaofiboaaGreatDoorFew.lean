/-
  Lists of values: their cells; swingbridgelaw01.few.
-/
import Derived.Test.YtifmfcaaofiboaaGreatDoorROrder
import Derived.Test.YtifmfcaaofiboaaGreatDoorTextB
namespace Go.Proofs.YtifmfcaaofiboaaGreatDoor
open Go.RowKit

/-- a value -/
structure Vl where
  k : Int
  i : Int
  u : Int
  s : ByteArray
def Vl.val (v : Vl) : Value := .agg #[.int .i64 v.k, .int .i64 v.i, .int .u64 v.u, .string v.s]
def Vl.ok (v : Vl) : Prop := InR v.i v.u v.s
/-- the cells of a value -/
def ValAt (w : World) (a : Addr) (v : Vl) : Prop := w.cell? a = some (.int .i64 v.k) ∧ w.cell? ⟨a.block, a.off + 1, none⟩ = some (.int .i64 v.i) ∧ w.cell? ⟨a.block, a.off + 2, none⟩ = some (.int .u64 v.u) ∧ w.cell? ⟨a.block, a.off + 3, none⟩ = some (.string v.s)
/-- the cells of a list of values -/
def ValsAt (w : World) (a : Addr) (l : List Vl) : Prop := ∀ (j : Nat) (h : j < l.length), ValAt w (a.add (j * 4)) l[j]
/-- a slice of values -/
def SliceOf (w : World) (v : Value) (l : List Vl) : Prop := (v = .slice none 0 0 ∧ l = []) ∨ ∃ a cap, v = .slice (some a) l.length cap ∧ l.length ≤ cap ∧ ValsAt w a l

def fewB (l : List Vl) (many : Int) : Bool := ((l.take (many + 1).toNat).all fun v => decide (v.s.size ≤ 300)) && decide ((l.length : Int) ≤ many)

theorem few_yes {l : List Vl} {k : Nat} {v : Vl} (h : k < l.length) (hv : l[k] = v) (hs : v.s.size ≤ 300) (hall : ((l.take k).all fun v => decide (v.s.size ≤ 300)) = true) : ((l.take (k + 1)).all fun v => decide (v.s.size ≤ 300)) = true := by
  rw [List.take_succ_eq_append_getElem h, List.all_append, hall, hv]
  simpa using hs
theorem few_no {l : List Vl} {many : Int} {k : Nat} {v : Vl} (hm : (k : Int) ≤ many) (h : k < l.length) (hv : l[k] = v) (hs : ¬ v.s.size ≤ 300) : fewB l many = false := by
  unfold fewB
  rw [Bool.and_eq_false_iff]
  refine .inl ?_
  rw [List.all_eq_false]
  refine ⟨v, ?_, by simpa using hs⟩
  rw [← hv]
  exact List.mem_take_iff_getElem.2 ⟨k, by omega, rfl⟩
theorem few_long {l : List Vl} {many : Int} {k : Nat} (h : k < l.length) (hm : ¬ (k : Int) ≤ many) : fewB l many = false := by
  unfold fewB
  rw [Bool.and_eq_false_iff]
  exact .inr (by simp; omega)
theorem few_all {l : List Vl} {many : Int} {k : Nat} (hall : ((l.take k).all fun v => decide (v.s.size ≤ 300)) = true) (hk : k = l.length) (hm : (k : Int) ≤ many + 1) : fewB l many = decide ((l.length : Int) ≤ many) := by
  unfold fewB
  subst hk
  rw [List.take_of_length_le (Nat.le_refl _)] at hall
  rw [List.take_of_length_le (by omega), hall]
  rfl

set_option maxHeartbeats 1000000 in
theorem few_some (a : Addr) (cap : Nat) (l : List Vl) (many : Int) (w : World) (hv : ValsAt w a l) (hm : 0 ≤ many) (hm' : many ≤ 1000) (hl : l.length ≤ 9223372036854775807) :
    Calls Tryz.prog 8 #[.slice (some a) l.length cap, .int .i64 many] w fun e w' => e = .returned (.bool (fewB l many)) ∧ w = w' := by
  go_enter Tryz.func8, Tryz.ntmps8
  go_wp2
  go_loop [5] (fun i => ∃ (k : Nat), (k : Int) ≤ many + 1 ∧ k ≤ l.length ∧ i = .int .i64 k ∧ ((l.take k).all fun v => decide (v.s.size ≤ 300)) = true) (fun i => l.length - (intOf i).toNat)
  case atStart => exact ⟨0, by omega, by omega, rfl, rfl⟩
  case round =>
    obtain ⟨k, hk, hk', rfl, hall⟩ := hrel
    by_cases hlt : k < l.length
    · by_cases hlm : (k : Int) ≤ many
      · obtain ⟨h0, h1, h2, h3⟩ := hv k hlt
        obtain ⟨v, hvk⟩ : ∃ v, l[k] = v := ⟨_, rfl⟩
        rw [hvk] at h0 h1 h2 h3
        by_cases hs : v.s.size ≤ 300
        · have HK := Lib.hid (few_yes hlt hvk hs hall)
          clear hall hvk
          go_wp2
          go_round
          case rel => exact ⟨k + 1, by omega, by omega, by go_num, HK.out⟩
          case measure => simp [intOf]; omega
        · have HK := Lib.hid (few_no hlm hlt hvk hs)
          clear hall hvk
          go_wp2
          go_ret
          exact ⟨by rw [HK.out]; rfl, rfl⟩
      · have HK := Lib.hid (few_long hlt hlm)
        clear hall
        go_wp2
        go_ret
        exact ⟨by rw [HK.out]; simp; omega, rfl⟩
    · have HK := Lib.hid (few_all (k := k) hall (by omega) hk)
      clear hall
      go_wp2
      go_ret
      exact ⟨by rw [HK.out]; rfl, rfl⟩

theorem few_nil (many : Int) (w : World) (hm : 0 ≤ many) (_hm' : many ≤ 1000) :
    Calls Tryz.prog 8 #[.slice none 0 0, .int .i64 many] w fun e w' => e = .returned (.bool (fewB [] many)) ∧ w = w' := by
  go_enter Tryz.func8, Tryz.ntmps8
  go_wp2
  go_loop [5] (fun i => i = .int .i64 0) (fun i => 0)
  case atStart => rfl
  case round =>
    subst hrel
    go_wp2
    go_ret
    exact ⟨by simp [fewB, hm], rfl⟩
theorem few_any (v : Value) (l : List Vl) (many : Int) (w : World) (hv : SliceOf w v l) (hm : 0 ≤ many) (hm' : many ≤ 1000) (hl : l.length ≤ 9223372036854775807) :
    Calls Tryz.prog 8 #[v, .int .i64 many] w fun e w' => e = .returned (.bool (fewB l many)) ∧ w = w' := by
  rcases hv with ⟨rfl, rfl⟩ | ⟨a, cap, rfl, _, ha⟩
  · exact few_nil many w hm hm'
  · exact few_some a cap l many w ha hm hm' hl
end Go.Proofs.YtifmfcaaofiboaaGreatDoor
