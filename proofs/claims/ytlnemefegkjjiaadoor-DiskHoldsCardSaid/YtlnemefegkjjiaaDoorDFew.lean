/-
  swingbridgelaw09.few, of any list of calls.
-/
import Derived.Test.YtlnemefegkjjiaaDoorDOps
namespace Go.Proofs.YtlnemefegkjjiaaDoor
open Go.RowKit

/-- a call of the law's -/
structure ActV where
  wh : Int
  fi : Int
  nn : Int
  tn : Int
  bs : Value
  l : List UInt8
def ActsIn (w : World) (oa : Option Addr) (l : List ActV) : Prop := ∀ (j : Nat) (h : j < l.length), ∃ a, oa = some a ∧ w.cell? (a.add (j * 5)) = some (.int .i64 l[j].wh) ∧ w.cell? ⟨(a.add (j * 5)).block, (a.add (j * 5)).off + 1, none⟩ = some (.int .i64 l[j].fi) ∧ w.cell? ⟨(a.add (j * 5)).block, (a.add (j * 5)).off + 2, none⟩ = some (.int .i64 l[j].nn) ∧ w.cell? ⟨(a.add (j * 5)).block, (a.add (j * 5)).off + 3, none⟩ = some (.int .i64 l[j].tn) ∧ w.cell? ⟨(a.add (j * 5)).block, (a.add (j * 5)).off + 4, none⟩ = some l[j].bs ∧ BtAt w l[j].bs l[j].l
theorem ActsIn.keep {w w' : World} {oa : Option Addr} {l : List ActV} (h : ActsIn w oa l) (hb : Below w.heap.size w w') : ActsIn w' oa l := fun j hj => by
  obtain ⟨a, e, h0, h1, h2, h3, h4, h5⟩ := h j hj
  have k : ∀ {p : Addr} {v : Value}, w.cell? p = some v → w'.cell? p = some v := fun hc => (hb.cell (World.block_lt_of_cell? w _ hc)).trans hc
  exact ⟨a, e, k h0, k h1, k h2, k h3, k h4, h5.keep hb⟩
def fewA (l : List ActV) (many : Int) : Bool := ((l.take (many + 1).toNat).all fun v => decide (v.l.length ≤ 60)) && decide ((l.length : Int) ≤ many)
theorem fewA_yes {l : List ActV} {k : Nat} {v : ActV} (h : k < l.length) (hv : l[k] = v) (hs : v.l.length ≤ 60) (hall : ((l.take k).all fun v => decide (v.l.length ≤ 60)) = true) : ((l.take (k + 1)).all fun v => decide (v.l.length ≤ 60)) = true := by
  rw [List.take_succ_eq_append_getElem h, List.all_append, hall, hv]
  simpa using hs
theorem fewA_no {l : List ActV} {many : Int} {k : Nat} {v : ActV} (hm : (k : Int) ≤ many) (h : k < l.length) (hv : l[k] = v) (hs : ¬ v.l.length ≤ 60) : fewA l many = false := by
  unfold fewA
  rw [Bool.and_eq_false_iff]
  refine .inl ?_
  rw [List.all_eq_false]
  refine ⟨v, ?_, by simpa using hs⟩
  rw [← hv]
  exact List.mem_take_iff_getElem.2 ⟨k, by omega, rfl⟩
theorem fewA_long {l : List ActV} {many : Int} {k : Nat} (h : k < l.length) (hm : ¬ (k : Int) ≤ many) : fewA l many = false := by
  unfold fewA
  rw [Bool.and_eq_false_iff]
  exact .inr (by simp; omega)
theorem fewA_all {l : List ActV} {many : Int} {k : Nat} (hall : ((l.take k).all fun v => decide (v.l.length ≤ 60)) = true) (hk : k = l.length) (hm : (k : Int) ≤ many + 1) : fewA l many = decide ((l.length : Int) ≤ many) := by
  unfold fewA
  subst hk
  rw [List.take_of_length_le (Nat.le_refl _)] at hall
  rw [List.take_of_length_le (by omega), hall]
  rfl

set_option maxHeartbeats 2000000 in
theorem few_acts (oa : Option Addr) (cap : Nat) (l : List ActV) (many : Int) (w : World) (hv : ActsIn w oa l) (hm : 0 ≤ many) (hm' : many ≤ 1000) (hl : l.length ≤ 9223372036854775807) :
    Calls Tryd.prog 4 #[.slice oa l.length cap, .int .i64 many] w fun e w' => e = .returned (.bool (fewA l many)) ∧ w = w' := by
  go_enter Tryd.func4, Tryd.ntmps4
  go_wp2
  go_loop [5] (fun i => ∃ (k : Nat), (k : Int) ≤ many + 1 ∧ k ≤ l.length ∧ i = .int .i64 k ∧ ((l.take k).all fun v => decide (v.l.length ≤ 60)) = true) (fun i => l.length - (intOf i).toNat)
  case atStart => exact ⟨0, by omega, by omega, rfl, rfl⟩
  case round =>
    obtain ⟨k, hk, hk', rfl, hall⟩ := hrel
    by_cases hlt : k < l.length
    · by_cases hlm : (k : Int) ≤ many
      · obtain ⟨a, rfl, _, _, _, _, h4, ob, cb, hbs, _⟩ := hv k hlt
        rw [hbs] at h4
        clear hbs
        obtain ⟨v, hvk⟩ : ∃ v, l[k] = v := ⟨_, rfl⟩
        rw [hvk] at h4
        by_cases hs : v.l.length ≤ 60
        · have HK := Lib.hid (fewA_yes hlt hvk hs hall)
          clear hall hvk
          go_wp2
          go_round
          case rel => exact ⟨k + 1, by omega, by omega, by go_num, HK.out⟩
          case measure => simp [intOf]; omega
        · have HK := Lib.hid (fewA_no hlm hlt hvk hs)
          clear hall hvk
          go_wp2
          go_ret
          exact ⟨by rw [HK.out]; rfl, rfl⟩
      · have HK := Lib.hid (fewA_long hlt hlm)
        clear hall
        go_wp2
        go_ret
        exact ⟨by rw [HK.out]; simp; omega, rfl⟩
    · have HK := Lib.hid (fewA_all (k := k) hall (by omega) hk)
      clear hall
      go_wp2
      go_ret
      exact ⟨by rw [HK.out]; rfl, rfl⟩
theorem fewA_spec {l : List ActV} {many : Int} (h : fewA l many = true) : (l.length : Int) ≤ many ∧ ∀ v ∈ l, v.l.length ≤ 60 := by
  unfold fewA at h
  rw [Bool.and_eq_true, decide_eq_true_eq, List.all_eq_true] at h
  refine ⟨h.2, fun v hv => ?_⟩
  have h2 := h.1 v (by rw [List.take_of_length_le (by omega)]; exact hv)
  simpa using h2
end Go.Proofs.YtlnemefegkjjiaaDoor
