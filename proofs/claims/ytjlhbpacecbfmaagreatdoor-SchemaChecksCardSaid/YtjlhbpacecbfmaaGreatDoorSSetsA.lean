/-
  schema.Sets's function: the iterator's contract.
-/
import Derived.Test.YtjlhbpacecbfmaaGreatDoorSLsetsX
import Derived.Test.YtjlhbpacecbfmaaGreatDoorSClone
namespace Go.Proofs.YtjlhbpacecbfmaaGreatDoor
open Go.RowKit Go.Shelf
attribute [local go_sem] Oper.semAt_some

/-- a number, and a slice's head -/
abbrev NSl := Nat × (Option Addr × Nat)
def encO (L : List (List Int)) (x : NSl) : Array Value := #[.int .i64 x.1, .slice x.2.1 (L.getD x.1 []).length x.2.2]
def SpO (L : List (List Int)) (pre : List NSl) : Prop := ∃ k, pre.map (·.1) = List.range k ∧ k ≤ L.length
def FxO (L : List (List Int)) (x : NSl) (W : World) : Prop := IntsIn W x.2.1 (L.getD x.1 [])
/-- what lay lies -/
structure Lo (w W : World) : Prop where
  size : w.heap.size ≤ W.heap.size
  same : ∀ k, k < w.heap.size → W.heap[k]? = w.heap[k]?
theorem Lo.of {w W : World} (h : Below w.heap.size w W) : Lo w W := ⟨h.size, fun k hk => h.block k hk⟩
theorem Lo.trans {w W W' : World} (h : Lo w W) (k : Below W.heap.size W W') : Lo w W' := ⟨Nat.le_trans h.size k.size, fun i hi => (k.block i (Nat.lt_of_lt_of_le hi h.size)).trans (h.same i hi)⟩
theorem Lo.kept {w W W' : World} {B m : Nat} (h : Lo w W) (k : KeepM B m (fun k => k < w.heap.size) W W') : Lo w W' := ⟨Nat.le_trans h.size k.size, fun i hi => (k.same i (Nat.lt_of_lt_of_le hi h.size) (.inr hi)).trans (h.same i hi)⟩
theorem Lo.cell {w W : World} (h : Lo w W) {p : Addr} {v : Value} (hc : w.cell? p = some v) : W.cell? p = some v := (World.cell?_of_block (h.same _ (World.block_lt_of_cell? w p hc))).trans hc
theorem Lo.ints {w W : World} (h : Lo w W) {oa : Option Addr} {l : List Int} (hi : IntsIn w oa l) : IntsIn W oa l := fun j hj => by
  obtain ⟨a, e, hc⟩ := hi j hj
  exact ⟨a, e, h.cell hc⟩
theorem snoc_fst {pre : List NSl} {n : Nat} {h : Option Addr × Nat} (hp : pre.map (·.1) = List.range n) : (pre ++ [((n, h) : NSl)]).map (·.1) = List.range (n + 1) := by
  rw [List.map_append, hp, List.range_succ]
  rfl
set_option maxRecDepth 100000 in
set_option maxHeartbeats 4000000 in
theorem sets1_turns (n : Nat) (hn : 1 ≤ n) (cb : Nat) (oo : Option Addr) (co : Nat) (L : List (List Int)) (hs : List (Option Addr × Nat)) (w : World) (hcb : w.cell? ⟨cb, 0, none⟩ = some (.slice oo L.length co)) (hS : SetsAt w oo L hs) (hl : L.length ≤ 100) (hll : ∀ l ∈ L, l.length ≤ 1000) :
    SeqTurnsX Fence.wide n Tryz.prog 36 #[] #[.pointer (some ⟨cb, 0, none⟩)] (encO L) (fun k => k < w.heap.size) 0 (fun xs => xs.map (·.1) = List.range L.length) (SpO L) (FxO L) w := fun ll J Jx W hW hJ hJx hY h0 => by
  have hc0 := (Lo.of hW).cell hcb
  have HLo := Lib.hid (Lo.of hW)
  have HS := Lib.hid hS
  have HLL := Lib.hid hll
  have HY := Lib.hid hY
  have HJ0 := Lib.hid h0
  clear hY h0 hW hS hcb hll
  refine callsIn_of_wp Tryz.func36 rfl trivial ?_ rfl
  simp only [Tryz.ntmps36, List.size_toArray, List.length_cons, List.length_nil, Nat.reduceAdd, Nat.reduceSub, Array.replicate_succ, Array.replicate_zero, List.push_toArray, List.append_toArray, List.nil_append, List.cons_append]
  gi_wp2
  gi_loopw [7] (fun i wr => ∃ (k : Nat) (pre : List NSl), k ≤ L.length ∧ i = .int .i64 k ∧ Hid (pre.map (·.1) = List.range k) ∧ Hid (J pre wr) ∧ Hid (Lo w wr) ∧ W.heap.size ≤ wr.heap.size) (fun i _ => L.length - (intOf i).toNat)
  case atStart => exact ⟨0, [], Nat.zero_le _, rfl, Lib.hid rfl, HJ0, HLo, Nat.le_refl _⟩
  case round =>
    obtain ⟨k, pre, hk, rfl, HP, HJ, HLo2, hsz⟩ := hrel
    clear HJ0 HLo hc0
    by_cases hlt : k < L.length
    · obtain ⟨ao, rfl, hcell0, hcap, hi0⟩ := HS.out k hlt
      have hcell := HLo2.out.cell hcell0
      have hint := HLo2.out.ints hi0
      have hlk := HLL.out _ (List.getElem_mem hlt)
      have hgd : L.getD k [] = L[k] := by rw [List.getD_eq_getElem?_getD, List.getElem?_eq_getElem hlt]; rfl
      have HC := Lib.hid (CloneI_any (hAt hs k).1 (hAt hs k).2 L[k] _ hint hlk)
      have HGD := Lib.hid hgd
      clear hcell0 hi0 hint hgd
      generalize L[k] = l at *
      gi_wp2
      refine ⟨trivial, (callsIn_wide.2 HC.out).mono ?_⟩
      rintro e w3 ⟨ob, cb3, rfl, hN⟩
      have hYk := HY.out pre (k, (ob, cb3)) w3 (hJ.ext _ _ _ HJ.out hN.below) ⟨k + 1, snoc_fst HP.out, hlt⟩ (show IntsIn w3 ob (L.getD k []) by rw [HGD.out]; exact hN.ints) (by have := hN.below.size; omega)
      rw [show encO L (k, (ob, cb3)) = #[.int .i64 k, .slice ob l.length cb3] by unfold encO; rw [HGD.out]] at hYk
      obtain ⟨fn, tmps, assign, body, hy, hR⟩ := hYk
      have HLo3 := Lib.hid (HLo2.out.trans hN.below)
      have hs3 := hN.below.size
      clear hN hcell HC
      gi_wp2
      refine hR.mono ?_
      rintro e w4 (⟨rfl, hJ4, hk4⟩ | ⟨rfl, hJx4, _⟩)
      · have HJ4 := Lib.hid hJ4
        have HLo4 := Lib.hid (HLo3.out.kept hk4)
        have HP4 := Lib.hid (snoc_fst (h := (ob, cb3)) HP.out)
        have hs4 := hk4.size
        clear hJ4 hk4 hy hR HLo3 HLo2 HJ
        gi_wp2
        go_roundw
        case rel => exact ⟨k + 1, _, hlt, by go_num, HP4, HJ4, HLo4, by omega⟩
        case measure => simp [intOf]; omega
      · have HJ4 := Lib.hid hJx4
        have HP4 := Lib.hid (snoc_fst (h := (ob, cb3)) HP.out)
        clear hJx4 hy hR
        gi_wp2
        refine bodyPost_ret (results_none rfl _ _ _) rfl ?_
        exact ⟨⟨_, rfl⟩, .inr ⟨_, ⟨k + 1, HP4.out, hlt⟩, HJ4.out⟩⟩
    · obtain rfl : k = L.length := by omega
      gi_wp2
      go_end0
      exact ⟨⟨_, rfl⟩, .inl ⟨pre, HP.out, HJ.out⟩⟩
end Go.Proofs.YtjlhbpacecbfmaaGreatDoor
