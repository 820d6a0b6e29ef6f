/-
  schema's own iterator over the sets: the contract that frees the body.
-/
import Derived.Test.YtjlhbpacecbfmaaGreatDoorSSets
import Derived.Test.YtjlhbpacecbfmaaGreatDoorSeqX
namespace Go.Proofs.YtjlhbpacecbfmaaGreatDoor
open Go.RowKit Go.Shelf
attribute [local go_sem] Oper.semAt_some

set_option maxRecDepth 100000 in
set_option maxHeartbeats 2000000 in
theorem lsets_turnsX (n : Nat) (hn : 1 ≤ n) (p : SchV) (S : Sch) (om : Option Nat) (hs : List (Option Addr × Nat)) (w : World) (hl : S.uqs.length ≤ 1000) (hS : SetsAt w p.ou S.uqs hs) :
    SeqTurnsX Fence.wide n Tryz.prog 34 #[.agg #[.slice p.oc S.cols.length p.cc, .slice p.ok S.key.length p.ck, .slice p.ou S.uqs.length p.cu, .map om]] #[] (encS p S hs) (GS p.ou S.uqs) 1 (fun xs => xs = List.range (1 + S.uqs.length)) (SpS S) (fun _ _ => True) w := fun ll J Jx W hW hJ hJx hY h0 => by
  have HSW := Lib.hid (hS.keep hW (Nat.le_refl _))
  have HJ0 := Lib.hid (hJ.ext [] _ _ h0 ((Below.refl W.heap.size W).alloc (Nat.le_refl _) (.cells #[.slice p.oc S.cols.length p.cc, .slice p.ok S.key.length p.ck, .slice p.ou S.uqs.length p.cu, .map om] 68)))
  have HY0 := hY [] 0 _ HJ0.out ⟨1, rfl, by omega⟩ trivial (by simp)
  rw [show encS p S hs 0 = #[.int .i64 0, .slice p.ok S.key.length p.ck] from rfl] at HY0
  have HY := Lib.hid hY
  have HE := Lib.hid (encS_next p S hs)
  have HSC : Hid (∀ j (h : j < S.uqs.length), ∃ a, p.ou = some a ∧ W.cell? (a.add j) = some (.slice (hAt hs j).1 S.uqs[j].length (hAt hs j).2)) := Lib.hid (fun j h => by
    obtain ⟨a, e, hc, _⟩ := HSW.out j h
    exact ⟨a, e, hc⟩)
  clear hY h0 hS hW HSW HJ0
  obtain ⟨oc, cc, ok, ck, ou, cu⟩ := p
  obtain ⟨cols, key, uqs⟩ := S
  simp only at *
  obtain ⟨fn, tmps, assign, body, hy, hR⟩ := HY0
  simp only [List.nil_append] at hR
  refine callsIn_of_wp Tryz.func34 rfl trivial ?_ rfl
  simp only [Tryz.ntmps34, List.size_toArray, List.length_cons, List.length_nil, Nat.reduceAdd, Nat.reduceSub, Array.replicate_succ, Array.replicate_zero, List.push_toArray, List.append_toArray, List.nil_append, List.cons_append]
  gi_wp2
  refine hR.mono ?_
  rintro e w2 (⟨rfl, hJ2, hk2⟩ | ⟨rfl, hJx2, _⟩)
  · have HJ2 := Lib.hid hJ2
    have hs2 := hk2.size
    have hc2 : w2.cell? ⟨W.heap.size, 2, none⟩ = some (.slice ou uqs.length cu) := (World.cell?_of_block (a := ⟨W.heap.size, 2, none⟩) (hk2.same W.heap.size (by simp) (.inl ⟨Nat.le_refl _, by omega⟩))).trans (by simp [go_sem])
    have HSC2 : Hid (∀ j (h : j < uqs.length), ∃ a, ou = some a ∧ w2.cell? (a.add j) = some (.slice (hAt hs j).1 uqs[j].length (hAt hs j).2)) := Lib.hid (fun j h => by
      obtain ⟨a, e, hc⟩ := HSC.out j h
      refine ⟨a, e, ?_⟩
      have hlt := World.block_lt_of_cell? W _ hc
      rw [World.cell?_of_block (hk2.same (a.add j).block (by simp; omega) (.inr ⟨⟨a, e, by rw [add_block]⟩, fun e0 => by rw [show uqs = [] from e0] at h; cases h⟩)), World.cell?_alloc_lt _ _ _ hlt]
      exact hc)
    clear hJ2 hk2 HSC hy hR
    gi_wp2
    gi_loopw [16] (fun i wr => ∃ k : Nat, k ≤ uqs.length ∧ i = .int .i64 k ∧ Hid (J (List.range (k + 1)) wr) ∧ Hid (∀ j (h : j < uqs.length), ∃ a, ou = some a ∧ wr.cell? (a.add j) = some (.slice (hAt hs j).1 uqs[j].length (hAt hs j).2)) ∧ W.heap.size < wr.heap.size) (fun i _ => uqs.length - (intOf i).toNat)
    case atStart => exact ⟨0, Nat.zero_le _, rfl, HJ2, HSC2, by simp at hs2; omega⟩
    case round =>
      obtain ⟨k, hk, rfl, HJ3, HSC3, hsz⟩ := hrel
      clear hc2 HSC2 HJ2
      by_cases hlt : k < uqs.length
      · obtain ⟨a, rfl, hcell⟩ := HSC3.out k hlt
        have HYk := HY.out (List.range (k + 1)) (k + 1) wr HJ3.out ⟨k + 2, by rw [List.range_succ (n := k + 1)], by show k + 2 ≤ 1 + uqs.length; omega⟩ trivial (by omega)
        rw [HE.out k hlt, ← List.range_succ (n := k + 1)] at HYk
        obtain ⟨fn, tmps, assign, body, hy, hR⟩ := HYk
        gi_wp2
        refine hR.mono ?_
        rintro e w4 (⟨rfl, hJ4, hk4⟩ | ⟨rfl, hJx4, _⟩)
        · have HJ4 := Lib.hid hJ4
          have hs4 := hk4.size
          have HSC4 : Hid (∀ j (h : j < uqs.length), ∃ a', some a = some a' ∧ w4.cell? (a'.add j) = some (.slice (hAt hs j).1 uqs[j].length (hAt hs j).2)) := Lib.hid (fun j h => by
            obtain ⟨a', e, hc⟩ := HSC3.out j h
            refine ⟨a', e, ?_⟩
            have hlt := World.block_lt_of_cell? wr _ hc
            rw [World.cell?_of_block (hk4.same (a'.add j).block hlt (.inr ⟨⟨a', e, by rw [add_block]⟩, fun e0 => by rw [show uqs = [] from e0] at h; cases h⟩))]
            exact hc)
          clear hJ4 hk4 hy hR hcell HJ3 HSC3
          gi_wp2
          go_roundw
          case rel => exact ⟨k + 1, by omega, by go_num, HJ4, HSC4, by omega⟩
          case measure => simp [intOf]; omega
        · have HJ4 := Lib.hid hJx4
          clear hJx4 hy hR hcell
          gi_wp2
          refine bodyPost_ret (results_none rfl _ _ _) rfl ?_
          exact ⟨⟨_, rfl⟩, .inr ⟨List.range (k + 1 + 1), ⟨k + 2, rfl, by show k + 2 ≤ 1 + uqs.length; omega⟩, HJ4.out⟩⟩
      · obtain rfl : k = uqs.length := by omega
        gi_wp2
        go_end0
        exact ⟨⟨_, rfl⟩, .inl ⟨_, by rw [Nat.add_comm], HJ3.out⟩⟩
  · have HJ4 := Lib.hid hJx2
    clear hJx2 hy hR
    gi_wp2
    refine bodyPost_ret (results_none rfl _ _ _) rfl ?_
    exact ⟨⟨_, rfl⟩, .inr ⟨[0], ⟨1, rfl, by omega⟩, HJ4.out⟩⟩
end Go.Proofs.YtjlhbpacecbfmaaGreatDoor
