/-
  THE CARD of swingbridgelaw09.DiskHolds.
-/
import Derived.Test.YtlnemefegkjjiaaDoorDHOpen
import Derived.Test.YtlnemefegkjjiaaDoorDLawH
import Derived.Test.YtlnemefegkjjiaaDoorDLawI
namespace Go.Proofs.YtlnemefegkjjiaaDoor.DHol
open Go.Joins Go.ChangeShapes Go.WideShapes Go.ChangeAt Go.RowKit Go.Deep

theorem lawHolds_true (room keep torn file : Int) (oa : Option Addr) (cap : Nat) (acts : List ActV) (w : World) (hET : HasET w) (ha : ActsIn w oa acts) (hl : acts.length ≤ 9223372036854775807) (hk : keep ≤ 9223372036854775807) (ht : torn ≤ 9223372036854775807) :
    Calls Tryd.prog 3 #[.int .i64 room, .slice oa acts.length cap, .int .i64 keep, .int .i64 torn, .int .i64 file] w fun e w' => e = .returned (.bool true) ∧ Below w.heap.size w w' := by
  by_cases hb : room < 1 ∨ 2000 < room ∨ fewA acts 20 = false ∨ file < 0 ∨ 63 < file ∨ keep < 0 ∨ torn < 0
  · exact lawH_bad room keep torn file oa cap acts w hET ha hl hb
  · have hf : fewA acts 20 = true := by
      cases h : fewA acts 20 with
      | true => rfl
      | false => exact absurd (.inr (.inr (.inl h))) hb
    have hs := (fewA_spec hf).1
    obtain ⟨r, rfl⟩ : ∃ r : Nat, room = r := ⟨room.toNat, by omega⟩
    obtain ⟨k, rfl⟩ : ∃ k : Nat, keep = k := ⟨keep.toNat, by omega⟩
    obtain ⟨t, rfl⟩ : ∃ t : Nat, torn = t := ⟨torn.toNat, by omega⟩
    obtain ⟨f, rfl⟩ : ∃ f : Nat, file = f := ⟨file.toNat, by omega⟩
    exact lawH_ok r k t f oa cap acts w hET ha (by omega) hf (by omega) (by omega) (by omega) (by omega) (by omega)
set_option maxRecDepth 100000 in
theorem contract (H : Type) (enc : TypeId × Value → H) (W : World) (base : Nat) (args : Array Value) (ds gs : List (DataW H)) (before : List MemPlace)
    (hval : ∀ (j : Nat) t v, Tryd.f3.params[j]? = some t → args[j]? = some v → Value.okWide Tryd.prog W .any base t v)
    (hW : DataW.Whole enc Tryd.prog Tryd.f3.params.toList Rows.diskHoldsSpec.vars false W args.toList ds gs before) (hL : laidMetH Tryd.prog Rows.diskHoldsRow.laid W) :
    Calls Tryd.prog 3 args W fun e W' => ∃ v, e = .returned v ∧ Rows.diskHoldsSpec.post enc Tryd.prog Tryd.f3 false true false false W args v W' := by
  have hW' := hW
  obtain ⟨p, q, hA0, hV, rfl, hfz, hnd⟩ := hW
  have hA : DataW.TrodAll enc Tryd.prog W 0 (fun _ => true) true Tryd.f3.params.toList args.toList ds p := hA0
  rw [Tryd.params3] at hA hval
  obtain ⟨args⟩ := args
  obtain ⟨a0, v1, d0, e1, p0, q1, rfl, rfl, _, t0, r1⟩ := trodAll_cons hA
  obtain ⟨a1, v2, d1, e2, p1, q2, rfl, rfl, _, t1, r2⟩ := trodAll_cons r1
  obtain ⟨a2, v3, d2, e3, p2, q3, rfl, rfl, _, t2, r3⟩ := trodAll_cons r2
  obtain ⟨a3, v4, d3, e4, p3, q4, rfl, rfl, _, t3, r4⟩ := trodAll_cons r3
  obtain ⟨a4, v5, d4, e5, p4, q5, rfl, rfl, _, t4, r5⟩ := trodAll_cons r4
  obtain ⟨rfl, rfl, _⟩ := trodAll_nil r5
  obtain ⟨rfl, rfl⟩ := trodVars_none hV
  obtain ⟨room, rfl, h0a, h0b⟩ := open_i64D (hval 0 3 a0 rfl rfl) t0
  obtain ⟨oa, cap, acts, rfl, hacts, hlen⟩ := open_acts (hval 1 22 a1 rfl rfl) t1
  obtain ⟨keep, rfl, h2a, h2b⟩ := open_i64D (hval 2 3 a2 rfl rfl) t2
  obtain ⟨torn, rfl, h3a, h3b⟩ := open_i64D (hval 3 3 a3 rfl rfl) t3
  obtain ⟨file, rfl, h4a, h4b⟩ := open_i64D (hval 4 3 a4 rfl rfl) t4
  refine (lawHolds_true room keep torn file oa cap acts W (hasET_of hL) hacts hlen h2b h3b).mono fun e W' ⟨he, hb⟩ => ?_
  subst he
  exact ⟨_, rfl, post_true rfl rfl (by decide +kernel) hW' hb rfl⟩

def zeroArgs : Array Value := #[.int .i64 0, .slice none 0 0, .int .i64 0, .int .i64 0, .int .i64 0]
set_option maxRecDepth 100000 in
theorem reads (os : Os) {H : Type} (enc : TypeId × Value → H) : ∃ places, DataW.whole enc Tryd.prog ((laidWorld os).forCall (fun _ _ => 0) ⟨#[], zeroArgs, []⟩).memory Tryd.f3.params.toList Rows.diskHoldsSpec.vars false zeroArgs.toList 8 = some ([.lit (.int .i64 0), .nil, .lit (.int .i64 0), .lit (.int .i64 0), .lit (.int .i64 0)], [], places) :=
  ⟨[], by kernel_rfl⟩

set_option maxRecDepth 100000 in
theorem lifted (os : Os) (started : os.Started) (H : Type) (enc : TypeId × Value → H) (F : Stop.Interp) :
    ReturnsInHanded {} Tryd.checked os 3 .any ((OpenSpec.ofChange Rows.diskHoldsSpec).preRow enc Tryd.prog Tryd.f3 Rows.diskHoldsRow.domain false Rows.diskHoldsRow.laid) (((OpenSpec.ofChange Rows.diskHoldsSpec).at F).post enc Tryd.prog Tryd.f3 false true false false) := by
  obtain ⟨places, hx⟩ := reads os enc
  refine returnsInHanded_of_row (C := Tryd.checked) (s := OpenSpec.ofChange Rows.diskHoldsSpec) ownNone started (by kernel_rfl) Tryd.func3
    (witness_row_at (enc := enc) (C := Tryd.checked) false (laidWorld os) zeroArgs rfl (by kernel_rfl) (by kernel_rfl) (by kernel_rfl)
      (OpenSpec.preRow_of_cond 8 hx (by kernel_rfl) (fun k hk => by cases hk) (by kernel_rfl) (laidWorld_met os _))) ?_
  intro W base args ds gs before hval hW _ _ _ hL _ _
  exact contract H enc W base args ds gs before hval hW hL

set_option maxRecDepth 100000 in
theorem said : Rows.DiskHoldsSaid :=
  OpenClaim.holds_of_cond 3 Tryd.f3 rfl rfl rfl rfl rfl rfl rfl ⟨rfl, rfl, rfl, rfl, rfl⟩ rfl rfl rfl rfl rfl (by kernel_rfl) Tryd.func3 (by kernel_rfl)
    (of_decide_eq_true (by kernel_rfl)) (by unfold Func.isWrapper; first | (rw [if_pos (by decide +kernel)]; kernel_rfl) | (rw [if_neg (by decide +kernel)]; exact ⟨rfl, rfl⟩))
    (fun os started H enc _ F => by rw [OpenClaim.pre_eq_preRow]; exact lifted os started H enc F)

theorem plain (f : FuncId) (fn : Func) (hf : Tryd.pinned.checked.prog.funcNamed "swingbridge/swingbridgelaw09.DiskHolds" = some f) (hfn : Tryd.pinned.checked.prog.funcs[f]? = some fn) :
    true = Tryd.pinned.checked.prog.looks [] ∧ ∀ (j : Nat) t, fn.params[j]? = some t → Tryd.pinned.checked.prog.wantsStandIn t = false := by
  obtain rfl : f = 3 := Option.some.inj ((show Tryd.prog.funcNamed "swingbridge/swingbridgelaw09.DiskHolds" = some 3 by kernel_rfl).symm.trans hf) |>.symm
  obtain rfl : fn = Tryd.f3 := (Option.some.inj (Tryd.func3.symm.trans hfn)).symm
  refine ⟨by kernel_rfl, fun j t ht => ?_⟩
  have h : ∀ t ∈ Tryd.f3.params, Tryd.prog.wantsStandIn t = false := by decide +kernel
  exact h t (Array.mem_of_getElem? ht)

/-- THE CARD -/
theorem card : Rows.DiskHoldsCardSaid :=
  Claim7.holds_tied_plain_at .later [] _ _ _ _ said (fun _ h => by cases h) (by kernel_rfl) (fun _ h => by cases h) diskHolds_row_tie rfl ⟨rfl, rfl⟩ (by kernel_rfl) rfl plain (by kernel_rfl)
end Go.Proofs.YtlnemefegkjjiaaDoor.DHol
