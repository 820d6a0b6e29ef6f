/-
  swingbridgelaw02.OctetSums: for every number, how many bytes, bytes and cut the call returns true, and each argument reads afterwards as it read before. No condition.
-/
import Derived.Test.YtdbjdebffngngaaOOpen
import Derived.Test.YtdbjdebffngngaaOSums
namespace Go.Proofs.Ytdbjdebffngngaa.OctetSums
open Go.Joins Go.ChangeShapes Go.WideShapes Go.ChangeAt Go.RowKit Go.Deep

set_option maxRecDepth 100000 in
theorem contract (H : Type) (enc : TypeId × Value → H) (W : World) (base : Nat) (args : Array Value) (ds gs : List (DataW H)) (before : List MemPlace)
    (hval : ∀ (j : Nat) t v, Try.f6.params[j]? = some t → args[j]? = some v → Value.okWide Try.prog W .any base t v)
    (hW : DataW.Whole enc Try.prog Try.f6.params.toList Rows.octetSumsSpec.vars false W args.toList ds gs before) :
    Calls Try.prog 6 args W fun e W' => ∃ v, e = .returned v ∧ Rows.octetSumsSpec.post enc Try.prog Try.f6 false true false false W args v W' := by
  have hW' := hW
  obtain ⟨p, q, hA0, hV, rfl, hfz, hnd⟩ := hW
  have hA : DataW.TrodAll enc Try.prog W 0 (fun _ => true) true Try.f6.params.toList args.toList ds p := hA0
  rw [Try.params6] at hA hval
  obtain ⟨a0, a1, a2, a3, d0, d1, d2, d3, p0, p1, p2, p3, rfl, rfl, _, t0, t1, t2, t3⟩ := trodAll_four hA
  obtain ⟨rfl, rfl⟩ := trodVars_none hV
  obtain ⟨n, rfl, hn⟩ := open_u64 (hval 0 22 a0 rfl rfl) t0
  obtain ⟨many, rfl, hmany, hmany'⟩ := open_i64 (hval 1 3 a1 rfl rfl) t1
  obtain ⟨b, hb, hlb⟩ := open_bytes (hval 2 23 a2 rfl rfl) t2
  obtain ⟨cut, rfl, hcut, hcut'⟩ := open_i64 (hval 3 3 a3 rfl rfl) t3
  refine (sums_true n many a2 b cut W hn hb hlb hcut hcut').mono fun e W' ⟨he, hb'⟩ => ?_
  subst he
  exact ⟨_, rfl, post_true rfl rfl (by decide +kernel) hW' hb' rfl⟩

def zeroArgs : Array Value := #[.int .u64 0, .int .i64 0, .slice none 0 0, .int .i64 0]
set_option maxRecDepth 100000 in
theorem reads (os : Os) {H : Type} (enc : TypeId × Value → H) : ∃ places, DataW.whole enc Try.prog ((plainWorld os).forCall (fun _ _ => 0) ⟨#[], zeroArgs, []⟩).memory Try.f6.params.toList Rows.octetSumsSpec.vars false zeroArgs.toList 8 = some ([.lit (.int .u64 0), .lit (.int .i64 0), .nil, .lit (.int .i64 0)], [], places) :=
  ⟨[], by kernel_rfl⟩

set_option maxRecDepth 100000 in
theorem lifted (os : Os) (started : os.Started) (H : Type) (enc : TypeId × Value → H) (F : Stop.Interp) :
    ReturnsInHanded {} Try.checked os 6 .any ((OpenSpec.ofChange Rows.octetSumsSpec).preRow enc Try.prog Try.f6 Rows.octetSumsRow.domain false Rows.octetSumsRow.laid) (((OpenSpec.ofChange Rows.octetSumsSpec).at F).post enc Try.prog Try.f6 false true false false) := by
  obtain ⟨places, hx⟩ := reads os enc
  refine returnsInHanded_of_row (C := Try.checked) (s := OpenSpec.ofChange Rows.octetSumsSpec) ownNone started (by kernel_rfl) Try.func6
    (witness_row_at (enc := enc) (C := Try.checked) false (plainWorld os) zeroArgs rfl (by kernel_rfl) (by kernel_rfl) (by kernel_rfl)
      (OpenSpec.preRow_of_cond 8 hx (by kernel_rfl) (fun k hk => by cases hk) (by kernel_rfl) (plainWorld_met os _))) ?_
  intro W base args ds gs before hval hW _ _ _ _ _ _
  exact contract H enc W base args ds gs before hval hW

set_option maxRecDepth 100000 in
/-- THE STATEMENT -/
theorem said : Rows.OctetSumsSaid :=
  OpenClaim.holds_of_cond 6 Try.f6 rfl rfl rfl rfl rfl rfl rfl ⟨rfl, rfl, rfl, rfl, rfl⟩ rfl rfl rfl rfl rfl (by kernel_rfl) Try.func6 (by kernel_rfl)
    (of_decide_eq_true (by kernel_rfl)) (by unfold Func.isWrapper; first | (rw [if_pos (by decide +kernel)]; kernel_rfl) | (rw [if_neg (by decide +kernel)]; exact ⟨rfl, rfl⟩))
    (fun os started H enc _ F => by rw [OpenClaim.pre_eq_preRow]; exact lifted os started H enc F)
end Go.Proofs.Ytdbjdebffngngaa.OctetSums
