/-
  swingbridgelaw09.act: any call but a crash.
-/
import Derived.Test.YtlnemefegkjjiaaDoorDActB0
import Derived.Test.YtlnemefegkjjiaaDoorDActB1
import Derived.Test.YtlnemefegkjjiaaDoorDActB2
import Derived.Test.YtlnemefegkjjiaaDoorDActC
import Derived.Test.YtlnemefegkjjiaaDoorDActS
import Derived.Test.YtlnemefegkjjiaaDoorDWorksB
import Derived.Test.YtlnemefegkjjiaaDoorDFew
namespace Go.Proofs.YtlnemefegkjjiaaDoor
open Go.RowKit

def actD (D : Dk) (x : ActV) : Dk := if x.wh = 0 ∨ x.wh = 1 ∨ x.wh = 2 then D.app x.fi x.l else if x.wh = 3 then D.cutd x.fi x.nn else if x.wh = 4 then D.synced else D
theorem act_any {w W0 : World} {p : Nat} {D : Dk} {hv : Value} {H : List (List UInt8)} (h : HRun w W0 p D hv H) (hET : HasET w) (hfew : D.L.length < 900) (x : ActV) (hbt : BtAt W0 x.bs x.l) (hw : x.wh ≠ 5) :
    Calls Tryd.prog 8 #[.pointer (some ⟨p, 0, none⟩), .agg zD, .agg #[.int .i64 x.wh, .int .i64 x.fi, .int .i64 x.nn, .int .i64 x.tn, x.bs]] W0 (ActP w (actD D x) hv H) := by
  unfold actD
  by_cases h0 : x.wh = 0
  · rw [if_pos (.inl h0)]
    exact act_app0 h hET hfew zD zD_zd _ _ _ _ _ _ hbt h0
  · by_cases h1 : x.wh = 1
    · rw [if_pos (.inr (.inl h1))]
      exact act_app1 h hET hfew zD zD_zd _ _ _ _ _ _ hbt h1
    · by_cases h2 : x.wh = 2
      · rw [if_pos (.inr (.inr h2))]
        exact act_app2 h hET hfew zD zD_zd _ _ _ _ _ _ hbt h2
      · rw [if_neg (by omega)]
        by_cases h3 : x.wh = 3
        · rw [if_pos h3]
          exact act_cut h hET hfew zD zD_zd _ _ _ _ _ _ hbt h3
        · rw [if_neg h3]
          by_cases h4 : x.wh = 4
          · rw [if_pos h4]
            exact act_sync h hET hfew zD zD_zd _ _ _ _ _ _ hbt h4
          · rw [if_neg h4]
            exact act_copy h hET hfew zD zD_zd _ _ _ _ _ _ hbt (by omega)
theorem HadOf.act {f : Nat} {D : Dk} {h : List (List UInt8)} (y : HadOf f D h) (hi : D.Inv) (x : ActV) (hw : x.wh ≠ 4) : HadOf f (actD D x) (h ++ [(actD D x).F f]) := by
  unfold actD
  split
  · exact y.app hi _ _
  · split
    · exact y.cutd hi _ _
    · first | exact y.stay hi | (rw [if_neg hw]; exact y.stay hi)
theorem HadOf.act4 {f : Nat} {D : Dk} (x : ActV) (hw : x.wh = 4) : HadOf f (actD D x) ([] ++ [(actD D x).F f]) := by
  unfold actD
  rw [if_neg (by omega), if_neg (by omega), if_pos hw]
  exact HadOf.sync
theorem few_act (D : Dk) (x : ActV) : (actD D x).L.length ≤ D.L.length + 1 := by
  unfold actD
  split
  · exact few_app D _ _
  · split
    · exact few_cutd D _ _
    · split
      · show ([] : List Th).length ≤ _
        simp
      · omega
theorem readS_nat (D : Dk) (f : Nat) (hf : f < 64) : readS D f = D.F f := if_neg (by omega)
/-- one of two, or between them, as the law asks it -/
def condB (n a b : ByteArray) : Prop := n = a ∨ ((n.size : Int) ≤ b.size ∧ (a.size : Int) ≤ n.size ∧ b.extract 0 n.size = n ∧ n.extract 0 a.size = a)
theorem condB_of {now a b : List UInt8} (h : betw now a b) : condB ⟨now.toArray⟩ ⟨a.toArray⟩ ⟨b.toArray⟩ := by
  rcases h with h | ⟨h1, h2, h3, h4⟩
  · exact .inl (by rw [h])
  · have hs : ∀ l : List UInt8, (⟨l.toArray⟩ : ByteArray).size = l.length := fun l => by simp [ByteArray.size]
    have he : ∀ (l : List UInt8) (k : Nat), (⟨l.toArray⟩ : ByteArray).extract 0 k = ⟨(l.take k).toArray⟩ := fun l k => by
      apply ByteArray.ext
      rw [ByteArray.data_extract]
      simp
    refine .inr ⟨by rw [hs, hs]; omega, by rw [hs, hs]; omega, ?_, ?_⟩
    · rw [he, hs, h3]
    · rw [he, hs, h4]
theorem yieldsIf_load_at {P : Program} {ops : Array Oper} {S : World → Prop} {op : Oper} {a : Act} (hw : Region.wanted op (yielded ops a.tmps) = true) (ty : TypeId) (x : Operand) (ho : op.op = .load ty x) (A : Addr) (hx : a.eval x = .pointer (some A)) (v : Value) (hS : ∀ w, S w → (loadVar ty A).run P w = .ok v w) : YieldsIf P ops S op v a :=
  .inl ⟨hw, fun w hw' => by
    unfold execOp
    simp only [ho, hx, Instr.loadAt, Instr.sureAddr, Sem.run_bind, Sem.run_pure, Result.andThen_ok, hS w hw']⟩
theorem info5 : (Tryd.prog.info? 33).map (·.size) = some 5 := by kernel_rfl
theorem isAgg5 (w : World) : (isAgg 33).run Tryd.prog w = .ok true w := by
  unfold isAgg
  rw [Sem.run_bind, run_underlying Tryd.underlying33 w]
  rfl
theorem act5_load (A : Addr) (x : ActV) (w : World) (h0 : w.cell? A = some (.int .i64 x.wh)) (h1 : w.cell? ⟨A.block, A.off + 1, none⟩ = some (.int .i64 x.fi)) (h2 : w.cell? ⟨A.block, A.off + 2, none⟩ = some (.int .i64 x.nn)) (h3 : w.cell? ⟨A.block, A.off + 3, none⟩ = some (.int .i64 x.tn)) (h4 : w.cell? ⟨A.block, A.off + 4, none⟩ = some x.bs) :
    (loadVar 33 A).run Tryd.prog w = .ok (.agg #[.int .i64 x.wh, .int .i64 x.fi, .int .i64 x.nn, .int .i64 x.tn, x.bs]) w := by
  have hadd : ∀ j, j ≠ 0 → A.add j = ⟨A.block, A.off + j, none⟩ := fun j hj => by unfold Addr.add; rw [if_neg hj]
  have hl := run_loadCells_list (P := Tryd.prog) w A [.int .i64 x.wh, .int .i64 x.fi, .int .i64 x.nn, .int .i64 x.tn, x.bs] (fun j v hv => by
    match j, hv with
    | 0, hv =>
      simp at hv; subst hv
      rw [show A.add 0 = A by unfold Addr.add; split <;> simp_all]
      exact h0
    | 1, hv => simp at hv; subst hv; rw [hadd 1 (by decide)]; exact h1
    | 2, hv => simp at hv; subst hv; rw [hadd 2 (by decide)]; exact h2
    | 3, hv => simp at hv; subst hv; rw [hadd 3 (by decide)]; exact h3
    | 4, hv => simp at hv; subst hv; rw [hadd 4 (by decide)]; exact h4
    | j + 5, hv => simp at hv)
  have hagg := isAgg5 w
  have hi := info5
  cases hq : Tryd.prog.info? 33 with
  | none => simp [hq] at hi
  | some i =>
    have hs : i.size = 5 := by simpa [hq] using hi
    simp only [List.length_cons, List.length_nil] at hl
    simp [loadVar, Sem.run_bind, hagg, sizeOf, typeInfo, hq, hs, hl]
theorem tl_true {x y : ByteArray} (h : x = y) : (x.toList == y.toList) = true := by rw [h, beq_iff_eq]
theorem tl_false {x y : ByteArray} (h : x ≠ y) : (x.toList == y.toList) = false := by
  rw [beq_eq_false_iff_ne, ByteArray.toList_eq, ByteArray.toList_eq]
  exact fun e => h (ByteArray.ext (Array.ext' e))
end Go.Proofs.YtlnemefegkjjiaaDoor
