/-
  swingbridgeref01.Parts.
-/
import Derived.Test.YtifmfcaaofiboaaGreatDoorVApp
import Derived.Lib.AppendStr
namespace Go.Proofs.YtifmfcaaofiboaaGreatDoor
open Go.RowKit

theorem psV_nil : psV [] = [] := by
  rw [psV_step]
  rfl
theorem at_list (s : ByteArray) (e : Nat) (h : e < s.size) : s.data.toList[e]'(by simpa using h) = s[e] := by rw [Array.getElem_toList]; rfl
theorem cut_piece (s : ByteArray) (i e : Nat) : (s.extract i e).data.toList = (s.data.toList.drop i).take (e - i) := by
  simp [ByteArray.data_extract, Array.toList_extract, List.extract_eq_take_drop]
/-- the pieces alone -/
def pcs (r : List UInt8) : List (List UInt8) := (pieW 0 r).map (·.2)
theorem pieGo_snd : ∀ (f k : Nat) (r : List UInt8), (pieGo f k r).map (·.2) = (pieGo f 0 r).map (·.2)
  | 0, _, _ => rfl
  | f + 1, k, r => by
    unfold pieGo
    simp only [List.map_cons]
    by_cases h : (Lib.cut r [44, 32]).2.2 = true
    · rw [if_pos h, if_pos h, pieGo_snd f (k + 1), pieGo_snd f (0 + 1)]
    · rw [if_neg h, if_neg h]
theorem pcs_step (r : List UInt8) : pcs r = r.take (fnd r) :: (if fnd r < r.length then pcs (r.drop (fnd r + 2)) else []) := by
  have h := pieR_true 0 r
  unfold pcs
  rw [show pieW 0 r = pieR true 0 r from rfl, h, cut_fnd]
  by_cases hf : fnd r < r.length
  · rw [if_pos hf, if_pos hf]
    simp only [List.map_cons]
    show _ :: (pieGo _ 1 _).map (·.2) = _
    rw [pieGo_snd]
    rfl
  · rw [if_neg hf, if_neg hf]
    have he : fnd r = r.length := by have := fnd_le r; omega
    rw [he, List.take_length]
    rfl
theorem emp_no {s : ByteArray} (h : s ≠ ⟨#[]⟩) : s.toList.isEmpty = false := by
  rw [Lib.toList_data]
  cases hl : s.data.toList with
  | nil => exact absurd (ByteArray.ext (Array.toList_inj.1 hl)) h
  | cons x t => rfl
theorem emp_yes : (⟨#[]⟩ : ByteArray).toList.isEmpty = true := by rw [Lib.toList_data]; rfl
theorem valO_none_res {b : List UInt8} (h : valO b = none) : ∃ no : Int, no ≠ 0 ∧ parseRes b = .tuple #[.agg #[.int .i64 0, .int .i64 0, .int .u64 0, .string ⟨#[]⟩], .int .i64 no] := by
  unfold valO at h
  unfold parseRes
  split at h
  · rename_i h0
    rw [if_pos h0]
    exact ⟨110, by decide, rfl⟩
  · rename_i h0
    split at h
    · cases h
    · rename_i h1
      rw [if_neg h0, if_neg h1]
      exact ⟨_, h1, rfl⟩
theorem valO_some_res {b : List UInt8} {v : Vl} (h : valO b = some v) : parseRes b = .tuple #[.agg #[.int .i64 v.k, .int .i64 v.i, .int .u64 v.u, .string v.s], .int .i64 0] := by
  unfold valO at h
  unfold parseRes
  split at h
  · cases h
  · rename_i h0
    split at h
    · rename_i h1
      rw [if_neg h0, if_pos h1]
      cases h
      rfl
    · cases h
theorem wpList_append_runP {P : Program} {w : World} {ops : Array Oper} {rest : List Oper} {o : Oper} {a : Act} {Q : Exit → Act → World → Prop} (hgd : o.guard = none) (s x : Operand) (t : TypeId)
    (ho : o.op = .call { callee := .builtin .append, args := #[s, x], argTypes := #[t, t] }) (v u v' : Value) (w' : World) (hs : a.eval s = v) (hx : a.eval x = u) (hrun : (Builtin.append_ #[t, t] o.type #[v, u]).run P w = .ok v' w')
    (h : wpList P ops Q rest (a.put o.dst v') w') : wpList P ops Q (o :: rest) a w := by
  refine wpList_plain hgd fun K hK => ?_
  unfold Oper.wp execOp
  simp only [ho, resolve, invoke, builtin, Sem.run_bind, Sem.run_pure, Result.andThen_ok, List.map_toArray, List.map_cons, List.map_nil, hs, hx, hrun]
  exact hK _ _ h
set_option maxRecDepth 100000 in
set_option maxHeartbeats 4000000 in
theorem rParts_any (s : ByteArray) (w : World) (hs : s.size ≤ 100000) (hp : ∀ b ∈ pcs s.data.toList, b.length ≤ 800) :
    Calls Tryz.prog 25 #[.string s] w fun e w' => ∃ v, e = .returned v ∧ SliceOf w' v (psV s.data.toList) ∧ Below w.heap.size w w' := by
  have hll : s.data.toList.length = s.size := by rw [Array.length_toList]; rfl
  by_cases h0 : s = ⟨#[]⟩
  · have hem : s.toList.isEmpty = true := by rw [h0]; exact emp_yes
    have HPS : Hid (psV s.data.toList = []) := Lib.hid (by rw [h0]; exact psV_nil)
    clear h0 hp hll
    go_enter Tryz.func25, Tryz.ntmps25
    go_wp2
    go_loop [3, 4] (fun x y => x = .slice none 0 0 ∧ y = .int .i64 0) (fun _ _ => 0)
    case atStart => exact ⟨rfl, rfl⟩
    case round =>
      obtain ⟨rfl, rfl⟩ := hrel
      go_wp2_with fail
      go_ret
      exact ⟨_, rfl, .inl ⟨rfl, HPS.out⟩, Below.refl _ _⟩
  · have hem := emp_no h0
    have HLL := Lib.hid hll
    go_enter Tryz.func25, Tryz.ntmps25
    go_wp2
    go_loopw [3, 4] (fun x j wr => ∃ (i : Nat) (vs : List Vl) (a : Option Addr) (c : Nat), i ≤ s.size ∧ vs.length ≤ i ∧ j = .int .i64 i ∧ x = .slice a vs.length c ∧ Hid (PRel s.data.toList i vs) ∧ Hid (∀ b ∈ pcs (s.data.toList.drop i), b.length ≤ 800) ∧ Hid (wr.ownsRow w.heap.size 25 4 (.slice a vs.length c) vs.length (vcellsK vs)) ∧ Hid (Below w.heap.size w wr)) (fun _ j _ => s.size + 1 - (intOf j).toNat)
    case atStart => exact ⟨0, [], none, 0, Nat.zero_le _, Nat.le_refl _, rfl, rfl, Lib.hid (PRel.zero _), Lib.hid hp, Lib.hid (World.ownsRow_nil _ _ _ _), Lib.hid (Below.refl _ _)⟩
    case round =>
      obtain ⟨i, vs, a, c, hi, hvi, rfl, rfl, HR, HPC, HO, HB⟩ := hrel
      clear hp hll h0
      go_wp2_with fail
      go_loop [5] (fun j => ∃ (e : Nat), i ≤ e ∧ e ≤ s.size ∧ j = .int .i64 e ∧ Hid (ERel s.data.toList i e)) (fun j => s.size - (intOf j).toNat)
      case atStart => exact ⟨i, Nat.le_refl _, hi, rfl, Lib.hid (ERel.zero _ _)⟩
      case round =>
        obtain ⟨e, hie, he, rfl, HE⟩ := hrel
        by_cases hlt : e < s.size
        · obtain ⟨c1, hc1⟩ : ∃ c, s[e] = c := ⟨_, rfl⟩
          by_cases hx1 : c1 = 44
          · subst hx1
            have hB1 : (((44 : UInt8).toNat : Int) == 44) = true := rfl
            by_cases h2 : e + 1 < s.size
            · obtain ⟨c2, hc2⟩ : ∃ c, s[e + 1] = c := ⟨_, rfl⟩
              by_cases hx2 : c2 = 32
              · subst hx2
                have hB2 : (((32 : UInt8).toNat : Int) == 32) = true := rfl
                have HF : Hid (fnd (s.data.toList.drop i) = e - i) := Lib.hid (HE.out.found (by rw [HLL.out]; exact h2) (by rw [at_list s e hlt]; exact hc1) (by rw [at_list s (e + 1) h2]; exact hc2))
                have hle : (s.extract i e).size ≤ 800 := by
                  have h1 : (s.extract i e).data.toList.length = (s.extract i e).size := by rw [Array.length_toList]; rfl
                  rw [← h1, cut_piece s i e, ← HF.out]
                  exact HPC.out _ (by rw [pcs_step]; exact List.mem_cons_self)
                have HC := Lib.hid (rParse_any (s.extract i e) wr hle)
                have hpiece : (s.extract i e).data.toList = (s.data.toList.drop i).take (fnd (s.data.toList.drop i)) := by rw [cut_piece s i e, HF.out]
                cases hv : valO ((s.data.toList.drop i).take (fnd (s.data.toList.drop i))) with
                | none =>
                  have HN := Lib.hid (HR.out.none hv)
                  obtain ⟨no, hno, hres⟩ : ∃ no : Int, no ≠ 0 ∧ parseRes (s.extract i e).data.toList = .tuple #[.agg #[.int .i64 0, .int .i64 0, .int .u64 0, .string ⟨#[]⟩], .int .i64 no] := by rw [hpiece]; exact valO_none_res hv
                  rw [hres] at HC
                  have hnb : (no == 0) = false := by rw [beq_eq_false_iff_ne]; exact hno
                  clear hv hpiece hres
                  go_wp2_with fail
                  refine HC.out.mono ?_
                  rintro ee w1 ⟨rfl, hb1⟩
                  have HB1 := Lib.hid (HB.out.trans (hb1.mono HB.out.size))
                  have hs1 := HB1.out.size
                  have HO1 := Lib.hid (own_keepV HO.out hb1)
                  clear hb1
                  go_wp2_with fail
                  go_ret
                  exact ⟨_, rfl, by rw [HN.out]; exact sliceK_own (own_keepV HO1.out ((Below.refl _ _).alloc (Nat.le_refl _) _)), HB1.out.alloc hs1 _⟩
                | some v =>
                  have hres := valO_some_res hv
                  rw [← hpiece] at hres
                  rw [hres] at HC
                  have HV := Lib.hid hv
                  clear hv hpiece hres
                  go_wp2_with fail
                  refine HC.out.mono ?_
                  rintro ee w1 ⟨rfl, hb1⟩
                  have HB1 := Lib.hid (HB.out.trans (hb1.mono HB.out.size))
                  have hown1 := own_keepV HO.out hb1
                  have hs1 := HB1.out.size
                  obtain ⟨a8, c8, w3, hrun, r1, r2⟩ := appendV_run (x := v) (hown1.alloc (.cells #[.int .i64 v.k, .int .i64 v.i, .int .u64 v.u, .string v.s] 25)) (by omega) (by simp; omega) 26
                  rw [show (w1.alloc (.cells #[.int .i64 v.k, .int .i64 v.i, .int .u64 v.u, .string v.s] 25)).heap.size = w1.heap.size + 1 by simp] at hrun
                  have hb3 : Below w.heap.size w w3 := ((HB1.out.alloc hs1 (.cells #[.int .i64 v.k, .int .i64 v.i, .int .u64 v.u, .string v.s] 25)).alloc (by simp; omega) _).grown r2 (by simp; omega) (fun x hx => (hown1.lt x hx).1)
                  have HO3 : Hid (w3.ownsRow w.heap.size 25 4 (.slice a8 (vs ++ [v]).length c8) (vs ++ [v]).length (vcellsK (vs ++ [v]))) := Lib.hid (by rw [List.length_append]; exact r1)
                  have HB3 := Lib.hid hb3
                  have HRUN := Lib.hid hrun
                  clear hb1 hown1 r1 r2 hb3 hrun
                  go_wp2_with (at_builtin; go_loud (refine wpList_append_runP rfl _ _ _ rfl _ _ _ _ rfl rfl HRUN.out ?_))
                  go_wp2_with fail
                  go_roundw
                  case rel => exact ⟨e + 2, vs ++ [v], a8, c8, by omega, by rw [List.length_append]; simp; omega, by go_num, by simp, Lib.hid (by
                    have h := HR.out.next HV.out (by rw [HF.out, List.length_drop, HLL.out]; omega)
                    rw [HF.out, show i + (e - i) + 2 = e + 2 by omega] at h
                    exact h), Lib.hid (by
                    have h := HPC.out
                    rw [pcs_step, HF.out, if_pos (by rw [List.length_drop, HLL.out]; omega), List.drop_drop, show i + (e - i + 2) = e + 2 by omega] at h
                    exact fun b hb => h b (List.mem_cons_of_mem _ hb)), HO3, HB3⟩
                  case measure => simp [intOf]; omega
              · have hB2 : ((c2.toNat : Int) == 32) = false := by
                  rw [beq_eq_false_iff_ne]
                  intro h
                  exact hx2 (UInt8.toNat_inj.1 (by show c2.toNat = 32; omega))
                have HM : Hid (ERel s.data.toList i (e + 1)) := Lib.hid (HE.out.more hie (by rw [HLL.out]; exact hlt) (fun _ hh => hx2 (by rw [← hc2, ← at_list s (e + 1) h2]; exact hh.2)))
                go_wp2_with fail
                go_roundw
                case rel => exact ⟨e + 1, by omega, by omega, by go_num, HM⟩
                case measure => simp [intOf]; omega
            · have HM : Hid (ERel s.data.toList i (e + 1)) := Lib.hid (HE.out.more hie (by rw [HLL.out]; exact hlt) (fun hh _ => h2 (by rw [← HLL.out]; exact hh)))
              go_wp2_with fail
              go_roundw
              case rel => exact ⟨e + 1, by omega, by omega, by go_num, HM⟩
              case measure => simp [intOf]; omega
          · have hB1 : ((c1.toNat : Int) == 44) = false := by
              rw [beq_eq_false_iff_ne]
              intro h
              exact hx1 (UInt8.toNat_inj.1 (by show c1.toNat = 44; omega))
            have HM : Hid (ERel s.data.toList i (e + 1)) := Lib.hid (HE.out.more hie (by rw [HLL.out]; exact hlt) (fun _ hh => hx1 (by rw [← hc1, ← at_list s e hlt]; exact hh.1)))
            go_wp2_with fail
            go_roundw
            case rel => exact ⟨e + 1, by omega, by omega, by go_num, HM⟩
            case measure => simp [intOf]; omega
        · have hes : e = s.size := by omega
          subst hes
          have HF : Hid (fnd (s.data.toList.drop i) = s.size - i) := Lib.hid (HE.out.all (by rw [HLL.out]))
          have hle : (s.extract i s.size).size ≤ 800 := by
            have h1 : (s.extract i s.size).data.toList.length = (s.extract i s.size).size := by rw [Array.length_toList]; rfl
            rw [← h1, cut_piece s i s.size, ← HF.out]
            exact HPC.out _ (by rw [pcs_step]; exact List.mem_cons_self)
          have HC := Lib.hid (rParse_any (s.extract i s.size) wr hle)
          have hpiece : (s.extract i s.size).data.toList = (s.data.toList.drop i).take (fnd (s.data.toList.drop i)) := by rw [cut_piece s i s.size, HF.out]
          cases hv : valO ((s.data.toList.drop i).take (fnd (s.data.toList.drop i))) with
          | none =>
            have HN := Lib.hid (HR.out.none hv)
            obtain ⟨no, hno, hres⟩ : ∃ no : Int, no ≠ 0 ∧ parseRes (s.extract i s.size).data.toList = .tuple #[.agg #[.int .i64 0, .int .i64 0, .int .u64 0, .string ⟨#[]⟩], .int .i64 no] := by rw [hpiece]; exact valO_none_res hv
            rw [hres] at HC
            have hnb : (no == 0) = false := by rw [beq_eq_false_iff_ne]; exact hno
            clear hv hpiece hres
            go_wp2_with fail
            refine HC.out.mono ?_
            rintro ee w1 ⟨rfl, hb1⟩
            have HB1 := Lib.hid (HB.out.trans (hb1.mono HB.out.size))
            have hs1 := HB1.out.size
            have HO1 := Lib.hid (own_keepV HO.out hb1)
            clear hb1
            go_wp2_with fail
            go_ret
            exact ⟨_, rfl, by rw [HN.out]; exact sliceK_own (own_keepV HO1.out ((Below.refl _ _).alloc (Nat.le_refl _) _)), HB1.out.alloc hs1 _⟩
          | some v =>
            have hres := valO_some_res hv
            rw [← hpiece] at hres
            rw [hres] at HC
            have HV := Lib.hid hv
            clear hv hpiece hres
            go_wp2_with fail
            refine HC.out.mono ?_
            rintro ee w1 ⟨rfl, hb1⟩
            have HB1 := Lib.hid (HB.out.trans (hb1.mono HB.out.size))
            have hown1 := own_keepV HO.out hb1
            have hs1 := HB1.out.size
            obtain ⟨a8, c8, w3, hrun, r1, r2⟩ := appendV_run (x := v) (hown1.alloc (.cells #[.int .i64 v.k, .int .i64 v.i, .int .u64 v.u, .string v.s] 25)) (by omega) (by simp; omega) 26
            rw [show (w1.alloc (.cells #[.int .i64 v.k, .int .i64 v.i, .int .u64 v.u, .string v.s] 25)).heap.size = w1.heap.size + 1 by simp] at hrun
            have hb3 : Below w.heap.size w w3 := ((HB1.out.alloc hs1 (.cells #[.int .i64 v.k, .int .i64 v.i, .int .u64 v.u, .string v.s] 25)).alloc (by simp; omega) _).grown r2 (by simp; omega) (fun x hx => (hown1.lt x hx).1)
            have HO3 : Hid (w3.ownsRow w.heap.size 25 4 (.slice a8 (vs ++ [v]).length c8) (vs ++ [v]).length (vcellsK (vs ++ [v]))) := Lib.hid (by rw [List.length_append]; exact r1)
            have HB3 := Lib.hid hb3
            have HRUN := Lib.hid hrun
            clear hb1 hown1 r1 r2 hb3 hrun
            go_wp2_with (at_builtin; go_loud (refine wpList_append_runP rfl _ _ _ rfl _ _ _ _ rfl rfl HRUN.out ?_))
            go_wp2_with fail
            go_ret
            exact ⟨_, rfl, by
              have h := HR.out.last HV.out (by rw [HF.out, List.length_drop, HLL.out]; omega)
              rw [h]
              have q := sliceK_own HO3.out
              rw [List.length_append] at q
              exact q, HB3.out⟩
end Go.Proofs.YtifmfcaaofiboaaGreatDoor
