/-
  parts that belong together.
-/
import Derived.Test.YtbhgcioeibhjeaaGreatDoorLROp
import Derived.Test.YtbhgcioeibhjeaaGreatDoorDCrs
namespace Go.Proofs.YtbhgcioeibhjeaaGreatDoor
open Go.RowKit

theorem info64r : (Tryz.prog.info? 33).map (·.size) = some 64 := by kernel_rfl
/-- the receiver's box, the result's, the array's -/
structure SBr (w W : World) (c d x : Array Value) : Prop where
  bb : BBr w W c d
  x0 : W.heap[w.heap.size + 1 + 1]? = some (.cells x 33 (0, 0))
theorem SBr.keep {w W W' : World} {c d x : Array Value} (h : SBr w W c d x) (hb : Below W.heap.size W W') : SBr w W' c d x :=
  ⟨h.bb.keep hb, (hb.block _ (Array.getElem?_eq_some_iff.1 h.x0).1).trans h.x0⟩
theorem SBr.start (w : World) (c d x : Array Value) : SBr w (((w.alloc (.cells c 36)).alloc (.cells d 36)).alloc (.cells x 33)) c d x :=
  ⟨(BBr.start w c d).keep ((Below.refl _ _).alloc (Nat.le_refl _) _), by
    have h := heap_alloc_at ((w.alloc (.cells c 36)).alloc (.cells d 36)) (.cells x 33)
    simpa using h⟩
theorem SBr.set {w W : World} {c d x : Array Value} (h : SBr w W c d x) (j : Nat) (v : Value) : SBr w (W.setCell ⟨w.heap.size + 1 + 1, j, none⟩ v) c d (x.setIfInBounds j v) := by
  have hk : ∀ k, k ≠ w.heap.size + 1 + 1 → (W.setCell ⟨w.heap.size + 1 + 1, j, none⟩ v).heap[k]? = W.heap[k]? := fun k hk => Below.heap_setCell _ _ _ _ hk
  refine ⟨⟨(hk _ (by omega)).trans h.bb.c0, (hk _ (by omega)).trans h.bb.d0, h.bb.below.setCell (p := ⟨w.heap.size + 1 + 1, j, none⟩) (by show w.heap.size ≤ w.heap.size + 1 + 1; omega) v⟩, ?_⟩
  unfold World.setCell
  rw [Array.getElem?_modify, if_pos rfl, h.x0]
  rfl
theorem SBr.cell {w W : World} {c d x : Array Value} (h : SBr w W c d x) (hx : x.size = 64) {j : Nat} (hj : j < 64) : (∃ v, W.cell? ⟨w.heap.size + 1 + 1, j, none⟩ = some v) ∧ W.frozen? ⟨w.heap.size + 1 + 1, j, none⟩ = false := by
  have hj' : j < x.size := by omega
  refine ⟨⟨x[j], ?_⟩, ?_⟩
  · simp [World.cell?, h.x0, hj']
  · simp [World.frozen?, h.x0]
theorem SBr.range {w W : World} {c d x : Array Value} (h : SBr w W c d x) : W.rangeAt (w.heap.size + 1 + 1) 0 x.toList := fun j v hv => by
  rw [Nat.zero_add]
  simp only [World.cell?]
  rw [h.x0]
  simpa using hv
theorem foldl_setr1 (z x : Array Value) : (Array.foldl (fun (cs : Array Value) (y : Value × Nat) => cs.setIfInBounds (1 + y.snd) y.fst) z x.zipIdx 0 x.size) = setAllr z 1 x.toList := by
  have key : ∀ (l : List Value) (n : Nat) (z : Array Value), ((l.zipIdx n).foldl (fun (cs : Array Value) (y : Value × Nat) => cs.setIfInBounds (1 + y.snd) y.fst) z) = setAllr z (1 + n) l := by
    intro l
    induction l with
    | nil => intro n z; rfl
    | cons v r ih => intro n z; exact ih (n + 1) (z.setIfInBounds (1 + n) v)
  have h2 := key x.toList 0 z
  rw [← h2]
  have e : x.zipIdx.toList = x.toList.zipIdx 0 := by simp
  rw [← e, Array.foldl_toList]
  simp
theorem zeroDr (n : Nat) : (Tryz.zeroCells36.setIfInBounds 0 (.int .i64 n)).size = 66 ∧ (Tryz.zeroCells36.setIfInBounds 0 (.int .i64 n)).all (·.oneCell') = true ∧ (Tryz.zeroCells36.setIfInBounds 0 (.int .i64 n))[0]? = some (.int .i64 n) ∧ (Tryz.zeroCells36.setIfInBounds 0 (.int .i64 n))[65]? = some (.slice none 0 0) := by
  have h := newR default n
  exact ⟨h.size, h.one, h.room, h.things⟩
/-- a disk that is put together -/
theorem builtD {x : Array Value} {D : Dk} (hx : x.size = 64) (ho : x.all (·.oneCell') = true) (hc : ∀ f, f < 64 → x[f]? = some (.string ⟨(D.F f).toArray⟩)) : ∃ cz, Array.foldl (fun (cs : Array Value) (y : Value × Nat) => cs.setIfInBounds (1 + y.snd) y.fst) (Tryz.zeroCells36.setIfInBounds 0 (.int .i64 D.room)) x.zipIdx 0 x.size = cz ∧ ∀ W, RDk W cz D.synced (.slice none 0 0) := by
  obtain ⟨z1, z2, z3, z4⟩ := zeroDr D.room
  refine ⟨_, rfl, fun W => ?_⟩
  rw [foldl_setr1]
  generalize Tryz.zeroCells36.setIfInBounds 0 (.int .i64 (D.room : Int)) = z at *
  have hg := fun j => setAllr_get x.toList z 1 j (by rw [Array.length_toList, hx, z1]; decide)
  simp only [Array.length_toList, hx] at hg
  refine ⟨by rw [setAllr_size]; exact z1, ?_, by rw [hg, if_neg (by omega)]; exact z3, fun f hf => ?_, by rw [hg, if_neg (by omega)]; exact z4, World.ownsRow_nil _ _ _ _⟩
  · refine Array.all_eq_true_iff_forall_mem.2 (fun u hu => ?_)
    obtain ⟨j, hj⟩ := Array.getElem?_of_mem hu
    rw [hg] at hj
    split at hj
    · rw [Array.getElem?_toList] at hj
      exact (Array.all_eq_true_iff_forall_mem.1 ho) u (Array.mem_of_getElem? hj)
    · exact (Array.all_eq_true_iff_forall_mem.1 z2) u (Array.mem_of_getElem? hj)
  · rw [hg, if_pos (by omega), show 1 + f - 1 = f by omega, Array.getElem?_toList]
    exact hc f hf
theorem all_setr {x : Array Value} (h : x.all (·.oneCell') = true) (j : Nat) (s : ByteArray) : (x.setIfInBounds j (.string s)).all (·.oneCell') = true := by
  refine Array.all_eq_true_iff_forall_mem.2 (fun v hv => ?_)
  rcases Array.mem_or_eq_of_mem_setIfInBounds hv with h1 | h1
  · exact (Array.all_eq_true_iff_forall_mem.1 h) v h1
  · rw [h1]; rfl
set_option maxRecDepth 1000000 in
set_option maxHeartbeats 4000000 in
theorem rrSync_any {w : World} {c : Array Value} {D : Dk} {v : Value} (hR : RDk w c D v) (hi : D.Inv) : Calls Tryz.prog 34 #[.agg c] w fun e w' => ∃ c', e = .returned (.agg c') ∧ RDk w' c' D.synced (.slice none 0 0) ∧ Below w.heap.size w w' := by
  have h0 := SBr.start w c Tryz.zeroCells36
  have HF := Lib.hid (fun (f : Nat) (hf : f < 64) (W : World) (hb : Below w.heap.size w W) => rrFile_any (hR.keep hb) hi f hf)
  have hu := Tryz.underlying36
  have hinf : (Tryz.prog.info? 36).map (·.size) = some c.toList.length := by rw [Array.length_toList, hR.size]; exact info66r
  have hcc : c.toList.toArray = c := Array.toArray_toList
  have HR := Lib.hid hR.room
  have H0 := Lib.hid h0
  have HBD := Lib.hid (fun x (h1 : x.size = 64) h2 h3 => builtD (x := x) (D := D) h1 h2 h3)
  clear hR h0 hi
  go_enter Tryz.func34, Tryz.ntmps34
  go_wp2_with fail
  go_loopw [4] (fun i wr => ∃ (k : Nat) (x : Array Value), k ≤ 64 ∧ i = .int .i64 k ∧ Hid (x.size = 64 ∧ x.all (·.oneCell') = true ∧ SBr w wr c Tryz.zeroCells36 x ∧ ∀ f, f < k → x[f]? = some (.string ⟨(D.F f).toArray⟩))) (fun i _ => 64 - (intOf i).toNat)
  case atStart => exact ⟨0, _, by omega, rfl, Lib.hid ⟨by kernel_rfl, by kernel_rfl, H0.out _, fun f hf => absurd hf (Nat.not_lt_zero f)⟩⟩
  case round =>
    obtain ⟨k, x, hk, rfl, HX⟩ := hrel
    by_cases hlt : k < 64
    · have hr := HX.out.2.2.1.bb.range
      have hki0 : (0 : Int) ≤ (k : Int) := by omega
      have hki1 : (k : Int) < 64 := by omega
      have HFk := Lib.hid (HF.out k hlt wr HX.out.2.2.1.bb.below)
      go_wp2_with (first | (refine wpList_load_mid rfl 36 _ rfl _ _ rfl _ _ hr hu rfl hinf ?_; simp only [Act.put, List.setIfInBounds_toArray, List.set_cons_zero, List.set_cons_succ]) | (go_at_call 31; refine HFk.out.mono ?_; rintro e w2 ⟨rfl, hb2⟩; have HX2 := Lib.hid (HX.out.2.2.1.keep hb2); obtain ⟨⟨v2, hv2⟩, hf2⟩ := HX2.out.cell HX.out.1 hlt))
      go_roundw
      case rel =>
        refine ⟨k + 1, x.setIfInBounds k (.string ⟨(D.F k).toArray⟩), by omega, by go_num, Lib.hid ⟨by rw [Array.size_setIfInBounds]; exact HX.out.1, all_setr HX.out.2.1 _ _, HX2.out.set _ _, fun f hf => ?_⟩⟩
        by_cases hfk : f = k
        · subst hfk
          rw [Array.getElem?_setIfInBounds_self_of_lt (by rw [HX.out.1]; exact hlt)]
        · rw [Array.getElem?_setIfInBounds_ne (by omega)]
          exact HX.out.2.2.2 f (by omega)
      case measure => simp [intOf]; omega
    · obtain rfl : k = 64 := by omega
      have hrx := HX.out.2.2.1.range
      have hux := Tryz.underlying33
      have hinfx : (Tryz.prog.info? 33).map (·.size) = some x.toList.length := by rw [Array.length_toList, HX.out.1]; exact info64r
      have hxx : x.toList.toArray = x := Array.toArray_toList
      have hroom : wr.cell? ⟨w.heap.size, 0, none⟩ = some (.int .i64 D.room) := HX.out.2.2.1.bb.cell HR.out
      obtain ⟨cz, hcz, hzz⟩ := HBD.out x HX.out.1 HX.out.2.1 HX.out.2.2.2
      have hone := (hzz w).one
      have hinf2 : (Tryz.prog.info? 36).map (·.size) = some cz.size := by rw [(hzz w).size]; exact info66r
      have ht : wr.there (w.heap.size + 1) 0 cz.size := by rw [(hzz w).size]; exact HX.out.2.2.1.bb.there zeroCr_size
      have HT := Lib.hid (HX.out.2.2.1.bb.told (l := cz.toList) zeroCr_size (by rw [Array.length_toList]; exact (hzz w).size))
      have HZ := Lib.hid hzz
      clear hu hinf hcc hzz
      go_wp2_with (first | (refine wpList_load_mid rfl 33 _ rfl _ _ rfl _ _ hrx hux rfl hinfx ?_; simp only [Act.put, hxx, List.setIfInBounds_toArray, List.set_cons_zero, List.set_cons_succ]) | (refine wpList_store_mid rfl 36 _ _ rfl _ _ cz rfl rfl ht hinf2 hone ?_; simp only [Act.put]))
      case inl => exact absurd h (by simp [HX.out.1])
      have hl := HT.out.1
      rw [Array.toArray_toList] at hl
      refine bodyPost_ret (v := .agg cz) (by simp [results, Tryz.results34, asAddr, hl]) rfl ⟨cz, rfl, HZ.out _, HT.out.2⟩
end Go.Proofs.YtbhgcioeibhjeaaGreatDoor
namespace Go.Proofs.YtbhgcioeibhjeaaGreatDoor
open Go.RowKit

/-- the things that a crash keeps, and the first part of the next one -/
def crashL (D : Dk) (keep torn : Nat) : List Th := D.L.take keep ++ (match D.L[keep]? with
  | some (.put f s) => [.put f (s.extract 0 (min torn s.size))]
  | _ => [])
def midD (D : Dk) (keep torn : Nat) : Dk := { D with L := crashL D keep torn, F := doAll D.G (crashL D keep torn) }
theorem crashL_do (D : Dk) (keep torn : Nat) : doAll D.G (crashL D keep torn) = D.crashF keep torn := by
  unfold crashL Dk.crashF
  cases h : D.L[keep]? with
  | none => simp
  | some t =>
    cases t with
    | put f s => simp only [doAll_snoc]; rfl
    | cut f m => simp only [List.append_nil]; rfl
theorem mid_synced (D : Dk) (keep torn : Nat) : (midD D keep torn).synced = D.crashed keep torn := by
  unfold midD Dk.synced Dk.crashed
  simp only [crashL_do]
theorem crashL_len (D : Dk) (keep torn : Nat) : (crashL D keep torn).length ≤ D.L.length := by
  unfold crashL
  cases h : D.L[keep]? with
  | none => simp; omega
  | some t =>
    have hk := (List.getElem?_eq_some_iff.1 h).1
    cases t with
    | put f s => simp; omega
    | cut f m => simp; omega
theorem mid_inv {D : Dk} (h : D.Inv) (keep torn : Nat) : (midD D keep torn).Inv := by
  have hc := (h.crashed keep torn).sum
  have hc2 : sumF (doAll D.G (crashL D keep torn)) ≤ D.room := by rw [crashL_do]; exact hc
  have hlen : (D.L.take keep).length = min keep D.L.length := List.length_take
  refine ⟨h.room, rfl, fun k => ?_, fun k t ht => ?_, Nat.le_trans (crashL_len D keep torn) h.few⟩
  · show sumF (doAll D.G ((crashL D keep torn).take k)) ≤ D.room
    by_cases hk : k ≤ (D.L.take keep).length
    · unfold crashL
      rw [List.take_append_of_le_length hk, List.take_take]
      exact h.sums _
    · rw [List.take_of_length_le]
      · exact hc2
      · unfold crashL
        cases h2 : D.L[keep]? with
        | none => simp; omega
        | some t => cases t <;> (simp; omega)
  · have ht' : (crashL D keep torn)[k]? = some t := ht
    show ThOk (doAll D.G ((crashL D keep torn).take k)) t
    by_cases hk : k < (D.L.take keep).length
    · unfold crashL at ht' ⊢
      rw [List.getElem?_append_left hk] at ht'
      rw [List.take_append_of_le_length (by omega), List.take_take, Nat.min_eq_left (by omega)]
      rw [List.getElem?_take_of_lt (by omega)] at ht'
      exact h.oks k t ht'
    · unfold crashL at ht' ⊢
      rw [List.getElem?_append_right (by omega)] at ht'
      cases h2 : D.L[keep]? with
      | none => rw [h2] at ht'; simp at ht'
      | some u =>
        rw [h2] at ht'
        have hkl := (List.getElem?_eq_some_iff.1 h2).1
        cases u with
        | cut f m => simp at ht'
        | put f s =>
          have hk0 : k = (D.L.take keep).length := by
            have := (List.getElem?_eq_some_iff.1 ht').1
            simp at this
            omega
          subst hk0
          simp at ht'
          subst ht'
          rw [List.take_left]
          obtain ⟨h3, h4, h5⟩ := h.oks keep _ h2
          exact ⟨h3, h4, by simp; omega⟩
/-- another row of things -/
theorem RDk.setL {W W' : World} {c : Array Value} {D : Dk} {v : Value} (h : RDk W c D v) {oa : Option Addr} {n z : Nat} (L' : List Th) (F' : Nat → List UInt8) (hrow : W'.ownsRow 0 98 4 (.slice oa n z) L'.length (thsR L')) : RDk W' (c.setIfInBounds 65 (.slice oa n z)) { D with L := L', F := F' } (.slice oa n z) := by
  refine ⟨by rw [Array.size_setIfInBounds]; exact h.size, one_setr h.one _ _ _ _, ?_, fun f hf => ?_, ?_, hrow⟩
  · rw [Array.getElem?_setIfInBounds_ne (by decide)]
    exact h.room
  · rw [Array.getElem?_setIfInBounds_ne (by omega)]
    exact h.file f hf
  · rw [Array.getElem?_setIfInBounds_self_of_lt (by rw [h.size]; decide)]
end Go.Proofs.YtbhgcioeibhjeaaGreatDoor
