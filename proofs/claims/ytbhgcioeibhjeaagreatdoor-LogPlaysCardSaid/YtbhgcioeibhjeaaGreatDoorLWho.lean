/-
  log.Whole.
-/
import Derived.Test.YtbhgcioeibhjeaaGreatDoorLWlk
import Derived.Test.YtbhgcioeibhjeaaGreatDoorLOct
import Derived.RangeFuncBox
namespace Go.Proofs.YtbhgcioeibhjeaaGreatDoor
open Go.RowKit Go.Shelf
attribute [local go_sem] Oper.semAt_some

def endW (xs : List (Nat × List UInt8)) : Nat := xs.foldl (fun _ x => x.1 + 8 + x.2.length) 0
theorem endW_snoc (xs : List (Nat × List UInt8)) (x : Nat × List UInt8) : endW (xs ++ [x]) = x.1 + 8 + x.2.length := by simp [endW]
theorem walkW_mem {n : Nat} {O : Nat → Option (List UInt8)} (hO : StepOk n O) : ∀ (f i : Nat), ∀ x ∈ walkGo O f i, x.1 + 8 + x.2.length ≤ n
  | 0, _, x, hx => by simp [walkGo] at hx
  | f + 1, i, x, hx => by
    unfold walkGo at hx
    cases h : O i with
    | none => rw [h] at hx; simp at hx
    | some b =>
      rw [h] at hx
      rcases List.mem_cons.1 hx with rfl | hx
      · exact hO i b h
      · exact walkW_mem hO f _ x hx
theorem below_putL {B : Nat} {w W : World} (hb : Below B w W) {l : Nat} (hl : B ≤ l) (o : Obj) : Below B w (W.putObj l o) :=
  ⟨hb.os, hb.tape, hb.output, by simp; exact hb.size, fun k hk => (World.putObj_heap_other (by omega)).trans (hb.block k hk)⟩
/-- what lies in memory while Whole goes over the records: its box -/
structure WI (w : World) (B : Nat) (e : Nat) (W : World) : Prop where
  c0 : W.cell? ⟨B, 0, none⟩ = some (.int .i64 e)
  f0 : W.frozen? ⟨B, 0, none⟩ = false
  b : Below w.heap.size w W
set_option maxRecDepth 100000 in
set_option maxHeartbeats 2000000 in
theorem Whole_any (oa : Option Addr) (cap : Nat) (l : List UInt8) (w : World) (hv : BytesOf w (.slice oa l.length cap) l) (hl : l.length ≤ 100000000) :
    Calls Tryz.prog 16 #[.slice oa l.length cap] w fun e w' => e = .returned (.int .i64 (endW (walkW l.length (wholeO l) 0) : Nat)) ∧ Below w.heap.size w w' := by
  have HV := Lib.hid hv.at
  have HW := Lib.hid (fun (W : World) => walk_any 0 (.func (.func 44) #[.slice oa l.length cap] #[]) W rfl)
  have hmf : ∀ (fn : Fn) (first cap : Array Value) (w : World), (Instr.makeFunc fn first cap).run Tryz.prog w = .ok (.func fn first cap) w := fun _ _ _ _ => rfl
  clear hv
  refine (callsIn_wide (n := 5)).1 ?_
  refine callsIn_of_wp_marks Tryz.func16 rfl trivial ?_ rfl
  simp only [Tryz.ntmps16, List.size_toArray, List.length_cons, List.length_nil, Nat.reduceAdd, Nat.reduceSub, Array.replicate_succ, Array.replicate_zero, List.push_toArray, List.append_toArray, List.nil_append, List.cons_append]
  gi_wp2_with fail
  refine ⟨trivial, (callsIn_wide.2 (HW.out _)).mono ?_⟩
  rintro e W0 ⟨rfl, hc0, hc1, hb⟩
  rw [World.size_alloc] at hc0 hc1 hb
  have hbw : Below w.heap.size w W0 := ((Below.refl _ w).alloc (Nat.le_refl _) _).trans (hb.mono (Nat.le_succ _))
  have hsz : w.heap.size + 3 ≤ W0.heap.size := by
    have := World.block_lt_of_cell? W0 _ hc1
    simp at this
    omega
  have hblk : W0.heap[w.heap.size]? = some (.cells #[.int .i64 0] 3 (0, 0)) := (hb.block _ (Nat.lt_succ_self _)).trans (heap_alloc_at w _)
  have hwi : WI w w.heap.size 0 W0 := ⟨by simp only [World.cell?]; rw [hblk]; rfl, by simp only [World.frozen?]; rw [hblk]; rfl, hbw⟩
  have HI := Lib.hid hwi
  have HVW : Hid (∀ W, (∀ k, ((k = w.heap.size + 1 ∨ k = w.heap.size + 1 + 1) ∨ (k < w.heap.size)) → W.heap[k]? = W0.heap[k]?) → StepAt 44 (.slice oa l.length cap) oa l.length (wholeO l) W) := Lib.hid fun W hk => step_whole_at oa cap l W (by
    obtain ⟨oa', cap', e0, h1, h2⟩ := HV.out
    cases e0
    refine ⟨_, _, rfl, h1, fun j hj => ?_⟩
    obtain ⟨a, ha, hcell⟩ := h2 j hj
    have hlt := World.block_lt_of_cell? w _ hcell
    refine ⟨a, ha, ?_⟩
    rw [World.cell?_of_block (hk _ (.inr hlt)), World.cell?_of_block (hbw.block _ hlt)]
    exact hcell) hl
  have HT := Lib.hid (walkW_turns 4 (by decide) (w.heap.size + 1) (w.heap.size + 1 + 1) (.slice oa l.length cap) oa l.length 0 (wholeO l) (step_whole l) hl (Nat.zero_le _) W0 hc0 hc1 (fun k => (k = w.heap.size + 1 ∨ k = w.heap.size + 1 + 1) ∨ k < w.heap.size) (fun k hk => by rcases hk with (h | h) | h <;> omega) (.inl (.inr rfl)) HVW.out)
  clear hc0 hc1 hb hblk hwi HV HW HVW
  gi_wp2_with fail
  refine wpIn_turns (F := Fence.wide) (G := fun k => (k = w.heap.size + 1 ∨ k = w.heap.size + 1 + 1) ∨ k < w.heap.size) rfl (by decide) (gf := 72) (lb := #[.pointer (some ⟨w.heap.size + 1, 0, none⟩), .pointer (some ⟨w.heap.size + 1 + 1, 0, none⟩)]) rfl trivial (enters_of Tryz.func72 (by kernel_rfl) rfl)
    HT.out (fun k hk => by rcases hk with (h | h) | h <;> omega) (fun x => rfl)
    (fun pre W => WI w w.heap.size (endW pre) W ∧ W0.heap.size ≤ W.heap.size)
    (fun _ _ _ => False)
    (fun s A A' h hb => ⟨⟨(hb.cell (by show w.heap.size < W0.heap.size; omega)).trans h.1.c0, (hb.frozen (by show w.heap.size < W0.heap.size; omega)).trans h.1.f0, h.1.b.trans (hb.mono (by omega))⟩, Nat.le_trans h.2 hb.size⟩)
    (fun c s A A' h hb => h)
    ⟨HI.out, Nat.le_refl _⟩
    (fun x => { tmps := #[.slice oa l.length cap, undef, .int .i64 0, .pointer (some ⟨w.heap.size, 0, none⟩), .int .i64 x.1, pieceV oa (x.1 + 8) x.2.length, .slice oa l.length cap, .func (.func 44) #[.slice oa l.length cap] #[], .func (.func 72) #[] #[.pointer (some ⟨w.heap.size + 1, 0, none⟩), .pointer (some ⟨w.heap.size + 1 + 1, 0, none⟩)], .int .i64 x.1, pieceV oa (x.1 + 8) x.2.length, undef, undef, undef, undef], defers := [] }) ?assign ?body ?done ?stop
  case assign =>
    intro ll x W K hK
    simp only [encW]
    gi_wp2
    exact hK
  case body =>
    rintro ll pre x W ⟨hwi, hsW⟩ ⟨q, hq⟩ hszW
    have hmem : x.1 + 8 + x.2.length ≤ l.length := walkW_mem (step_whole l) _ _ x (show x ∈ walkW l.length (wholeO l) 0 by rw [← hq]; simp)
    have hc := hwi.c0
    have hf := hwi.f0
    have HWI := Lib.hid hwi
    have HE := Lib.hid (endW_snoc pre x)
    obtain ⟨i, b⟩ := x
    simp only at hmem HE
    have hpv : pieceV oa (i + 8) b.length = .slice (if b.length = 0 then oa else oa.map (·.add (i + 8))) b.length b.length := rfl
    generalize (if b.length = 0 then oa else oa.map (·.add (i + 8))) = ob at hpv
    have HB := Lib.hid (fun (V : World) => behind_any i ob b.length b.length V (by omega) (by omega))
    dsimp only
    rw [hpv]
    clear hwi hq hpv
    gi_wp2_with fail
    refine ⟨trivial, (CallsIn.inRound ll (callsIn_wide.2 (HB.out W))).mono ?_⟩
    rintro e w3 ⟨rfl, rfl⟩
    gi_wp2_with fail
    have hcast : ((i + 8 + b.length : Nat) : Int) = (i : Int) + 8 + (b.length : Int) := by omega
    refine ⟨(Keep.refl _ _ W).setCell (p := ⟨w.heap.size, 0, none⟩) (by show w.heap.size < W0.heap.size; omega) (fun h => by rcases h with (h | h) | h <;> simp at h <;> omega) _, ⟨?_, ?_, HWI.out.b.setCell (p := ⟨w.heap.size, 0, none⟩) (Nat.le_refl _) _⟩, by simp [World.setCell]; exact hsW⟩
    · rw [HE.out, hcast]
      exact World.cell?_setCell_same' _ _ _ (by rw [hc]; rfl)
    · rw [World.frozen?_setCell]
      exact hf
  case done =>
    rintro xs W rfl ⟨hwi, hsW⟩ hD
    have hc := hwi.c0
    have HWI := Lib.hid hwi
    clear hwi
    gi_wp2
    refine ⟨by simp, .inl ⟨_, _, rfl, run_takeDeferred hD, ?_⟩⟩
    exact ⟨.int .i64 (endW (walkW l.length (wholeO l) 0) : Nat), by simp [results, Tryz.results16, go_sem], rfl, below_putL HWI.out.b (by omega) _⟩
  case stop =>
    rintro c pre W hsp hf hD
    exact hf.elim
end Go.Proofs.YtbhgcioeibhjeaaGreatDoor
