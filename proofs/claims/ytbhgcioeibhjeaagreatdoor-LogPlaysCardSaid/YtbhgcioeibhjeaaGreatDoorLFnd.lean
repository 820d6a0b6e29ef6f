/-
  parts that belong together.
-/
import Derived.Test.YtbhgcioeibhjeaaGreatDoorLWlk
import Derived.Test.YtbhgcioeibhjeaaGreatDoorLWho
namespace Go.Proofs.YtbhgcioeibhjeaaGreatDoor
open Go.RowKit

def atP (p : Int) (x : Nat × List UInt8) : Bool := decide (p ≤ (x.1 : Int))
def findO (l : List UInt8) (p : Int) : Option (List UInt8) := match (walkW l.length (pieceO l) 0).find? (atP p) with
  | some x => if (x.1 : Int) = p then some x.2 else none
  | none => none
theorem find_hit {xs ys : List (Nat × List UInt8)} {x : Nat × List UInt8} {p : Int} (h : ys ++ [x] <+: xs) (hy : ∀ y ∈ ys, (y.1 : Int) < p) (hx : p ≤ (x.1 : Int)) : xs.find? (atP p) = some x := by
  obtain ⟨zs, rfl⟩ := h
  rw [List.append_assoc, List.find?_append]
  have h0 : ys.find? (atP p) = none := by
    rw [List.find?_eq_none]
    intro y hm
    have := hy y hm
    simp only [atP, decide_eq_true_eq]
    omega
  rw [h0]
  simp [atP, hx]
theorem findO_hit {l : List UInt8} {ys : List (Nat × List UInt8)} {x : Nat × List UInt8} {p : Int} (h : ys ++ [x] <+: walkW l.length (pieceO l) 0) (hy : ∀ y ∈ ys, (y.1 : Int) < p) (hx : (x.1 : Int) = p) : findO l p = some x.2 := by
  unfold findO
  rw [find_hit h hy (by omega)]
  simp [hx]
theorem findO_over {l : List UInt8} {ys : List (Nat × List UInt8)} {x : Nat × List UInt8} {p : Int} (h : ys ++ [x] <+: walkW l.length (pieceO l) 0) (hy : ∀ y ∈ ys, (y.1 : Int) < p) (hx : p < (x.1 : Int)) : findO l p = none := by
  unfold findO
  rw [find_hit h hy (by omega)]
  have : ¬ ((x.1 : Int) = p) := by omega
  simp [this]
theorem findO_end {l : List UInt8} {p : Int} (hy : ∀ y ∈ walkW l.length (pieceO l) 0, (y.1 : Int) < p) : findO l p = none := by
  unfold findO
  have h0 : (walkW l.length (pieceO l) 0).find? (atP p) = none := by
    rw [List.find?_eq_none]
    intro y hm
    have := hy y hm
    simp only [atP, decide_eq_true_eq]
    omega
  rw [h0]
theorem findO_mem {l b : List UInt8} {p : Int} (h : findO l p = some b) : ∃ i : Nat, p = i ∧ (i, b) ∈ walkW l.length (pieceO l) 0 := by
  unfold findO at h
  split at h
  · rename_i x hx
    split at h
    · rename_i hp
      cases h
      exact ⟨x.1, hp.symm, List.mem_of_find?_eq_some hx⟩
    · cases h
  · cases h
theorem walkGo_step {O : Nat → Option (List UInt8)} : ∀ (f i : Nat), ∀ x ∈ walkGo O f i, O x.1 = some x.2
  | 0, _, x, hx => by simp [walkGo] at hx
  | f + 1, i, x, hx => by
    unfold walkGo at hx
    cases h : O i with
    | none => rw [h] at hx; simp at hx
    | some b =>
      rw [h] at hx
      rcases List.mem_cons.1 hx with rfl | hx
      · exact h
      · exact walkGo_step f _ x hx
theorem findO_piece {l b : List UInt8} {p : Int} (h : findO l p = some b) : ∃ i : Nat, p = i ∧ pieceO l i = some b := by
  obtain ⟨i, h1, h2⟩ := findO_mem h
  exact ⟨i, h1, walkGo_step _ _ (i, b) h2⟩
theorem pieceO_val {l b : List UInt8} {i : Nat} (h : pieceO l i = some b) : b = (l.drop (i + 8)).take b.length ∧ i + 8 + b.length ≤ l.length := by
  have hl := pieceO_len h
  refine ⟨?_, hl.2.1⟩
  unfold pieceO at h
  split at h
  · cases h
    rw [List.length_take, List.take_eq_take_min]
  · cases h
end Go.Proofs.YtbhgcioeibhjeaaGreatDoor
namespace Go.Proofs.YtbhgcioeibhjeaaGreatDoor
open Go.RowKit Go.Shelf
attribute [local go_sem] Oper.semAt_some

theorem LRun.len {w W : World} {q p : Nat} {D : Dk} {f' e t : Int} (h : LRun w W q p D f' e t) (f : Nat) (hf : f < 64) : (D.F f).length ≤ 100000000 := by
  obtain ⟨_, _, _, hi, _⟩ := h
  have h1 := len_le_sum D.F f hf
  have h2 := hi.sum
  have h3 := hi.room
  omega
theorem piece_bt {w : World} {oa : Option Addr} {cap i : Nat} {l b : List UInt8} (hv : BytesAt w (.slice oa l.length cap) l) (h : pieceO l i = some b) : BtAt w (pieceV oa (i + 8) b.length) b := by
  obtain ⟨hb, hle⟩ := pieceO_val h
  obtain ⟨oa', cap', e, _, hcell⟩ := hv
  cases e
  refine ⟨_, _, rfl, fun j hj => ?_⟩
  obtain ⟨a, rfl, hc⟩ := hcell (i + 8 + j) (by omega)
  refine ⟨a.add (i + 8), by rw [if_neg (by omega)]; rfl, ?_⟩
  rw [Addr.add_add, hc]
  have e : b[j]? = l[i + 8 + j]? := by rw [hb, List.getElem?_take_of_lt hj, List.getElem?_drop]
  rw [List.getElem?_eq_getElem hj, List.getElem?_eq_getElem (by omega)] at e
  rw [Option.some.inj e]
theorem cell_putL {W : World} {a : Addr} {v : Value} {k : Nat} {os : Option (List Deferred)} (h : W.cell? a = some v) (hD : W.heap[k]? = some (.deferred os)) (o : Obj) : (W.putObj k o).cell? a = some v := by
  have hne : a.block ≠ k := fun e => by
    simp only [World.cell?, e, hD] at h
    cases h
  rw [World.cell?_of_block (World.putObj_heap_other hne)]
  exact h
/-- what lies in memory while find goes over the records: its boxes -/
structure FI (w : World) (B : Nat) (p : Int) (v : Value) (ok : Bool) (W : World) : Prop where
  c0 : W.cell? ⟨B, 0, none⟩ = some (.int .i64 p)
  c1 : W.cell? ⟨B + 1, 0, none⟩ = some v
  f1 : W.frozen? ⟨B + 1, 0, none⟩ = false
  c2 : W.cell? ⟨B + 1 + 1, 0, none⟩ = some (.bool ok)
  f2 : W.frozen? ⟨B + 1 + 1, 0, none⟩ = false
  b : Below w.heap.size w W
theorem FI.below {w : World} {B : Nat} {p : Int} {v : Value} {ok : Bool} {W W' : World} (h : FI w B p v ok W) {M : Nat} (hb : Below M W W') (hM : B + 3 ≤ M) (hw : w.heap.size ≤ M) : FI w B p v ok W' :=
  ⟨(hb.cell (by show B < M; omega)).trans h.c0, (hb.cell (by show B + 1 < M; omega)).trans h.c1, (hb.frozen (by show B + 1 < M; omega)).trans h.f1, (hb.cell (by show B + 1 + 1 < M; omega)).trans h.c2, (hb.frozen (by show B + 1 + 1 < M; omega)).trans h.f2, h.b.trans (hb.mono hw)⟩
theorem FI.sets {w : World} {B : Nat} {p : Int} {v : Value} {ok : Bool} {W : World} (h : FI w B p v ok W) (hB : w.heap.size ≤ B) (v' : Value) (ok' : Bool) : FI w B p v' ok' ((W.setCell ⟨B + 1, 0, none⟩ v').setCell ⟨B + 1 + 1, 0, none⟩ (.bool ok')) := by
  have n1 : (⟨B, 0, none⟩ : Addr) ≠ ⟨B + 1, 0, none⟩ := fun e => by simp at e
  have n2 : (⟨B, 0, none⟩ : Addr) ≠ ⟨B + 1 + 1, 0, none⟩ := fun e => by simp at e
  have n3 : (⟨B + 1, 0, none⟩ : Addr) ≠ ⟨B + 1 + 1, 0, none⟩ := fun e => by simp at e
  refine ⟨?_, ?_, ?_, ?_, ?_, (h.b.setCell (p := ⟨B + 1, 0, none⟩) (by show w.heap.size ≤ B + 1; omega) _).setCell (p := ⟨B + 1 + 1, 0, none⟩) (by show w.heap.size ≤ B + 1 + 1; omega) _⟩
  · rw [World.cell?_setCell_other _ _ _ _ n2.symm, World.cell?_setCell_other _ _ _ _ n1.symm]
    exact h.c0
  · rw [World.cell?_setCell_other _ _ _ _ n3.symm]
    exact World.cell?_setCell_same' _ _ _ (by rw [h.c1]; rfl)
  · rw [World.frozen?_setCell, World.frozen?_setCell]
    exact h.f1
  · exact World.cell?_setCell_same' _ _ _ (by rw [World.cell?_setCell_other _ _ _ _ n3, h.c2]; rfl)
  · rw [World.frozen?_setCell, World.frozen?_setCell]
    exact h.f2
theorem FI.boxes (w : World) (p : Int) (T1 T2 T3 : TypeId) : FI w w.heap.size p (.slice none 0 0) false (((w.alloc (.cells #[.int .i64 p] T1)).alloc (.cells #[.slice none 0 0] T2)).alloc (.cells #[.bool false] T3)) := by
  have h0 : (((w.alloc (.cells #[.int .i64 p] T1)).alloc (.cells #[.slice none 0 0] T2)).alloc (.cells #[.bool false] T3)).heap[w.heap.size]? = some (.cells #[.int .i64 p] T1 (0, 0)) :=
    (Below.heap_alloc _ _ _ (by simp; omega)).trans ((Below.heap_alloc _ _ _ (by simp)).trans (heap_alloc_at w _))
  have h1 : (((w.alloc (.cells #[.int .i64 p] T1)).alloc (.cells #[.slice none 0 0] T2)).alloc (.cells #[.bool false] T3)).heap[w.heap.size + 1]? = some (.cells #[.slice none 0 0] T2 (0, 0)) := by
    have h := heap_alloc_at (w.alloc (.cells #[.int .i64 p] T1)) (.cells #[.slice none 0 0] T2)
    rw [World.size_alloc] at h
    exact (Below.heap_alloc _ _ _ (by simp)).trans h
  have h2 : (((w.alloc (.cells #[.int .i64 p] T1)).alloc (.cells #[.slice none 0 0] T2)).alloc (.cells #[.bool false] T3)).heap[w.heap.size + 1 + 1]? = some (.cells #[.bool false] T3 (0, 0)) := by
    have h := heap_alloc_at ((w.alloc (.cells #[.int .i64 p] T1)).alloc (.cells #[.slice none 0 0] T2)) (.cells #[.bool false] T3)
    rw [World.size_alloc, World.size_alloc] at h
    exact h
  exact ⟨by simp only [World.cell?]; rw [h0]; rfl, by simp only [World.cell?]; rw [h1]; rfl, by simp only [World.frozen?]; rw [h1]; rfl, by simp only [World.cell?]; rw [h2]; rfl, by simp only [World.frozen?]; rw [h2]; rfl,
    (((Below.refl _ w).alloc (Nat.le_refl _) _).alloc (by simp) _).alloc (by simp; omega) _⟩
set_option maxRecDepth 100000 in
set_option maxHeartbeats 2000000 in
theorem find_any (oa : Option Addr) (cap : Nat) (l : List UInt8) (p : Int) (w : World) (hv : BytesOf w (.slice oa l.length cap) l) (hl : l.length ≤ 100000000) :
    Calls Tryz.prog 83 #[.slice oa l.length cap, .int .i64 p] w fun e w' => (match findO l p with
      | some b => ∃ v, e = .returned (.tuple #[v, .bool true]) ∧ BtAt w' v b
      | none => e = .returned (.tuple #[.slice none 0 0, .bool false])) ∧ Below w.heap.size w w' := by
  have HV := Lib.hid hv.at
  have HW := Lib.hid (fun (W : World) => walk_any 0 (.func (.func 55) #[.slice oa l.length cap] #[]) W rfl)
  have hmf : ∀ (fn : Fn) (first cap : Array Value) (w : World), (Instr.makeFunc fn first cap).run Tryz.prog w = .ok (.func fn first cap) w := fun _ _ _ _ => rfl
  clear hv
  refine (callsIn_wide (n := 5)).1 ?_
  refine callsIn_of_wp_marks Tryz.func83 rfl trivial ?_ rfl
  simp only [Tryz.ntmps83, List.size_toArray, List.length_cons, List.length_nil, Nat.reduceAdd, Nat.reduceSub, Array.replicate_succ, Array.replicate_zero, List.push_toArray, List.append_toArray, List.nil_append, List.cons_append]
  gi_wp2_with fail
  refine scope_wideL ?_
  gi_wp2_with fail
  refine wpIn_label ?_
  gi_wp2_with fail
  refine ⟨trivial, (callsIn_wide.2 (HW.out _)).mono ?_⟩
  rintro e W0 ⟨rfl, hc0, hc1, hb⟩
  have hfi := FI.boxes w p 3 43 4
  obtain ⟨W3, hW3⟩ : ∃ W3, (((w.alloc (.cells #[.int .i64 p] 3)).alloc (.cells #[.slice none 0 0] 43)).alloc (.cells #[.bool false] 4)) = W3 := ⟨_, rfl⟩
  have hz3 : W3.heap.size = w.heap.size + 3 := by rw [← hW3]; simp
  rw [hW3] at hc0 hc1 hb hfi ⊢
  rw [hz3] at hc0 hc1 hb ⊢
  have hwi : FI w w.heap.size p (.slice none 0 0) false W0 := hfi.below hb (Nat.le_refl _) (by omega)
  have hsz : w.heap.size + 5 ≤ W0.heap.size := by
    have := World.block_lt_of_cell? W0 _ hc1
    simp at this
    omega
  have HI := Lib.hid hwi
  have HVB : Hid (∀ W, Below w.heap.size w W → BytesAt W (.slice oa l.length cap) l) := Lib.hid fun W hb => by
    obtain ⟨oa', cap', e0, h1, h2⟩ := HV.out
    cases e0
    refine ⟨_, _, rfl, h1, fun j hj => ?_⟩
    obtain ⟨a, ha, hcell⟩ := h2 j hj
    have hlt := World.block_lt_of_cell? w _ hcell
    refine ⟨a, ha, ?_⟩
    rw [World.cell?_of_block (hb.block _ hlt)]
    exact hcell
  have HVW : Hid (∀ W, (∀ k, ((k = w.heap.size + 3 ∨ k = w.heap.size + 3 + 1) ∨ (k < w.heap.size)) → W.heap[k]? = W0.heap[k]?) → BytesAt W (.slice oa l.length cap) l) := Lib.hid fun W hk => by
    obtain ⟨oa', cap', e0, h1, h2⟩ := HV.out
    cases e0
    refine ⟨_, _, rfl, h1, fun j hj => ?_⟩
    obtain ⟨a, ha, hcell⟩ := h2 j hj
    have hlt := World.block_lt_of_cell? w _ hcell
    refine ⟨a, ha, ?_⟩
    rw [World.cell?_of_block (hk _ (.inr hlt)), World.cell?_of_block (HI.out.b.block _ hlt)]
    exact hcell
  have HT := Lib.hid (walkP_turns 4 (by decide) (w.heap.size + 3) (w.heap.size + 3 + 1) (.slice oa l.length cap) oa l.length 0 (pieceO l) (step_piece l) hl (Nat.zero_le _) W0 hc0 hc1 (fun k => (k = w.heap.size + 3 ∨ k = w.heap.size + 3 + 1) ∨ k < w.heap.size) (fun k hk => by rcases hk with (h | h) | h <;> omega) (.inl (.inr rfl)) (fun W hk => step_piece_at oa cap l W (HVW.out W hk) hl))
  clear hc0 hc1 hb hwi HV HW hfi hW3 hz3
  gi_wp2_with fail
  refine wpIn_turns (F := Fence.wide) (G := fun k => (k = w.heap.size + 3 ∨ k = w.heap.size + 3 + 1) ∨ k < w.heap.size) rfl (by decide) (gf := 72) (lb := #[.pointer (some ⟨w.heap.size + 3, 0, none⟩), .pointer (some ⟨w.heap.size + 3 + 1, 0, none⟩)]) rfl trivial (enters_of Tryz.func72 (by kernel_rfl) rfl)
    HT.out (fun k hk => by rcases hk with (h | h) | h <;> omega) (fun x => rfl)
    (fun pre W => FI w w.heap.size p (.slice none 0 0) false W ∧ W0.heap.size ≤ W.heap.size ∧ ∀ y ∈ pre, (y.1 : Int) < p)
    (fun c pre W => (c = .ret ∧ ∃ b, findO l p = some b ∧ ∃ i, pieceO l i = some b ∧ FI w w.heap.size p (pieceV oa (i + 8) b.length) true W) ∨ (c = .exit 0 ∧ findO l p = none ∧ FI w w.heap.size p (.slice none 0 0) false W))
    (fun s A A' h hb => ⟨h.1.below hb (by omega) (by omega), Nat.le_trans h.2.1 hb.size, h.2.2⟩)
    (fun c s A A' h hb => by
      rcases h with ⟨h0, b, h1, i, h2, h3⟩ | ⟨h0, h1, h2⟩
      · exact .inl ⟨h0, b, h1, i, h2, h3.below hb (by omega) (by omega)⟩
      · exact .inr ⟨h0, h1, h2.below hb (by omega) (by omega)⟩)
    ⟨HI.out, Nat.le_refl _, fun y hy => by cases hy⟩
    (fun x => { tmps := #[.slice oa l.length cap, .int .i64 p, undef, .pointer (some ⟨w.heap.size, 0, none⟩), .pointer (some ⟨w.heap.size + 1, 0, none⟩), .pointer (some ⟨w.heap.size + 1 + 1, 0, none⟩), .int .i64 x.1, pieceV oa (x.1 + 8) x.2.length, .slice oa l.length cap, .func (.func 55) #[.slice oa l.length cap] #[], .func (.func 72) #[] #[.pointer (some ⟨w.heap.size + 3, 0, none⟩), .pointer (some ⟨w.heap.size + 3 + 1, 0, none⟩)], .int .i64 x.1, pieceV oa (x.1 + 8) x.2.length, undef, undef, undef, undef, undef, undef, undef, undef, undef], defers := [] }) ?assign ?body ?done ?stop
  case assign =>
    intro ll x W K hK
    simp only [encW]
    gi_wp2
    exact hK
  case body =>
    rintro ll pre x W ⟨hwi, hsW, hlt⟩ hsp hszW
    have hpc : pieceO l x.1 = some x.2 := by
      obtain ⟨q, hq⟩ := hsp
      exact walkGo_step _ _ x (show x ∈ walkW l.length (pieceO l) 0 by rw [← hq]; simp)
    have c0 := hwi.c0
    have c1 := hwi.c1
    have c2 := hwi.c2
    have f1 := hwi.f1
    have f2 := hwi.f2
    have HWI := Lib.hid hwi
    have HSP := Lib.hid hsp
    have HLT := Lib.hid hlt
    have HSW := Lib.hid hsW
    obtain ⟨i, b⟩ := x
    have HPC := Lib.hid hpc
    dsimp only
    have hKS : Hid (∀ v, Keep W0.heap.size (fun k => (k = w.heap.size + 3 ∨ k = w.heap.size + 3 + 1) ∨ k < w.heap.size) W ((W.setCell ⟨w.heap.size + 1, 0, none⟩ v).setCell ⟨w.heap.size + 1 + 1, 0, none⟩ (.bool true))) := Lib.hid fun v =>
      ((Keep.refl _ _ W).setCell (p := ⟨w.heap.size + 1, 0, none⟩) (by show w.heap.size + 1 < W0.heap.size; omega) (fun h => by rcases h with (h | h) | h <;> simp at h <;> omega) _).setCell (p := ⟨w.heap.size + 1 + 1, 0, none⟩) (by show w.heap.size + 1 + 1 < W0.heap.size; omega) (fun h => by rcases h with (h | h) | h <;> simp at h <;> omega) _
    have hpv : pieceV oa (i + 8) b.length = .slice (if b.length = 0 then oa else oa.map (·.add (i + 8))) b.length b.length := rfl
    clear hwi hsp hlt hpc hsW
    generalize (if b.length = 0 then oa else oa.map (·.add (i + 8))) = ob at hpv
    have HPV := Lib.hid hpv
    rw [hpv]
    clear hpv
    by_cases he : (i : Int) = p
    · have HF := Lib.hid (findO_hit HSP.out HLT.out he)
      have heb : decide ((i : Int) = p) = true := by simp [he]
      gi_wp2_with fail
      exact ⟨hKS.out _, .inl ⟨rfl, b, HF.out, i, HPC.out, by rw [HPV.out]; exact HWI.out.sets (Nat.le_refl _) _ _⟩⟩
    · have heb : decide ((i : Int) = p) = false := by simp [he]
      by_cases hg : p < (i : Int)
      · have HF := Lib.hid (findO_over HSP.out HLT.out hg)
        gi_wp2_with fail
        exact ⟨Keep.refl _ _ W, .inr ⟨rfl, HF.out, HWI.out⟩⟩
      · have hlt : (i : Int) < p := by omega
        gi_wp2_with fail
        refine ⟨Keep.refl _ _ W, HWI.out, HSW.out, fun y z hy => ?_⟩
        rcases List.mem_append.1 hy with hy | hy
        · exact HLT.out (y, z) hy
        · cases List.mem_singleton.1 hy
          exact hlt
  case done =>
    rintro xs W rfl ⟨hwi, hsW, hlt⟩ hD
    have c1 := hwi.c1
    have c2 := hwi.c2
    have f1 := hwi.f1
    have f2 := hwi.f2
    have HWI := Lib.hid hwi
    have HF := Lib.hid (findO_end hlt)
    clear hwi hlt
    gi_wp2_with fail
    rw [Exit.noGoto_ret]
    have hD' : ((W.setCell ⟨w.heap.size + 1, 0, none⟩ (.slice none 0 0)).setCell ⟨w.heap.size + 1 + 1, 0, none⟩ (.bool false)).heap[W0.heap.size]? = some (.deferred (some [])) := (Below.heap_setCell _ _ _ _ (by simp; omega)).trans ((Below.heap_setCell _ _ _ _ (by simp; omega)).trans hD)
    have hF2 := HWI.out.sets (Nat.le_refl _) (.slice none 0 0) false
    have k1 := cell_putL hF2.c1 hD' (.deferred none)
    have k2 := cell_putL hF2.c2 hD' (.deferred none)
    refine ⟨by simp, .inl ⟨_, _, rfl, run_takeDeferred hD', ?_⟩⟩
    exact ⟨.tuple #[.slice none 0 0, .bool false], by simp [results, Tryz.results83, go_sem, k1, k2], by rw [HF.out], below_putL hF2.b (by omega) _⟩
  case stop =>
    rintro c pre W hsp hix hD
    rcases hix with ⟨rfl, b, h1, i, h2, h3⟩ | ⟨rfl, h1, h2⟩
    · have c1 := h3.c1
      have c2 := h3.c2
      have HWI := Lib.hid h3
      have HF := Lib.hid h1
      have HPC := Lib.hid h2
      clear h1 h2 h3
      gi_wp2_with fail
      rw [Exit.noGoto_ret]
      have k1 := cell_putL c1 hD (.deferred none)
      have k2 := cell_putL c2 hD (.deferred none)
      have hb2 := below_putL HWI.out.b (by omega : w.heap.size ≤ W0.heap.size) (.deferred none)
      refine ⟨by simp, .inl ⟨_, _, rfl, run_takeDeferred hD, ?_⟩⟩
      exact ⟨.tuple #[pieceV oa (i + 8) b.length, .bool true], by simp [results, Tryz.results83, go_sem, k1, k2], by rw [HF.out]; exact ⟨_, rfl, piece_bt (HVB.out _ hb2) HPC.out⟩, hb2⟩
    · have c1 := h2.c1
      have c2 := h2.c2
      have f1 := h2.f1
      have f2 := h2.f2
      have HWI := Lib.hid h2
      have HF := Lib.hid h1
      clear h1 h2
      gi_wp2_with fail
      rw [Exit.noGoto_ret]
      have hD' : ((W.setCell ⟨w.heap.size + 1, 0, none⟩ (.slice none 0 0)).setCell ⟨w.heap.size + 1 + 1, 0, none⟩ (.bool false)).heap[W0.heap.size]? = some (.deferred (some [])) := (Below.heap_setCell _ _ _ _ (by simp; omega)).trans ((Below.heap_setCell _ _ _ _ (by simp; omega)).trans hD)
      have hF2 := HWI.out.sets (Nat.le_refl _) (.slice none 0 0) false
      have k1 := cell_putL hF2.c1 hD' (.deferred none)
      have k2 := cell_putL hF2.c2 hD' (.deferred none)
      refine ⟨by simp, .inl ⟨_, _, rfl, run_takeDeferred hD', ?_⟩⟩
      exact ⟨.tuple #[.slice none 0 0, .bool false], by simp [results, Tryz.results83, go_sem, k1, k2], by rw [HF.out], below_putL hF2.b (by omega) _⟩
end Go.Proofs.YtbhgcioeibhjeaaGreatDoor
