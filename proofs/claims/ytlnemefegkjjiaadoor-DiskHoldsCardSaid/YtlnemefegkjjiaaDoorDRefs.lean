/-
  swingbridgeref09: what its functions do with a new disk: they tell something.
-/
import Derived.Test.YtlnemefegkjjiaaDoorDHRun
import Derived.Deep.MidRow
namespace Go.Proofs.YtlnemefegkjjiaaDoor
open Go.RowKit

/-- a new disk of the document's, its 66 cells -/
structure ZD (c : Array Value) : Prop where
  size : c.size = 66
  one : c.all (·.oneCell') = true
  room : c[0]? = some (.int .i64 1)
  file : ∀ f, f < 64 → c[1 + f]? = some (.string ⟨#[]⟩)
  things : c[65]? = some (.slice none 0 0)
def Row66 (c : Array Value) : Prop := c.size = 66 ∧ c.all (·.oneCell') = true
theorem info66 : (Tryd.prog.info? 37).map (·.size) = some 66 := by kernel_rfl
theorem alloc_cell {w : World} {c : Array Value} {t : TypeId} {i : Nat} {v : Value} (h : c[i]? = some v) : (w.alloc (.cells c t)).cell? ⟨w.heap.size, i, none⟩ = some v := by
  have hh := heap_alloc_at w (.cells c t)
  simp only [World.cell?]
  rw [hh]
  simpa using h
set_option maxRecDepth 1000000 in
set_option maxHeartbeats 2000000 in
theorem rFile_any (c : Array Value) (hc : ZD c) (f : Nat) (hf : f < 64) (w : World) : Calls Tryd.prog 34 #[.agg c, .int .i64 f] w fun e w' => e = .returned (.string ⟨#[]⟩) ∧ Below w.heap.size w w' := by
  have c1 := hc.file f hf
  have c2 := hc.things
  have hb : Below w.heap.size w (w.alloc (.cells c 37)) := (Below.refl _ w).alloc (Nat.le_refl _) _
  have hf0 : (0 : Int) ≤ (f : Int) := by omega
  have hf1 : (f : Int) < 64 := by omega
  clear hc
  go_enter Tryd.func34, Tryd.ntmps34
  go_wp2_with fail
  go_loop [5, 6] (fun s i => s = .string ⟨#[]⟩ ∧ i = .int .i64 0) (fun _ _ => 0)
  case atStart => exact ⟨rfl, rfl⟩
  case round =>
    obtain ⟨rfl, rfl⟩ := hrel
    go_wp2_with fail
    go_ret
    exact ⟨rfl, hb⟩
set_option maxRecDepth 1000000 in
set_option maxHeartbeats 2000000 in
theorem rLeft_any (c : Array Value) (hc : ZD c) (w : World) : Calls Tryd.prog 33 #[.agg c] w fun e w' => e = .returned (.int .i64 1) ∧ Below w.heap.size w w' := by
  have c0 := hc.room
  have HF := Lib.hid (fun (f : Nat) (hf : f < 64) (w : World) => rFile_any c hc f hf w)
  have hg : ∀ j v, c.toList[j]? = some v → (w.alloc (.cells c 37)).cell? ⟨w.heap.size, j, none⟩ = some v := fun j v hv => alloc_cell (by simpa using hv)
  have HG : Hid (∀ W, Below (w.heap.size + 1) (w.alloc (.cells c 37)) W → W.rangeAt w.heap.size 0 c.toList) := Lib.hid fun W hb j v hv => by
    rw [Nat.zero_add, hb.cell (p := ⟨w.heap.size, j, none⟩) (Nat.lt_succ_self _)]
    exact hg j v hv
  have hb : Below w.heap.size w (w.alloc (.cells c 37)) := (Below.refl _ w).alloc (Nat.le_refl _) _
  have hinf : (Tryd.prog.info? 37).map (·.size) = some c.toList.length := by rw [Array.length_toList, hc.size]; exact info66
  clear hc hg
  go_enter Tryd.func33, Tryd.ntmps33
  go_wp2_with fail
  go_loopw [3, 4] (fun n i wr => n = .int .i64 1 ∧ ∃ k : Nat, k ≤ 64 ∧ i = .int .i64 k ∧ Below (w.heap.size + 1) (w.alloc (.cells c 37)) wr) (fun _ i _ => 64 - (intOf i).toNat)
  case atStart => exact ⟨rfl, 0, by omega, rfl, Below.refl _ _⟩
  case round =>
    obtain ⟨rfl, k, hk, rfl, hbr⟩ := hrel
    by_cases hlt : k < 64
    · have hr := HG.out wr hbr
      have hu := Tryd.underlying37
      go_wp2_with (first | (refine wpList_load_mid rfl 37 _ rfl _ _ rfl _ _ hr hu rfl hinf ?_; simp only [Act.put, List.setIfInBounds_toArray, List.set_cons_zero, List.set_cons_succ]) | (go_at_call 34; refine (HF.out k hlt _).mono ?_; rintro e w2 ⟨rfl, hb2⟩))
      go_roundw
      case rel => exact ⟨rfl, k + 1, by omega, by go_num, hbr.trans (hb2.mono (by have := hbr.size; simp at this; omega))⟩
      case measure => simp [intOf]; omega
    · go_wp2_with fail
      go_ret
      exact ⟨rfl, hb.trans (hbr.mono (by omega))⟩
theorem there_of {w : World} {b : Nat} {c : Array Value} {t : TypeId} (h : w.heap[b]? = some (.cells c t (0, 0))) (n : Nat) (hn : n ≤ c.size) : w.there b 0 n := fun j hj => by
  have hj' : j < c.size := by omega
  simp [World.cell?, World.frozen?, h, hj']
theorem size_setCells (b : Nat) : ∀ (vs : List Value) (o : Nat) (w : World), (w.setCells b o vs).heap.size = w.heap.size
  | [], _, _ => rfl
  | v :: r, o, w => by
    show ((w.setCell ⟨b, o, none⟩ v).setCells b (o + 1) r).heap.size = _
    rw [size_setCells b r]
    simp [World.setCell]
theorem below_setCellsD {B b : Nat} {a : World} (hb : B ≤ b) : ∀ (vs : List Value) (o : Nat) {W : World}, Below B a W → Below B a (W.setCells b o vs)
  | [], _, _, h => h
  | v :: r, o, w, h => below_setCellsD hb r (o + 1) (h.setCell (p := ⟨b, o, none⟩) hb v)
theorem load66 {W : World} {b : Nat} {l : List Value} (h : W.rangeAt b 0 l) (hl : l.length = 66) : (loadVar 37 ⟨b, 0, none⟩).run Tryd.prog W = .ok (.agg l.toArray) W :=
  run_loadVar_mid W b 0 37 l _ h Tryd.underlying37 rfl (by rw [hl]; exact info66)
theorem zeroC_size : Tryd.zeroCells37.size = 66 := by kernel_rfl
theorem zeroC_one : Tryd.zeroCells37.all (·.oneCell') = true := by kernel_rfl
noncomputable def zD : Array Value := Tryd.zeroCells37.setIfInBounds 0 (.int .i64 1)
theorem zD_size : zD.size = 66 := by kernel_rfl
theorem zD_one : zD.all (·.oneCell') = true := by kernel_rfl
theorem zD_eq : zD.toList = .int .i64 1 :: (List.replicate 64 (.string ⟨#[]⟩) ++ [.slice none 0 0]) := by kernel_rfl
theorem zD_zd : ZD zD := by
  have hg : ∀ i, zD[i]? = (Value.int .i64 1 :: (List.replicate 64 (.string ⟨#[]⟩) ++ [.slice none 0 0]))[i]? := fun i => by rw [← zD_eq, Array.getElem?_toList]
  refine ⟨zD_size, zD_one, by rw [hg]; rfl, fun f hf => ?_, by rw [hg]; rfl⟩
  rw [hg, Nat.add_comm, List.getElem?_cons_succ, List.getElem?_append_left (by simpa using hf), List.getElem?_replicate, if_pos hf]
set_option maxRecDepth 1000000 in
set_option maxHeartbeats 2000000 in
theorem rNew_any (w : World) : Calls Tryd.prog 9 #[.int .i64 1] w fun e w' => e = .returned (.agg zD) ∧ Below w.heap.size w w' := by
  have hth : (w.alloc (.cells Tryd.zeroCells37 37)).there w.heap.size 0 zD.size := there_of (heap_alloc_at w _) _ (by rw [zD_size, zeroC_size]; exact Nat.le_refl _)
  have hinf : (Tryd.prog.info? 37).map (·.size) = some zD.size := by rw [zD_size]; exact info66
  have hz : Tryd.zeroCells37.setIfInBounds 0 (.int .i64 1) = zD := rfl
  have hone := zD_one
  have hz6 := zD_size
  generalize zD = z at *
  go_enter Tryd.func9, Tryd.ntmps9
  go_wp2_with (first | (refine wpList_store_mid rfl 37 _ _ rfl _ _ z rfl rfl hth hinf hone ?_; simp only [Act.put]))
  have hld := load66 (World.rangeAt_setCells_same (w.alloc (.cells Tryd.zeroCells37 37)) w.heap.size 0 z.toList (by rw [Array.length_toList]; exact hth)) (by rw [Array.length_toList]; exact hz6)
  rw [Array.toArray_toList] at hld
  refine bodyPost_ret (v := .agg z) (by simp [results, Tryd.results9, asAddr, hld]) rfl ⟨rfl, below_setCellsD (Nat.le_refl _) _ _ ((Below.refl _ w).alloc (Nat.le_refl _) _)⟩
end Go.Proofs.YtlnemefegkjjiaaDoor
