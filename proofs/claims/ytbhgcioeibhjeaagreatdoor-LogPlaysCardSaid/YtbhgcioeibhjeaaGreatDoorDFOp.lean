/-
  parts that belong together.
-/
import Derived.Test.YtbhgcioeibhjeaaGreatDoorDDos
namespace Go.Proofs.YtbhgcioeibhjeaaGreatDoor
open Go.RowKit Go.Extern.Stop Go.Stop Go.Extern

def noF : Nat → List UInt8 := fun _ => []
def newD (room : Nat) : Dk := ⟨room, noF, noF, []⟩
theorem Fs.none (w : World) (r : Nat) (h : w.heap[r]? = some (.map #[] 0)) : Fs w r (fun _ => nilS) noF :=
  ⟨⟨#[], 0, h, MapKept.stamped_empty 0, fun x hx => by simp at hx, fun f hf => absurd rfl hf⟩, fun _ => SlAt.nil w, fun _ _ _ _ h => by cases h⟩
theorem run_makeFiles (w : World) : (Instr.makeMap 69 none).run Tryz.prog w = .ok (.map (some w.heap.size)) (w.alloc (.map #[] 0)) := by kernel_rfl
set_option maxHeartbeats 1000000 in
theorem New_ok (room : Nat) (w : World) (h0 : 1 ≤ room) (h1 : room ≤ 16777216) :
    Calls Tryz.prog 7 #[.int .i64 room] w fun e w' => e = .returned (.tuple #[.pointer (some ⟨w.heap.size + 2, 0, none⟩), .int .i64 0]) ∧ DkAt w.heap.size w' (fun k => w.heap.size ≤ k ∧ k < w.heap.size + 3) (w.heap.size + 2) (newD room) ∧ Below w.heap.size w w' := by
  have hmk := run_makeFiles
  go_enter Tryz.func7, Tryz.ntmps7
  go_wp2_with fail
  go_ret2
  have m0 : (((w.alloc (.map #[] 0)).alloc (.map #[] 0)).alloc (.cells #[.map (some w.heap.size), .map (some (w.heap.size + 1)), .slice none 0 0, .int .i64 (room : Int)] 72)).heap[w.heap.size]? = some (.map #[] 0) := by
    rw [Below.heap_alloc _ _ _ (by simp; omega), Below.heap_alloc _ _ _ (by simp)]
    exact heap_alloc_at w _
  have m1 : (((w.alloc (.map #[] 0)).alloc (.map #[] 0)).alloc (.cells #[.map (some w.heap.size), .map (some (w.heap.size + 1)), .slice none 0 0, .int .i64 (room : Int)] 72)).heap[w.heap.size + 1]? = some (.map #[] 0) := by
    rw [Below.heap_alloc _ _ _ (by simp)]
    have h := heap_alloc_at (w.alloc (.map #[] 0)) (.map #[] 0)
    rwa [World.size_alloc] at h
  have m2 : (((w.alloc (.map #[] 0)).alloc (.map #[] 0)).alloc (.cells #[.map (some w.heap.size), .map (some (w.heap.size + 1)), .slice none 0 0, .int .i64 (room : Int)] 72)).heap[w.heap.size + 2]? = some (.cells #[.map (some w.heap.size), .map (some (w.heap.size + 1)), .slice none 0 0, .int .i64 (room : Int)] 72 (0, 0)) := by
    have h := heap_alloc_at ((w.alloc (.map #[] 0)).alloc (.map #[] 0)) (.cells #[.map (some w.heap.size), .map (some (w.heap.size + 1)), .slice none 0 0, .int .i64 (room : Int)] 72)
    simpa using h
  refine ⟨rfl, ⟨w.heap.size, w.heap.size + 1, fun _ => nilS, fun _ => nilS, nilS, [], ⟨m2, Fs.none _ _ m0, Fs.none _ _ m1, by omega, (fun _ _ _ _ h => by cases h), (fun _ _ h => by cases h), World.ownsRow_nil _ _ _ _, (fun x hx => by cases hx), rfl, by omega, by omega, by omega, (fun _ _ h => by cases h), (fun _ _ h => by cases h), (fun _ h => by cases h), (fun x hx => by cases hx), fun k hk => ⟨hk.1, by simp; omega⟩⟩⟩, (((Below.refl _ w).alloc (Nat.le_refl _) _).alloc (by simp) _).alloc (by simp; omega) _⟩
set_option maxHeartbeats 1000000 in
theorem New_bad (room : Int) (w : World) (h : room < 1 ∨ 16777216 < room) :
    Calls Tryz.prog 7 #[.int .i64 room] w fun e w' => e = .returned (.tuple #[.pointer none, .int .i64 2]) ∧ w = w' := by
  by_cases h1 : room < 1
  · go_enter Tryz.func7, Tryz.ntmps7
    go_wp2_with fail
    go_ret2
    exact ⟨rfl, rfl⟩
  · have h2 : 16777216 < room := by omega
    go_enter Tryz.func7, Tryz.ntmps7
    go_wp2_with fail
    go_ret2
    exact ⟨rfl, rfl⟩
theorem run_clone (r : Nat) (w : World) (es : Array MapEntry) (c : Nat) (h : w.heap[r]? = some (.map es c)) : (MapsClone.clone #[.iface 69 (.map (some r))]).run Tryz.prog w = .ok (.iface 69 (.map (some w.heap.size))) (w.alloc (.map es c)) := by
  have e : MapsClone.clone #[.iface 69 (.map (some r))] = (getObj r >>= fun o => match o with
      | .map entries clock => (newObj (.map entries clock) >>= fun n => pure (.iface 69 (.map (some n))))
      | _ => stuck "maps.clone: a map expected") := rfl
  rw [e]
  simp [MapKept.run_getObj_map h, Result.andThen]
theorem asFiles (v : Value) (w : World) : (Instr.typeAssert (.iface 69 v) 20 69 false).run Tryz.prog w = .ok v w := by kernel_rfl
set_option maxRecDepth 100000 in
set_option maxHeartbeats 2000000 in
theorem clone_any (r : Nat) (w : World) (es : Array MapEntry) (c : Nat) (h : w.heap[r]? = some (.map es c)) :
    Calls Tryz.prog 84 #[.map (some r)] w fun e w' => e = .returned (.map (some w.heap.size)) ∧ w' = w.alloc (.map es c) := by
  have hCl := @run_callFunc_extern Tryz.prog 100 _ MapsClone.clone Tryz.func100 (by kernel_rfl) (by kernel_rfl) (by kernel_rfl) (by kernel_rfl)
  have r1 := run_clone r w es c h
  have r2 := asFiles
  have em := eq_map
  go_enter Tryz.func84, Tryz.ntmps84
  go_wp2_with fail
  go_ret
  exact ⟨rfl, rfl⟩
set_option maxHeartbeats 2000000 in
theorem settle_any (p mf : Nat) (V : Nat → Value) (F : Nat → List UInt8) (x1 lv : Value) (room : Int) (w : World) (hp : w.heap[p]? = some (.cells #[.map (some mf), x1, lv, .int .i64 room] 72 (0, 0))) (hfs : Fs w mf V F) :
    Calls Tryz.prog 59 #[.pointer (some ⟨p, 0, none⟩)] w fun e w' => e = .returned (.tuple #[]) ∧ w'.heap[p]? = some (.cells #[.map (some mf), .map (some w.heap.size), nilS, .int .i64 room] 72 (0, 0)) ∧ Fs w' mf V F ∧ Fs w' w.heap.size V F ∧ w.grownBy w' (some p) ∧ w'.heap.size = w.heap.size + 1 := by
  obtain ⟨es, c, hm, hE⟩ := id hfs.map
  have hpl := (Array.getElem?_eq_some_iff.1 hp).1
  have hml := hfs.map.lt
  have hpm : p ≠ mf := fun e => by rw [e, hm] at hp; cases hp
  have c0 : w.cell? ⟨p, 0, none⟩ = some (.map (some mf)) := by simp [World.cell?, hp]
  obtain ⟨w1, hw1⟩ : ∃ w1, w.alloc (.map es c) = w1 := ⟨_, rfl⟩
  have hz1 : w1.heap.size = w.heap.size + 1 := by rw [← hw1]; simp
  have hb1 : ∀ k, k < w.heap.size → w1.heap[k]? = w.heap[k]? := fun k hk => by rw [← hw1]; exact Below.heap_alloc _ _ _ hk
  have hn1 : w1.heap[w.heap.size]? = some (.map es c) := by rw [← hw1]; exact heap_alloc_at w _
  have hp1 := (hb1 p hpl).trans hp
  have c1 : w1.cell? ⟨p, 1, none⟩ = some x1 := by simp [World.cell?, hp1]
  have f1 : w1.frozen? ⟨p, 1, none⟩ = false := by simp [World.frozen?, hp1]
  have c2 : w1.cell? ⟨p, 2, none⟩ = some lv := by simp [World.cell?, hp1]
  have f2 : w1.frozen? ⟨p, 2, none⟩ = false := by simp [World.frozen?, hp1]
  have hg1 : w.grownBy w1 none := by rw [← hw1]; exact ⟨rfl, rfl, rfl, by simp, fun k hk _ => Below.heap_alloc _ _ _ hk⟩
  have HC := Lib.hid (clone_any mf w es c hm)
  rw [hw1] at HC
  have HP : Hid (((w1.setCell ⟨p, 1, none⟩ (.map (some w.heap.size))).setCell ⟨p, 2, none⟩ (.slice none 0 0)).heap[p]? = some (.cells #[.map (some mf), .map (some w.heap.size), nilS, .int .i64 room] 72 (0, 0)) ∧
      (∀ k, k ≠ p → ((w1.setCell ⟨p, 1, none⟩ (.map (some w.heap.size))).setCell ⟨p, 2, none⟩ (.slice none 0 0)).heap[k]? = w1.heap[k]?)) := Lib.hid ⟨by
    unfold World.setCell
    rw [Array.getElem?_modify, if_pos rfl, Array.getElem?_modify, if_pos rfl, hp1]
    rfl, fun k hk => (Below.heap_setCell _ _ _ _ hk).trans (Below.heap_setCell _ _ _ _ hk)⟩
  have HQ : Hid (∀ w', (∀ k, k ≠ p → w'.heap[k]? = w1.heap[k]?) → Fs w' mf V F ∧ Fs w' w.heap.size V F) := Lib.hid fun w' hk => by
    have row : ∀ f, SlAt w' (V f) (F f) := fun f => (hfs.row f).keep (fun g hg => by
      have hgl := (hfs.row f).lt g hg
      have hgp : g ≠ p := fun e => by
        obtain ⟨cur, hc⟩ := (hfs.row f).elem g hg
        rw [e, hp] at hc
        cases hc
      rw [hk g hgp, hb1 g hgl])
    exact ⟨⟨⟨es, c, by rw [hk mf hpm.symm, hb1 mf hml]; exact hm, hE⟩, row, hfs.apart⟩, ⟨⟨es, c, by rw [hk _ (by omega)]; exact hn1, hE⟩, row, hfs.apart⟩⟩
  have HG := Lib.hid hg1
  have HZ := Lib.hid hz1
  clear hp hfs hm hE hb1 hn1 hp1 hg1 hw1 hz1
  go_enter Tryz.func59, Tryz.ntmps59
  go_wp2_with (first | (go_at_call 84; refine HC.out.mono ?_; rintro e w' ⟨rfl, rfl⟩))
  go_end0
  refine ⟨rfl, HP.out.1, (HQ.out _ HP.out.2).1, (HQ.out _ HP.out.2).2, ⟨HG.out.os, HG.out.tape, HG.out.output, by simp [World.setCell]; exact HG.out.size, fun k hk hkp => (HP.out.2 k (fun e => hkp (congrArg some e))).trans (HG.out.block k hk (by simp))⟩, by simp [World.setCell]; exact HZ.out⟩
end Go.Proofs.YtbhgcioeibhjeaaGreatDoor
namespace Go.Proofs.YtbhgcioeibhjeaaGreatDoor
open Go.RowKit

def doAll (G : Nat → List UInt8) (L : List Th) : Nat → List UInt8 := L.foldl doneF G
theorem doAll_snoc (G : Nat → List UInt8) (L : List Th) (t : Th) : doAll G (L ++ [t]) = doneF (doAll G L) t := by simp [doAll]
/-- what holds of every disk -/
structure Dk.Inv (D : Dk) : Prop where
  room : D.room ≤ 16777216
  eq : D.F = doAll D.G D.L
  sums : ∀ k, sumF (doAll D.G (D.L.take k)) ≤ D.room
  oks : ∀ k t, D.L[k]? = some t → ThOk (doAll D.G (D.L.take k)) t
  few : D.L.length ≤ 900
theorem Dk.Inv.sum {D : Dk} (h : D.Inv) : sumF D.F ≤ D.room := by
  have := h.sums D.L.length
  rwa [List.take_length, ← h.eq] at this
theorem Dk.Inv.ok {D : Dk} (h : D.Inv) : D.ok := ⟨h.room, Nat.le_trans h.sum (Nat.le_trans h.room (by decide))⟩
theorem sum_mem (l : List Nat) (x : Nat) (h : x ∈ l) : x ≤ l.sum := by
  induction l with
  | nil => cases h
  | cons y l ih =>
    rw [List.sum_cons]
    rcases List.mem_cons.1 h with rfl | h
    · omega
    · have := ih h
      omega
theorem len_le_sum (F : Nat → List UInt8) (f : Nat) (hf : f < 64) : (F f).length ≤ sumF F := sum_mem _ _ (List.mem_map.2 ⟨f, List.mem_range.2 hf, rfl⟩)
theorem sum_range_upd (g h : Nat → Nat) (f : Nat) (he : ∀ k, k ≠ f → g k = h k) : ∀ n, f < n → ((List.range n).map g).sum + h f = ((List.range n).map h).sum + g f
  | 0, hf => absurd hf (Nat.not_lt_zero _)
  | n + 1, hf => by
    rw [List.range_succ, List.map_append, List.map_append, List.sum_append, List.sum_append]
    simp only [List.map_cons, List.map_nil, List.sum_cons, List.sum_nil]
    by_cases hn : f = n
    · subst hn
      have : (List.range f).map g = (List.range f).map h := List.map_congr_left (fun k hk => he k (by have := List.mem_range.1 hk; omega))
      rw [this]
      omega
    · have := sum_range_upd g h f he n (by omega)
      rw [he n (fun e => hn e.symm)]
      omega
theorem sumF_upd (F : Nat → List UInt8) (f : Nat) (l : List UInt8) (hf : f < 64) : sumF (updF F f l) + (F f).length = sumF F + l.length := by
  have := sum_range_upd (fun k => (updF F f l k).length) (fun k => (F k).length) f (fun k hk => by rw [updF_other hk]) 64 hf
  simp only [updF_same] at this
  exact this
/-- a thing that may be done keeps what holds -/
theorem Dk.Inv.did {D : Dk} {t : Th} (h : D.Inv) (hk : ThOk D.F t) (hs : sumF (doneF D.F t) ≤ D.room) (hf : D.L.length < 900) : (D.did t).Inv := by
  refine ⟨h.room, ?_, fun k => ?_, fun k u hu => ?_, by show (D.L ++ [t]).length ≤ 900; rw [List.length_append]; simp; omega⟩
  · show doneF D.F t = doAll D.G (D.L ++ [t])
    rw [doAll_snoc, ← h.eq]
  · show sumF (doAll D.G ((D.L ++ [t]).take k)) ≤ D.room
    by_cases hkl : k ≤ D.L.length
    · rw [List.take_append_of_le_length hkl]
      exact h.sums k
    · rw [List.take_of_length_le (by rw [List.length_append]; simp; omega), doAll_snoc, ← h.eq]
      exact hs
  · have hu' : (D.L ++ [t])[k]? = some u := hu
    show ThOk (doAll D.G ((D.L ++ [t]).take k)) u
    by_cases hkl : k < D.L.length
    · rw [List.take_append_of_le_length (by omega)]
      rw [List.getElem?_append_left hkl] at hu'
      exact h.oks k u hu'
    · have hk2 : k = D.L.length := by
        have := (List.getElem?_eq_some_iff.1 hu').1
        simp at this
        omega
      subst hk2
      rw [List.take_left, ← h.eq]
      rw [List.getElem?_append_right (Nat.le_refl _)] at hu'
      simp at hu'
      subst hu'
      exact hk
def Dk.synced (D : Dk) : Dk := { D with G := D.F, L := [] }
theorem Dk.Inv.synced {D : Dk} (h : D.Inv) : D.synced.Inv :=
  ⟨h.room, rfl, fun k => by show sumF (doAll D.F ([].take k)) ≤ D.room; rw [List.take_nil]; exact h.sum, fun k t ht => (by have ht' : ([] : List Th)[k]? = some t := ht; simp at ht'), Nat.zero_le _⟩
theorem DkW.mk_settled {N : Nat} {w w' : World} {Φ : Nat → Prop} {p mf : Nat} {V : Nat → Value} {D : Dk} {F : Nat → List UInt8} (hN : N ≤ w.heap.size) (fp : Φ p) (fmf : Φ mf) (fv : ∀ f g, (V f).ownBlock = some g → Φ g) (lt : ∀ k, Φ k → N ≤ k ∧ k < w.heap.size)
    (hp : w'.heap[p]? = some (.cells #[.map (some mf), .map (some w.heap.size), nilS, .int .i64 D.room] 72 (0, 0))) (h1 : Fs w' mf V F) (h2 : Fs w' w.heap.size V F) (hg : w.grownBy w' (some p)) (hz : w'.heap.size = w.heap.size + 1) :
    DkAt N w' (grewΦ w w' Φ) p { D with F := F, G := F, L := [] } ∧ TurnD w w' Φ (grewΦ w w' Φ) :=
  ⟨⟨mf, w.heap.size, V, V, nilS, [], ⟨hp, h1, h2, by have := (lt mf fmf).2; omega, fun f f' g hff ha hb => h1.apart f f' g hff ha hb, fun f g _ _ => .inl (Nat.le_refl _), World.ownsRow_nil _ _ _ _, (fun x hx => by cases hx), rfl, .inl fp, .inl fmf, .inr ⟨Nat.le_refl _, by omega⟩, fun f g hg => .inl (fv f g hg), fun f g hg => .inl (fv f g hg), (fun _ h => by cases h), (fun x hx => by cases hx), fun k hk => by
      rcases hk with hk | hk
      · exact ⟨(lt k hk).1, by have := (lt k hk).2; omega⟩
      · exact ⟨by omega, hk.2⟩⟩⟩, ⟨hg.os, hg.tape, hg.output, hg.size, fun k hk hn => hg.block k hk (fun e => hn (by cases e; exact fp)), fun k hk => by
      rcases hk with hk | hk
      · exact .inl hk
      · exact .inr hk.1⟩⟩
set_option maxRecDepth 100000 in
set_option maxHeartbeats 2000000 in
theorem Sync_any {N : Nat} {w : World} {Φ : Nat → Prop} {p : Nat} {D : Dk} (h : DkAt N w Φ p D) (hs : N ≤ w.heap.size) :
    Calls Tryz.prog 27 #[.pointer (some ⟨p, 0, none⟩)] w fun e w' => e = .returned (.int .i64 0) ∧ ∃ Φ', DkAt N w' Φ' p D.synced ∧ TurnD w w' Φ Φ' := by
  obtain ⟨mf, ms, V, U, lv, B, h⟩ := h
  have HA := Lib.hid (ask_ok p mf w h.isDisk)
  have HS := Lib.hid ((settle_any p mf V D.F _ lv D.room w h.p0 h.ff).mono (fun e w' ⟨e0, h1, h2, h3, h4, h5⟩ => And.intro e0 (DkW.mk_settled (D := D) hs h.fp h.fmf h.fv h.lt h1 h2 h3 h4 h5)))
  have hq := isErr_nil
  have hq2 : ∀ W, (binOp .neq 86 .nilIface .nilIface).run Tryz.prog W = .ok (.bool false) W := fun _ => rfl
  clear h
  go_enter Tryz.func27, Tryz.ntmps27
  go_wp2_with (first | (go_at_call 58; refine HA.out.mono ?_; rintro e w1 ⟨rfl, rfl⟩) | (go_at_call 59; refine HS.out.mono ?_; rintro e w2 ⟨rfl, hd, ht⟩))
  go_ret
  exact ⟨rfl, _, hd, ht⟩
/-- bytes that came in -/
def BtAt (w : World) (v : Value) (l : List UInt8) : Prop := ∃ oa cap, v = .slice oa l.length cap ∧ ∀ (j : Nat) (h : j < l.length), ∃ a, oa = some a ∧ w.cell? (a.add j) = some (.int .u8 (l[j].toNat : Int))
theorem BtAt.keep {w w' : World} {v : Value} {l : List UInt8} (h : BtAt w v l) (hb : Below w.heap.size w w') : BtAt w' v l := by
  obtain ⟨oa, cap, e, hc⟩ := h
  refine ⟨oa, cap, e, fun j hj => ?_⟩
  obtain ⟨a, ha, hcell⟩ := hc j hj
  exact ⟨a, ha, by rw [hb.cell (World.block_lt_of_cell? w _ hcell)]; exact hcell⟩
theorem bt_string {w : World} {v : Value} {l : List UInt8} (h : BtAt w v l) : (convert 43 9 v).run Tryz.prog w = .ok (.string ⟨l.toArray⟩) w := by
  obtain ⟨oa, cap, rfl, hc⟩ := h
  cases oa with
  | none =>
    obtain rfl : l = [] := by
      cases l with
      | nil => rfl
      | cons x l => obtain ⟨a, ha, _⟩ := hc 0 (by simp); cases ha
    rw [run_convert_bytes_string w 43 9 5 none _ cap Tryz.underlying43 Tryz.underlying5 Tryz.underlying9]
    rfl
  | some a =>
    refine run_convert_bytes_back w 43 9 5 a cap l Tryz.underlying43 Tryz.underlying5 Tryz.underlying9 (fun j hj => ?_)
    obtain ⟨a', ha, hcell⟩ := hc j hj
    cases ha
    exact hcell
def appE (D : Dk) (f : Int) (n : Nat) : Int := if f < 0 ∨ 64 ≤ f then 4 else if D.left < n then 190 else 0
def Dk.app (D : Dk) (f : Int) (l : List UInt8) : Dk := if appE D f l.length = 0 then D.did (.put f.toNat ⟨l.toArray⟩) else D
def Dk.cutd (D : Dk) (f m : Int) : Dk := if cutE D f m = 0 then D.did (.cut f.toNat m.toNat) else D
theorem did_put_inv {D : Dk} (h : D.Inv) (f : Nat) (l : List UInt8) (hf : f < 64) (hl : ¬ D.left < (l.length : Int)) (hfew : D.L.length < 900) : ThOk D.F (.put f ⟨l.toArray⟩) ∧ (D.did (.put f ⟨l.toArray⟩)).Inv := by
  have hs := h.sum
  have hr := h.room
  unfold Dk.left at hl
  have hll := len_le_sum D.F f hf
  have hk : ThOk D.F (.put f ⟨l.toArray⟩) := ⟨hf, by omega, by show l.toArray.size ≤ _; simp; omega⟩
  refine ⟨hk, h.did hk ?_ hfew⟩
  have := sumF_upd D.F f (D.F f ++ l) hf
  show sumF (updF D.F f (D.F f ++ (l.toArray).toList)) ≤ D.room
  simp only [List.length_append] at this
  simp only
  omega
theorem Dk.Inv.app {D : Dk} (h : D.Inv) (f : Int) (l : List UInt8) (hfew : D.L.length < 900) : (D.app f l).Inv := by
  unfold Dk.app
  split
  · rename_i he
    unfold appE at he
    by_cases hf : f < 0 ∨ 64 ≤ f
    · rw [if_pos hf] at he; cases he
    · rw [if_neg hf] at he
      by_cases hl : D.left < (l.length : Int)
      · rw [if_pos hl] at he; cases he
      · exact (did_put_inv h f.toNat l (by omega) hl hfew).2
  · exact h
theorem did_cut_inv {D : Dk} (h : D.Inv) (f m : Nat) (hf : f < 64) (hm : m ≤ (D.F f).length) (hfew : D.L.length < 900) : ThOk D.F (.cut f m) ∧ (D.did (.cut f m)).Inv := by
  have hk : ThOk D.F (.cut f m) := ⟨hf, hm⟩
  refine ⟨hk, h.did hk ?_ hfew⟩
  have := sumF_upd D.F f ((D.F f).take m) hf
  have hs := h.sum
  show sumF (updF D.F f ((D.F f).take m)) ≤ D.room
  simp only [List.length_take] at this
  omega
theorem cutE_zero {D : Dk} {f m : Int} (he : cutE D f m = 0) : ∃ (a b : Nat), f = a ∧ m = b ∧ a < 64 ∧ b ≤ (D.F a).length := by
  unfold cutE at he
  by_cases h1 : m < 0
  · rw [if_pos h1] at he; cases he
  · rw [if_neg h1] at he
    by_cases h2 : f < 0 ∨ 64 ≤ f
    · rw [if_pos h2] at he; cases he
    · rw [if_neg h2] at he
      by_cases h3 : ((D.F f.toNat).length : Int) < m
      · rw [if_pos h3] at he; cases he
      · exact ⟨f.toNat, m.toNat, by omega, by omega, by omega, by omega⟩
theorem Dk.Inv.cutd {D : Dk} (h : D.Inv) (f m : Int) (hfew : D.L.length < 900) : (D.cutd f m).Inv := by
  unfold Dk.cutd
  split
  · rename_i he
    obtain ⟨a, b, rfl, rfl, ha, hb⟩ := cutE_zero he
    exact (did_cut_inv h a b ha hb hfew).2
  · exact h
theorem DkW.box {N : Nat} {w w1 : World} {Φ : Nat → Prop} {p mf ms : Nat} {V U : Nat → Value} {lv : Value} {B : List (Th × Nat × Nat)} {D : Dk} (h : DkW N w Φ p mf ms V U lv B D) (hN : N ≤ w.heap.size) (hb : Below w.heap.size w w1) : DkW N w1 (grewΦ w w1 Φ) p mf ms V U lv B D ∧ TurnD w w1 Φ (grewΦ w w1 Φ) := by
  have h1 := h.keep hb.size (fun k hk => hb.block k (h.lt k hk).2)
  exact ⟨⟨h1.p0, h1.ff, h1.gg, h1.ne, h1.cross, h1.share, h1.row, h1.bx, h1.lb, .inl h1.fp, .inl h1.fmf, .inl h1.fms, fun f g hg => .inl (h1.fv f g hg), fun f g hg => .inl (h1.fu f g hg), fun g hg => .inl (h1.fl g hg), fun x hx => ⟨.inl (h1.fb x hx).1, .inl (h1.fb x hx).2⟩, fun k hk => by
    rcases hk with hk | hk
    · exact h1.lt k hk
    · exact ⟨by omega, hk.2⟩⟩, ⟨hb.os, hb.tape, hb.output, hb.size, fun k hk _ => hb.block k hk, fun k hk => by
    rcases hk with hk | hk
    · exact .inl hk
    · exact .inr hk.1⟩⟩
theorem BoxIn.lt {w : World} {t : Th} {b1 b2 : Nat} (h : BoxIn w t b1 b2) : b1 < w.heap.size ∧ b2 < w.heap.size := by
  cases t <;> exact ⟨(Array.getElem?_eq_some_iff.1 h.1).1, (Array.getElem?_eq_some_iff.1 h.2).1⟩
set_option maxRecDepth 100000 in
theorem isErr_ne (x : Value) (W : World) : (binOp .neq 86 (.iface 144 x) .nilIface).run Tryz.prog W = .ok (.bool true) W := rfl
set_option maxRecDepth 100000 in
theorem isErr_eqn (W : World) : (binOp .neq 86 .nilIface .nilIface).run Tryz.prog W = .ok (.bool false) W := rfl
end Go.Proofs.YtbhgcioeibhjeaaGreatDoor
