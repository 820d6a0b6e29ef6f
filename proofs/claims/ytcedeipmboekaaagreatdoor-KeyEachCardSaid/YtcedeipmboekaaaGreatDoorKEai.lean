/-
  key.Each: the iterator; what the law of it wants.
-/
import Derived.Test.YtcedeipmboekaaaGreatDoorKLawReads
import Derived.Test.YtcedeipmboekaaaGreatDoorKSqs
import Derived.Deep.RegionLaw
import Derived.Maps.AppendAt
import Derived.RangeFuncBox
import Derived.Lib.MinMax
namespace Go.Proofs.YtcedeipmboekaaaGreatDoor
open Go.RowKit

set_option maxRecDepth 100000 in
set_option maxHeartbeats 1000000 in
theorem qEach11_any (C D R m k : Nat) (s : ByteArray) (i : Nat) (w : World) (hC : w.cell? ⟨C, 0, none⟩ = some (.pointer (some ⟨R, 0, none⟩))) (hD : w.cell? ⟨D, 0, none⟩ = some (.int .i64 k)) (hk : k < 256) (hr : RdK w R m s i) (hs : s.size ≤ 1000000) (hi : i ≤ s.size) :
    Calls Tryz.prog 36 #[.pointer (some ⟨C, 0, none⟩), .pointer (some ⟨D, 0, none⟩)] w (KBody w R m s i (bodyK k (s.data.toList.drop i))) := by
  have hR := hr.lt
  have hM := hr.mlt
  have hCl := World.block_lt_of_cell? w _ hC
  have hDl := World.block_lt_of_cell? w _ hD
  have HV := Lib.hid (qvalue_any k R m s i _ hk (hr.alloc (.cells #[.int .i64 0, .int .i64 0, .int .u64 0, .string ⟨#[]⟩] 42)) hs hi)
  obtain ⟨O, hO⟩ : ∃ O, bodyK k (s.data.toList.drop i) = O := ⟨_, rfl⟩
  rw [hO] at HV ⊢
  clear hO hr
  cases O with
  | none =>
    go_enter Tryz.func36, Tryz.ntmps36
    go_wp2_with fail
    refine HV.out.mono ?_
    rintro e w1 ⟨⟨t, rfl⟩, hg⟩
    exact ⟨rfl, ⟨_, rfl⟩, (World.grownBy_alloc w _ _).trans hg⟩
  | some y =>
    obtain ⟨v, n⟩ := y
    go_enter Tryz.func36, Tryz.ntmps36
    go_wp2_with fail
    refine HV.out.mono ?_
    rintro e w1 ⟨rfl, hr1, hg1⟩
    obtain ⟨c0, c1, c2, c3, fr⟩ := resK hR hg1
    have HP := Lib.hid (fun a b c d => kgot_res (x := v.val) (a := a) (b := b) (c := c) (d := d) hR hM hr1 hg1)
    clear hr1 hg1
    simp only [Vl.val]
    go_wp2_with fail
    exact bodyPost_ret (v := .agg #[.int .i64 v.k, .int .i64 v.i, .int .u64 v.u, .string v.s]) (by simp [results, Tryz.results36, go_sem, c0, c1, c2, c3]) rfl (HP.out _ _ _ _)
set_option maxRecDepth 100000 in
set_option maxHeartbeats 1000000 in
theorem qcatchV_panicking (p : Addr) (x : Int) (s : ByteArray) (w : World) (hc : w.cell? p = some (.int .i64 x)) (hz : w.frozen? p = false) :
    CallsD Tryz.prog 56 #[.pointer (some p)] (.panicking [{ v := .iface 90 (.string s), recovered := false }]) w fun e u' w' =>
      e = .returned (.tuple #[]) ∧ u' = .panicking [{ v := .iface 90 (.string s), recovered := true }] ∧ w.setCell p (.int .i64 150) = w' := by
  refine callsD_of_wpS Tryz.func56 rfl fun c₀ cs hu => ?_
  apply wpS_seq
  apply wpS_region
  simp [wpOpsS, go_sem, recoverD, hu, Tryz.ntmps56, Exit.thenS]
  refine wpS_of_wp ?_
  rw [show (#[Value.pointer (some p)] ++ ((Array.replicate 15 undef).setIfInBounds 3 (Value.iface 90 (Value.string s))).setIfInBounds 0 (Value.iface 90 (Value.string s)) : Array Value) = #[.pointer (some p), .iface 90 (.string s), undef, undef, .iface 90 (.string s), undef, undef, undef, undef, undef, undef, undef, undef, undef, undef, undef] from rfl]
  have HU := Lib.hid hu
  clear hu
  have hTA := asNoneK s
  go_wp2
  simp [bodyPostS, results, Tryz.results56, go_sem]
set_option maxRecDepth 100000 in
set_option maxHeartbeats 1000000 in
theorem qcatchV_idle (p : Addr) (w : World) :
    CallsD Tryz.prog 56 #[.pointer (some p)] .returning w fun e u' w' => e = .returned (.tuple #[]) ∧ u' = .returning ∧ w = w' := by
  refine callsD_of_wpS Tryz.func56 rfl fun c₀ cs hu => ?_
  apply wpS_seq
  apply wpS_region
  simp [wpOpsS, go_sem, recoverD, hu, Tryz.ntmps56, Exit.thenS]
  refine wpS_of_wp ?_
  rw [show (#[Value.pointer (some p)] ++ ((Array.replicate 15 undef).setIfInBounds 3 Value.nilIface).setIfInBounds 0 Value.nilIface : Array Value) = #[.pointer (some p), .nilIface, undef, undef, .nilIface, undef, undef, undef, undef, undef, undef, undef, undef, undef, undef, undef] from rfl]
  have HU := Lib.hid hu
  clear hu
  have hTA := asNilK
  go_wp2
  have hu := HU.out
  cases c₀
  simp_all [bodyPostS, results, Tryz.results56, go_sem]
/-- what attempt tells of a value -/
def TVPost (w : World) (R m : Nat) (s : ByteArray) (i : Nat) (o : Option (Vl × Nat)) (e : Ending) (w' : World) : Prop :=
  match o with
  | some (v, n) => e = .returned (.tuple #[v.val, .int .i64 0]) ∧ RdK w' R m s (i + n) ∧ w.grownBy w' (some R)
  | none => e = .returned (.tuple #[val0.val, .int .i64 150]) ∧ w.grownBy w' (some R)
/-- a result's cells and the error's -/
abbrev twoC (w : World) : World := (w.alloc (.cells #[.int .i64 0, .int .i64 0, .int .u64 0, .string ⟨#[]⟩] 42)).alloc (.cells #[.int .i64 0] 25)
structure TwoAt (w w1 : World) : Prop where
  c0 : w1.cell? ⟨w.heap.size, 0, none⟩ = some (.int .i64 0)
  c1 : w1.cell? ⟨w.heap.size, 1, none⟩ = some (.int .i64 0)
  c2 : w1.cell? ⟨w.heap.size, 2, none⟩ = some (.int .u64 0)
  c3 : w1.cell? ⟨w.heap.size, 3, none⟩ = some (.string ⟨#[]⟩)
  d : w1.cell? ⟨w.heap.size + 1, 0, none⟩ = some (.int .i64 0)
  f : ∀ o, w1.frozen? ⟨w.heap.size, o, none⟩ = false
  g : w1.frozen? ⟨w.heap.size + 1, 0, none⟩ = false
theorem two_at {w w1 : World} {R : Nat} (hR : R < w.heap.size) (hg : (twoC w).grownBy w1 (some R)) : TwoAt w w1 := by
  have q : ∀ (a : Addr) (v : Value), a.block = w.heap.size ∨ a.block = w.heap.size + 1 → (twoC w).cell? a = some v → w1.cell? a = some v := fun a v ha hv => by
    rw [hg.cell_far a (by simp; omega) (by simp; omega)]
    exact hv
  refine ⟨q _ _ (.inl rfl) (by simp [go_sem]), q _ _ (.inl rfl) (by simp [go_sem]), q _ _ (.inl rfl) (by simp [go_sem]), q _ _ (.inl rfl) (by simp [go_sem]), q _ _ (.inr rfl) (by simp [go_sem]), fun o => ?_, ?_⟩
  · rw [hg.frozen_far _ (by simp; omega) (by simp; omega)]; simp [go_sem]
  · rw [hg.frozen_far _ (by simp) (by simp; omega)]; simp [go_sem]
set_option maxRecDepth 100000 in
set_option maxHeartbeats 1000000 in
theorem qattemptV_no (R m C D i : Nat) (s : ByteArray) (w : World) (hR : R < w.heap.size)
    (H : Calls Tryz.prog 36 #[.pointer (some ⟨C, 0, none⟩), .pointer (some ⟨D, 0, none⟩)] (twoC w) (KGone (twoC w) R)) :
    Calls Tryz.prog 35 #[.func (.func 36) #[] #[.pointer (some ⟨C, 0, none⟩), .pointer (some ⟨D, 0, none⟩)]] w (TVPost w R m s i none) := by
  have hmf : ∀ (fn : Fn) (first cap : Array Value) (w : World), (Instr.makeFunc fn first cap).run Tryz.prog w = .ok (.func fn first cap) w := fun _ _ _ _ => rfl
  have HH := Lib.hid H
  clear H
  go_enter_defers Tryz.func35, Tryz.ntmps35
  go_wp2_with fail
  refine HH.out.mono ?_
  rintro e w1 ⟨⟨q, rfl⟩, hg⟩
  obtain ⟨c0, c1, c2, c3, d, f, g⟩ := two_at hR hg
  have HG := Lib.hid (((World.grownBy_alloc w _ _).trans (World.grownBy_alloc _ _ _)).trans hg)
  clear hg
  refine leaves_cons (f := 56) (args := #[.pointer (some ⟨w.heap.size + 1, 0, none⟩)]) (by simp) (by simp [go_sem]) ?_
  refine (qcatchV_panicking ⟨w.heap.size + 1, 0, none⟩ 0 q _ d g).mono ?_
  rintro e u' w'' ⟨rfl, rfl, rfl⟩
  simp [Leaves, settle, results, Tryz.results35, go_sem, c0, c1, c2, c3, d]
  exact ⟨rfl, kgrown_set HG.out (by omega)⟩
set_option maxRecDepth 100000 in
set_option maxHeartbeats 1000000 in
theorem qattemptV_yes (R m C D i n : Nat) (v : Vl) (s : ByteArray) (w : World) (hR : R < w.heap.size) (hM : m < w.heap.size)
    (H : Calls Tryz.prog 36 #[.pointer (some ⟨C, 0, none⟩), .pointer (some ⟨D, 0, none⟩)] (twoC w) (KGot (twoC w) R m s (i + n) v.val)) :
    Calls Tryz.prog 35 #[.func (.func 36) #[] #[.pointer (some ⟨C, 0, none⟩), .pointer (some ⟨D, 0, none⟩)]] w (TVPost w R m s i (some (v, n))) := by
  have hmf : ∀ (fn : Fn) (first cap : Array Value) (w : World), (Instr.makeFunc fn first cap).run Tryz.prog w = .ok (.func fn first cap) w := fun _ _ _ _ => rfl
  have HH := Lib.hid H
  clear H
  go_enter_defers Tryz.func35, Tryz.ntmps35
  go_wp2_with fail
  refine HH.out.mono ?_
  rintro e w1 ⟨rfl, hrd, hg⟩
  obtain ⟨c0, c1, c2, c3, d, f, g⟩ := two_at hR hg
  have HG := Lib.hid (((World.grownBy_alloc w _ _).trans (World.grownBy_alloc _ _ _)).trans hg)
  have HRD := Lib.hid hrd
  clear hg hrd
  simp only [Vl.val]
  go_wp2_with fail
  refine leaves_cons (f := 56) (args := #[.pointer (some ⟨w.heap.size + 1, 0, none⟩)]) (by simp) (by simp [go_sem]) ?_
  refine (qcatchV_idle ⟨w.heap.size + 1, 0, none⟩ _).mono ?_
  rintro e u' w'' ⟨rfl, rfl, rfl⟩
  simp [Leaves, settle, results, Tryz.results35, go_sem, c0, c1, c2, c3, d]
  refine ⟨rfl, ?_, ?_⟩
  · exact ((((HRD.out.set (by omega) (by omega)).set (by omega) (by omega)).set (by omega) (by omega)).set (by omega) (by omega)).set (by omega) (by omega)
  · exact kgrown_set (kgrown_set (kgrown_set (kgrown_set (kgrown_set HG.out (Nat.le_refl _)) (Nat.le_refl _)) (Nat.le_refl _)) (Nat.le_refl _)) (by omega)
/-- the attempt at the value of kind k, whose bytes begin at i -/
theorem qattemptV_any (C D R m k : Nat) (s : ByteArray) (i : Nat) (w : World) (hC : w.cell? ⟨C, 0, none⟩ = some (.pointer (some ⟨R, 0, none⟩))) (hD : w.cell? ⟨D, 0, none⟩ = some (.int .i64 k)) (hk : k < 256) (hr : RdK w R m s i) (hs : s.size ≤ 1000000) (hi : i ≤ s.size) :
    Calls Tryz.prog 35 #[.func (.func 36) #[] #[.pointer (some ⟨C, 0, none⟩), .pointer (some ⟨D, 0, none⟩)]] w (TVPost w R m s i (bodyK k (s.data.toList.drop i))) := by
  have hb : Below w.heap.size w (twoC w) := ((Below.refl _ _).alloc (Nat.le_refl _) _).alloc (by simp) _
  have H := qEach11_any C D R m k s i (twoC w) ((hb.cell (World.block_lt_of_cell? w _ hC)).trans hC) ((hb.cell (World.block_lt_of_cell? w _ hD)).trans hD) hk (hr.keep hb) hs hi
  cases hO : bodyK k (s.data.toList.drop i) with
  | none =>
    rw [hO] at H
    exact qattemptV_no R m C D i s w hr.lt H
  | some y =>
    obtain ⟨v, n⟩ := y
    rw [hO] at H
    exact qattemptV_yes R m C D i n v s w hr.lt hr.mlt H
end Go.Proofs.YtcedeipmboekaaaGreatDoor
namespace Go.Proofs.YtcedeipmboekaaaGreatDoor
open Go.RowKit Go.Shelf
attribute [local go_sem] Oper.semAt_some

theorem round_anyK {P : Program} {n m l' l f : Nat} {tmps : Array Value} {assign body : Code} {w : World} {R : Ending → World → Prop} (h : RoundIn Fence.wide n P l f tmps assign body w R) : RoundIn (Fence.wide.inRound l') m P l f tmps assign body w R :=
  ⟨trivial, fun c cs _ => h.2 c cs (room_wide _)⟩
/-- the values whose keys stand one behind the other from place i on, each with its place -/
def EAf (s : List UInt8) : Nat → Nat → List (Nat × Vl)
  | 0, _ => []
  | f + 1, i => match readKey (s.drop i) with
    | some (v, k) => (i, v) :: EAf s f (i + k)
    | none => []
def EA (s : List UInt8) (i : Nat) : List (Nat × Vl) := EAf s (s.length + 1 - i) i
def EL (s : ByteArray) : List (Nat × Vl) := EA s.data.toList 0
theorem EAf_fuel (s : List UInt8) : ∀ (f g i : Nat), s.length + 1 - i ≤ f → s.length + 1 - i ≤ g → EAf s f i = EAf s g i := by
  intro f
  induction f with
  | zero =>
    intro g i hf hg
    cases g with
    | zero => rfl
    | succ g =>
      show [] = match readKey (s.drop i) with
        | some (v, k) => (i, v) :: EAf s g (i + k)
        | none => []
      rw [List.drop_of_length_le (by omega)]
      rfl
  | succ f ih =>
    intro g i hf hg
    cases g with
    | zero =>
      show (match readKey (s.drop i) with
        | some (v, k) => (i, v) :: EAf s f (i + k)
        | none => []) = []
      rw [List.drop_of_length_le (by omega)]
      rfl
    | succ g =>
      show (match readKey (s.drop i) with
        | some (v, k) => (i, v) :: EAf s f (i + k)
        | none => []) = match readKey (s.drop i) with
        | some (v, k) => (i, v) :: EAf s g (i + k)
        | none => []
      cases hr : readKey (s.drop i) with
      | none => rfl
      | some y =>
        obtain ⟨v, k⟩ := y
        have h1 := (readKey_lt hr).1
        simp only
        rw [ih g (i + k) (by omega) (by omega)]
theorem EA_some {s : List UInt8} {i k : Nat} {v : Vl} (h : readKey (s.drop i) = some (v, k)) : EA s i = (i, v) :: EA s (i + k) := by
  have hk := readKey_lt h
  rw [List.length_drop] at hk
  unfold EA
  rw [show s.length + 1 - i = (s.length - i) + 1 by omega]
  show (match readKey (s.drop i) with
        | some (v, k) => (i, v) :: EAf s (s.length - i) (i + k)
        | none => []) = _
  rw [h]
  simp only
  rw [EAf_fuel s (s.length - i) (s.length + 1 - (i + k)) (i + k) (by omega) (by omega)]
theorem EA_none {s : List UInt8} {i : Nat} (h : readKey (s.drop i) = none) : EA s i = [] := by
  unfold EA
  cases hf : s.length + 1 - i with
  | zero => rfl
  | succ f =>
    show (match readKey (s.drop i) with
        | some (v, k) => (i, v) :: EAf s f (i + k)
        | none => []) = []
    rw [h]
/-- pre is told, the next begins at i -/
def ERel (s : ByteArray) (i : Nat) (pre : List (Nat × Vl)) : Prop := EL s = pre ++ EA s.data.toList i
def encE (x : Nat × Vl) : Array Value := #[.int .i64 x.1, .agg #[.int .i64 x.2.k, .int .i64 x.2.i, .int .u64 x.2.u, .string x.2.s]]
/-- what abides in Each's loop: the yield, the reader and what leads to it -/
structure EI (ll Y T R m : Nat) (s : ByteArray) (r : Nat) (W : World) : Prop where
  rd : RdK W R m s r
  le : r ≤ s.size
  y : W.cell? ⟨Y, 0, none⟩ = some (.func (.yield ll) #[] #[])
  t : W.cell? ⟨T, 0, none⟩ = some (.pointer (some ⟨R, 0, none⟩))
theorem EI.grow {ll Y T R m r r' : Nat} {s : ByteArray} {W W' : World} (h : EI ll Y T R m s r W) (hY : Y ≠ R) (hT : T ≠ R) (hr : RdK W' R m s r') (hle : r' ≤ s.size) (hg : W.grownBy W' (some R)) : EI ll Y T R m s r' W' := by
  have lY := World.block_lt_of_cell? W _ h.y
  have lT := World.block_lt_of_cell? W _ h.t
  exact ⟨hr, hle, (hg.cell_far _ lY (fun e => by cases e; exact hY rfl)).trans h.y, (hg.cell_far _ lT (fun e => by cases e; exact hT rfl)).trans h.t⟩
theorem EI.same {ll Y T R m r : Nat} {s : ByteArray} {W W' : World} (h : EI ll Y T R m s r W) (hq : ∀ k, k = Y ∨ k = T ∨ k = R ∨ k = m → W'.heap[k]? = W.heap[k]?) : EI ll Y T R m s r W' := by
  obtain ⟨⟨r0, r1, r2, r3, r4, r5⟩, h1, h2, h3⟩ := h
  have q : ∀ (g o' : Nat), (g = Y ∨ g = T ∨ g = R ∨ g = m) → W'.cell? ⟨g, o', none⟩ = W.cell? ⟨g, o', none⟩ := fun g o' hg => World.cell?_of_block (a := ⟨g, o', none⟩) (hq g hg)
  have qf : W'.frozen? ⟨R, 1, none⟩ = W.frozen? ⟨R, 1, none⟩ := World.frozen?_of_block (a := ⟨R, 1, none⟩) (hq R (.inr (.inr (.inl rfl))))
  exact ⟨⟨(q _ _ (by simp)).trans r0, (q _ _ (by simp)).trans r1, (q _ _ (by simp)).trans r2, qf.trans r3, (hq _ (by simp)).trans r4, r5⟩, h1, (q _ _ (by simp)).trans h2, (q _ _ (by simp)).trans h3⟩
theorem below_grown {B R : Nat} {W W' : World} (hg : W.grownBy W' (some R)) (hR : B ≤ R) (hs : B ≤ W.heap.size) : Below B W W' :=
  ⟨hg.os, hg.tape, hg.output, hg.size, fun k hk => hg.block k (by omega) (fun e => by cases e; omega)⟩
theorem below_put {B l : Nat} {W : World} (o : Obj) (hB : B ≤ l) : Below B W (W.putObj l o) := ⟨rfl, rfl, rfl, by simp, fun _ hk => World.putObj_heap_other (by omega)⟩
theorem body_some {s : ByteArray} {i n : Nat} {v : Vl} (hi : i < s.size) (hb : bodyK (byteK s i) (s.data.toList.drop (i + 1)) = some (v, n)) : readKey (s.data.toList.drop i) = some (v, 1 + n) := by
  obtain ⟨x, hx, hx2⟩ := drop_byte hi
  rw [hx, readKey_body, ← hx2, hb]
  rfl
theorem body_none {s : ByteArray} {i : Nat} (hi : i < s.size) (hb : bodyK (byteK s i) (s.data.toList.drop (i + 1)) = none) : readKey (s.data.toList.drop i) = none := by
  obtain ⟨x, hx, hx2⟩ := drop_byte hi
  rw [hx, readKey_body, ← hx2, hb]
  rfl
theorem ERel.next {s : ByteArray} {i n : Nat} {v : Vl} {pre : List (Nat × Vl)} (h : ERel s i pre) (hi : i < s.size) (hb : bodyK (byteK s i) (s.data.toList.drop (i + 1)) = some (v, n)) : ERel s (i + 1 + n) (pre ++ [(i, v)]) := by
  unfold ERel at h ⊢
  rw [h, EA_some (body_some hi hb), show i + (1 + n) = i + 1 + n by omega]
  simp
theorem ERel.stop {s : ByteArray} {i : Nat} {pre : List (Nat × Vl)} (h : ERel s i pre) (hi : i < s.size) (hb : bodyK (byteK s i) (s.data.toList.drop (i + 1)) = none) : pre = EL s := by
  unfold ERel at h
  rw [h, EA_none (body_none hi hb), List.append_nil]
theorem ERel.done {s : ByteArray} {pre : List (Nat × Vl)} (h : ERel s s.size pre) : pre = EL s := by
  unfold ERel at h
  rw [h, EA_none (by rw [List.drop_of_length_le (by rw [Array.length_toList]; exact Nat.le_refl _)]; rfl), List.append_nil]
set_option maxRecDepth 100000 in
set_option maxHeartbeats 4000000 in
theorem each_turns (n : Nat) (hn : 4 ≤ n) (C : Nat) (s : ByteArray) (hs : s.size ≤ 2400) (w : World) (hC : w.cell? ⟨C, 0, none⟩ = some (.string s)) :
    SeqTurns Fence.wide n Tryz.prog 34 #[.pointer (some ⟨C, 0, none⟩)] encE (fun _ => False) (fun xs => xs = EL s) (fun pre => pre <+: EL s) w := fun ll J Jx W hW hJ hJx hY h0 => by
  have HY := Lib.hid hY
  have HJ0 := Lib.hid (fun W' (hb : Below W.heap.size W W') => hJ [] _ _ h0 hb)
  have hCl := World.block_lt_of_cell? w _ hC
  have hCW : W.cell? ⟨C, 0, none⟩ = some (.string s) := (hW.cell hCl).trans hC
  have hCl2 : C < W.heap.size := Nat.lt_of_lt_of_le hCl hW.size
  have hmf : ∀ (fn : Fn) (first cap : Array Value) (w : World), (Instr.makeFunc fn first cap).run Tryz.prog w = .ok (.func fn first cap) w := fun _ _ _ _ => rfl
  clear hY h0 hW
  refine callsIn_of_wpAt Tryz.func34 rfl ?_
  simp only [Tryz.ntmps34, List.size_toArray, List.length_cons, List.length_nil, Nat.reduceAdd, Nat.reduceSub, Array.replicate_succ, Array.replicate_zero, List.push_toArray, List.append_toArray, List.nil_append, List.cons_append]
  refine wpAt_seq (wpAt_of_wpIn (wpIn_wide.2 ?_))
  go_wp2_with fail
  refine wpAt_scope ?_
  refine wpAt_seq (wpAt_of_wpIn (wpIn_wide.2 ?_))
  have hC1 : (W.alloc (.cells #[.func (.yield ll) #[] #[]] 73)).cell? ⟨C, 0, none⟩ = some (.string s) := by rw [World.cell?_alloc_lt _ _ _ (by simpa using hCl2)]; exact hCW
  go_wp2_with fail
  refine (qnewReader_any s _).mono ?_
  rintro e w1 ⟨rfl, rfl⟩
  go_wp2_with fail
  refine wpAt_seq (wpAt_of_wpIn (wpIn_wide.2 ?_))
  refine wp_label ?_
  refine wpAt_seq (wpAt_of_wpIn (wpIn_wide.2 ?_))
  go_wp2_with fail
  refine wpAt_block ?_
  obtain ⟨B, hB⟩ : ∃ B, W.heap.size = B := ⟨_, rfl⟩
  obtain ⟨W0, hW0⟩ : ∃ W0, (((W.alloc (.cells #[.func (.yield ll) #[] #[]] 73)).alloc (.map keyKinds 5)).alloc (.cells #[.string s, .int .i64 0, .map (some (W.heap.size + 1))] 89)).alloc (.cells #[.pointer (some ⟨W.heap.size + 1 + 1, 0, none⟩)] 62) = W0 := ⟨_, rfl⟩
  have hz0 : W0.heap.size = B + 4 := by rw [← hW0, ← hB]; simp
  have hb0 : Below B W W0 := by
    rw [← hW0, ← hB]
    exact ((((Below.refl _ W).alloc (Nat.le_refl _) _).alloc (by simp) _).alloc (by simp; omega) _).alloc (by simp; omega) _
  have hei : EI ll B (B + 3) (B + 2) (B + 1) s 0 W0 := by
    rw [← hW0, ← hB]
    refine ⟨⟨by simp [go_sem], by simp [go_sem], by simp [go_sem], by simp [go_sem], ?_, by omega⟩, Nat.zero_le _, by simp [go_sem], by simp [go_sem]⟩
    rw [Below.heap_alloc _ _ _ (by simp), Below.heap_alloc _ _ _ (by simp)]
    have h := heap_alloc_at (W.alloc (.cells #[.func (.yield ll) #[] #[]] 73)) (.map keyKinds 5)
    simpa using h
  have hj0 : J [] W0 := HJ0.out W0 (by rw [hB]; exact hb0)
  subst hB
  have HEI := Lib.hid hei
  have HJ := Lib.hid hj0
  have hE0 : ERel s 0 [] := rfl
  rw [hW0]
  clear hW0 hei hj0 HJ0 hCW hC1
  refine wpAt_turnsA ⟨_, Tryz.func34⟩ (gf := 29) (fb := #[.pointer (some ⟨W.heap.size + 1 + 1, 0, none⟩)]) (lb := #[]) rfl (enters_of Tryz.func29 (by kernel_rfl) rfl)
    (begun_seq (n - 1) (by omega) (W.heap.size + 2) (W.heap.size + 1) s (by omega)) (fun _ => rfl)
    (fun i V => ∃ pre, ERel s i pre ∧ J pre V ∧ EI ll W.heap.size (W.heap.size + 3) (W.heap.size + 2) (W.heap.size + 1) s i V) (fun i V => ∃ pre, ERel s i pre ∧ J pre V ∧ EI ll W.heap.size (W.heap.size + 3) (W.heap.size + 2) (W.heap.size + 1) s (i + 1) V)
    (fun b i V => ∃ g, b = { tmps := #[.func (.yield ll) #[] #[], .pointer (some ⟨C, 0, none⟩), .pointer (some ⟨W.heap.size, 0, none⟩), .pointer (some ⟨W.heap.size + 1 + 1 + 1, 0, none⟩), .int .i64 (i : Nat), .pointer (some ⟨g, 0, none⟩), undef, undef, .string s, .pointer (some ⟨W.heap.size + 1 + 1, 0, none⟩), .pointer (some ⟨W.heap.size + 1 + 1, 0, none⟩), .func (.func 29) #[.pointer (some ⟨W.heap.size + 1 + 1, 0, none⟩)] #[], .int .i64 (i : Nat), .int .i64 (byteK s i : Nat), undef, undef, undef, undef, undef, undef, undef, undef, undef, undef, undef, undef, undef, undef], defers := [] } ∧ W0.heap.size + 2 ≤ g ∧ V.cell? ⟨g, 0, none⟩ = some (.int .i64 (byteK s i : Nat)) ∧ ∃ pre, ERel s i pre ∧ J pre V ∧ EI ll W.heap.size (W.heap.size + 3) (W.heap.size + 2) (W.heap.size + 1) s (i + 1) V)
    (fun c _ V => c = .exit 0 ∧ (J (EL s) V ∨ ∃ pre, pre <+: EL s ∧ Jx pre V)) (fun _ _ => False)
    (fun i A h => by obtain ⟨pre, _, _, he⟩ := h; exact ⟨he.rd, he.le⟩)
    (fun i A A' h hlt hst hs2 => by
      obtain ⟨pre, h1, h2, h3⟩ := h
      exact ⟨⟨pre, h1, hJ _ _ _ h2 (below_grown hst.2 (by omega) (by omega)), h3.grow (by omega) (by omega) hst.1 hlt hst.2⟩, keep2_grown hst.2 (by omega) hs2⟩)
    (fun A A' h => by obtain ⟨q, rfl⟩ := h; exact ⟨Nat.le_refl _, fun _ _ _ => rfl⟩)
    (fun i V o hl h => by
      obtain ⟨pre, h1, h2, h3⟩ := h
      exact ⟨pre, h1, hJ _ _ _ h2 (below_put o (by omega)), h3.same (fun k hk => World.putObj_heap_other (by omega))⟩)
    (fun b i V o hl h => by
      obtain ⟨g, h0, hg, hc, pre, h1, h2, h3⟩ := h
      exact ⟨g, h0, hg, (World.cell?_of_block (a := ⟨g, 0, none⟩) (World.putObj_heap_other (by show g ≠ _; omega))).trans hc, pre, h1, hJ _ _ _ h2 (below_put o (by omega)), h3.same (fun k hk => World.putObj_heap_other (by omega))⟩)
    (fun c i V o hl h => by
      obtain ⟨h0, h1 | ⟨pre, h1, h2⟩⟩ := h
      · exact ⟨h0, .inl (hJ _ _ _ h1 (below_put o (by omega)))⟩
      · exact ⟨h0, .inr ⟨pre, h1, hJx _ _ _ h2 (below_put o (by omega))⟩⟩)
    (fun i A A' h hf => by
      obtain ⟨q, rfl⟩ := hf
      obtain ⟨pre, h1, h2, h3⟩ := h
      exact ⟨pre, h1, hJ _ _ _ h2 (below_drewN (Below.refl _ A) q), h3.same (fun k hk => rfl)⟩)
    (fun c i A A' h hf => by
      obtain ⟨q, rfl⟩ := hf
      obtain ⟨h0, h1 | ⟨pre, h1, h2⟩⟩ := h
      · exact ⟨h0, .inl (hJ _ _ _ h1 (below_drewN (Below.refl _ A) q))⟩
      · exact ⟨h0, .inr ⟨pre, h1, hJx _ _ _ h2 (below_drewN (Below.refl _ A) q)⟩⟩)
    (fun o o' => by
      have hb2 : Below W0.heap.size W0 ((W0.alloc o).alloc o') := ((Below.refl _ _).alloc (Nat.le_refl _) _).alloc (by simp) _
      exact ⟨[], hE0, hJ _ _ _ HJ.out (hb2.mono (by omega)), HEI.out.same (fun k hk => hb2.block k (by omega))⟩)
    ?assign ?body ?done ?stop (fun _ _ h => h.elim)
  case assign =>
    intro lp i V K hI hi hsz hK
    obtain ⟨pre, h1, h2, h3⟩ := hI
    have HK := Lib.hid (hK _ (V.alloc (.cells #[.int .i64 (byteK s i : Nat)] 39)) ⟨V.heap.size, rfl, hsz, by simp [go_sem], pre, h1, hJ _ _ _ h2 ((Below.refl _ _).alloc (by omega) _), h3.same (fun k hk => Below.heap_alloc _ _ _ (by omega))⟩ ⟨by simp, fun k _ hk => Below.heap_alloc _ _ _ (by omega)⟩)
    clear hK h1 h2 h3
    simp only [encK]
    gi_wp2
    exact HK.out
  case done =>
    rintro V ⟨pre, h1, h2, h3⟩ hdf
    have hpre := h1.done
    subst hpre
    refine ⟨by simp, .inl ⟨_, _, rfl, run_takeDeferred hdf, ?_⟩⟩
    exact ⟨.tuple #[], by simp [results, Tryz.results34, go_sem], ⟨_, rfl⟩, .inl (hJ _ _ _ h2 (below_put _ (by omega)))⟩
  case stop =>
    rintro c i V ⟨rfl, hJJ⟩ hdf
    have HD := Lib.hid hdf
    have HJJ : Hid (∀ o, J (EL s) (V.putObj W0.heap.size o) ∨ ∃ pre, pre <+: EL s ∧ Jx pre (V.putObj W0.heap.size o)) := Lib.hid fun o => by
      rcases hJJ with h1 | ⟨pre, h1, h2⟩
      · exact .inl (hJ _ _ _ h1 (below_put o (by omega)))
      · exact .inr ⟨pre, h1, hJx _ _ _ h2 (below_put o (by omega))⟩
    clear hJJ hdf
    refine wpIn_wide.2 ?_
    go_wp2
    refine ⟨by simp, .inl ⟨_, _, rfl, run_takeDeferred HD.out, ?_⟩⟩
    exact ⟨.tuple #[], by simp [results, Tryz.results34, go_sem], ⟨_, rfl⟩, HJJ.out _⟩
  case body =>
    rintro lp b i V ⟨g, rfl, hg, hc, pre, h1, h2, h3⟩ hi hsz
    have hbk : byteK s i < 256 := by unfold byteK; exact UInt8.toNat_lt _
    have hV := qattemptV_any (W.heap.size + 1 + 1 + 1) g (W.heap.size + 2) (W.heap.size + 1) (byteK s i) s (i + 1) V h3.t hc hbk h3.rd (by omega) h3.le
    have hgl := World.block_lt_of_cell? V _ hc
    have k2 := h3.y
    have hzV : W0.heap.size + 2 ≤ V.heap.size := by omega
    cases hb : bodyK (byteK s i) (s.data.toList.drop (i + 1)) with
    | none =>
      rw [hb] at hV
      have HC := Lib.hid hV
      have hst := h1.stop hi hb
      have HP : Hid (∀ w5, V.grownBy w5 (some (W.heap.size + 2)) → Keep2 W0.heap.size V (w5.alloc (.cells #[.int .i64 0, .int .i64 0, .int .u64 0, .string ⟨#[]⟩] 42)) ∧ J (EL s) (w5.alloc (.cells #[.int .i64 0, .int .i64 0, .int .u64 0, .string ⟨#[]⟩] 42))) := Lib.hid fun w5 hg5 => by
        have hz5 := hg5.size
        refine ⟨(keep2_grown hg5 (by omega) hsz).trans ⟨by simp, fun k _ hk => Below.heap_alloc _ _ _ (by omega)⟩, ?_⟩
        rw [← hst]
        exact hJ _ _ _ h2 ((below_grown hg5 (by omega) (by omega)).alloc (by omega) _)
      clear hV hb h1 h2 h3 hst hc
      gi_wp2
      refine ⟨trivial, fun _ => by omega, (CallsIn.inRound lp (callsIn_wide.2 HC.out)).mono ?_⟩
      rintro e w5 ⟨rfl, hg5⟩
      have HP5 := Lib.hid (HP.out w5 hg5)
      clear hg5
      simp only [Vl.val, val0]
      gi_wp2
      exact ⟨HP5.out.1, rfl, .inl HP5.out.2⟩
    | some y =>
      obtain ⟨v, nn⟩ := y
      rw [hb] at hV
      have HC := Lib.hid hV
      have hnx := h1.next hi hb
      have hln := bodyK_len hi hb
      have hpf : pre ++ [(i, v)] <+: EL s := ⟨_, hnx.symm⟩
      have HP : Hid (∀ w5, RdK w5 (W.heap.size + 2) (W.heap.size + 1) s (i + 1 + nn) → V.grownBy w5 (some (W.heap.size + 2)) → V.heap.size ≤ w5.heap.size ∧ EI ll W.heap.size (W.heap.size + 3) (W.heap.size + 2) (W.heap.size + 1) s (i + 1 + nn) (w5.alloc (.cells #[.int .i64 v.k, .int .i64 v.i, .int .u64 v.u, .string v.s] 42)) ∧ Keep2 W0.heap.size V (w5.alloc (.cells #[.int .i64 v.k, .int .i64 v.i, .int .u64 v.u, .string v.s] 42)) ∧ w5.cell? ⟨W.heap.size, 0, none⟩ = some (.func (.yield ll) #[] #[]) ∧ YieldAt Fence.wide (n - 1) Tryz.prog ll (encE (i, v)) (w5.alloc (.cells #[.int .i64 v.k, .int .i64 v.i, .int .u64 v.u, .string v.s] 42)) fun e W' =>
          (e = .returned (.bool true) ∧ J (pre ++ [(i, v)]) W' ∧ Keep W.heap.size (fun _ => False) (w5.alloc (.cells #[.int .i64 v.k, .int .i64 v.i, .int .u64 v.u, .string v.s] 42)) W') ∨ (e = .returned (.bool false) ∧ Jx (pre ++ [(i, v)]) W' ∧ Keep W.heap.size (fun _ => False) (w5.alloc (.cells #[.int .i64 v.k, .int .i64 v.i, .int .u64 v.u, .string v.s] 42)) W')) := Lib.hid fun w5 hr5 hg5 => by
        have hz5 := hg5.size
        have he5 := h3.grow (by omega) (by omega) hr5 hln hg5
        refine ⟨hz5, he5.same (fun k hk => Below.heap_alloc _ _ _ (by omega)), (keep2_grown hg5 (by omega) hsz).trans ⟨by simp, fun k _ hk => Below.heap_alloc _ _ _ (by omega)⟩, he5.y, ?_⟩
        exact HY.out pre (i, v) _ (hJ _ _ _ h2 ((below_grown hg5 (by omega) (by omega)).alloc (by omega) _)) hpf (by simp; omega)
      have HNX := Lib.hid hnx
      have HPF := Lib.hid hpf
      clear hV hb h1 h2 h3 hnx hpf hc HY
      gi_wp2
      refine ⟨trivial, fun _ => by omega, (CallsIn.inRound lp (callsIn_wide.2 HC.out)).mono ?_⟩
      rintro e w5 ⟨rfl, hr5, hg5⟩
      obtain ⟨hz5, he6, hk6, hy5, fn, tmps, assign, body, hy, hR⟩ := HP.out w5 hr5 hg5
      have HE6 := Lib.hid he6
      have hy6 := he6.y
      have hlt5 : W.heap.size < w5.heap.size := by omega
      have HK6 := Lib.hid hk6
      have HR := Lib.hid hR
      unfold encE at hy
      clear hr5 hg5 he6 hk6 hR
      simp only [Vl.val]
      gi_wp2
      refine ⟨fun _ => by omega, (round_anyK HR.out).mono ?_⟩
      rintro e w7 (⟨rfl, hJ7, hk7⟩ | ⟨rfl, hJ7, hk7⟩)
      · have HQ : Hid (Keep2 W0.heap.size V w7 ∧ EI ll W.heap.size (W.heap.size + 3) (W.heap.size + 2) (W.heap.size + 1) s (i + 1 + nn) w7) := Lib.hid (by
          have hs7 := hk7.size
          simp at hs7
          refine ⟨HK6.out.trans ⟨hk7.size, fun k _ hk => hk7.same k (by simp; omega) (.inl (by omega))⟩, HE6.out.same (fun k hk => hk7.same k (by simp; omega) (.inl (by omega)))⟩)
        have HJ7 := Lib.hid hJ7
        clear hJ7 hk7
        gi_wp2
        exact ⟨HQ.out.1, i + 1 + nn, by omega, _, HNX.out, HJ7.out, HQ.out.2⟩
      · have HQ : Hid (Keep2 W0.heap.size V w7) := Lib.hid (by
          have hs7 := hk7.size
          simp at hs7
          exact HK6.out.trans ⟨hk7.size, fun k _ hk => hk7.same k (by simp; omega) (.inl (by omega))⟩)
        have HJ7 := Lib.hid hJ7
        clear hJ7 hk7
        gi_wp2
        exact ⟨HQ.out, rfl, .inr ⟨_, HPF.out, HJ7.out⟩⟩
end Go.Proofs.YtcedeipmboekaaaGreatDoor
namespace Go.Proofs.YtcedeipmboekaaaGreatDoor
open Go.RowKit

theorem qEach_any (s : ByteArray) (w : World) : Calls Tryz.prog 17 #[.string s] w fun e w' => e = .returned (.func (.func 34) #[] #[.pointer (some ⟨w.heap.size, 0, none⟩)]) ∧ w.alloc (.cells #[.string s] 9) = w' := by
  have hmf : ∀ (fn : Fn) (first cap : Array Value) (w : World), (Instr.makeFunc fn first cap).run Tryz.prog w = .ok (.func fn first cap) w := fun _ _ _ _ => rfl
  go_enter Tryz.func17, Tryz.ntmps17
  go_wp2_with fail
  go_ret
  exact ⟨rfl, rfl⟩
theorem EA_len (s : List UInt8) : ∀ (f i : Nat), (EAf s f i).length ≤ s.length - i
  | 0, _ => Nat.zero_le _
  | f + 1, i => by
    show (match readKey (s.drop i) with
        | some (v, k) => (i, v) :: EAf s f (i + k)
        | none => []).length ≤ _
    cases hr : readKey (s.drop i) with
    | none => exact Nat.zero_le _
    | some y =>
      obtain ⟨v, k⟩ := y
      have hk := readKey_lt hr
      rw [List.length_drop] at hk
      have h := EA_len s f (i + k)
      simp only [List.length_cons]
      omega
theorem EL_len (s : ByteArray) : (EL s).length ≤ s.size := by
  have h := EA_len s.data.toList (s.data.toList.length + 1 - 0) 0
  have hz : s.data.toList.length = s.size := by simp
  unfold EL EA
  omega
/-- the parts that are still to be told, as the law's own loop finds them -/
theorem EA_next {s : ByteArray} {i k : Nat} {v : Vl} {pre : List (Nat × Vl)} (h : ERel s i pre) (hr : readKey (s.data.toList.drop i) = some (v, k)) : ERel s (i + k) (pre ++ [(i, v)]) := by
  unfold ERel at h ⊢
  rw [h, EA_some hr]
  simp
theorem EA_end {s : ByteArray} {i : Nat} {pre : List (Nat × Vl)} (h : ERel s i pre) (hr : readKey (s.data.toList.drop i) = none) : pre = EL s := by
  unfold ERel at h
  rw [h, EA_none hr, List.append_nil]
end Go.Proofs.YtcedeipmboekaaaGreatDoor
namespace Go.Proofs.YtcedeipmboekaaaGreatDoor
open Go.RowKit

theorem step_append_row {P : Program} {ops : Array Oper} {o : Oper} {a : Act} {w : World} {K : Act → World → Prop} {Q : Exit → Act → World → Prop} {E : Prop}
    (hg : o.guard = none) (s x : Operand) (t : TypeId) (hop : o.op = Op.call { callee := Callee.builtin Builtin.append, args := #[s, x], argTypes := #[t, t] })
    (base : Nat) (e : TypeId) (i : TypeInfo) (z : Value) (size bytes : Nat) (h1 : P.underlying t = some (.slice e)) (h2 : P.info? e = some i) (h3 : i.zero = some z) (h4 : i.size = size) (h5 : i.bytes = bytes) (h6 : z.cells.size = size) (h7 : 0 < size)
    (v : Value) (n : Nat) (olds : List Value) (hs : a.eval s = v) (hown : w.ownsRow base e size v n olds)
    (ad : Addr) (m c : Nat) (news : List Value) (hx : a.eval x = .slice (some ad) m c) (hn : news.length = m * size) (hc : ∀ j u, news[j]? = some u → w.cell? (ad.add j) = some u) (h1c : ∀ u ∈ news, u.oneCell' = true)
    (b1 : n + m ≤ maxLen) (b2 : (n + m) * bytes ≤ 140737488355328) (hb : base ≤ w.heap.size)
    (hK : ∀ v' w', w'.ownsRow base e size v' (n + m) (olds ++ news) → w.grownBy w' v.ownBlock → K (a.put o.dst v') w') :
    if Region.wanted o (yielded ops a.tmps) = true then Oper.wp P o a w K Q else E := by
  have hw : Region.wanted o (yielded ops a.tmps) = true := by simp [Region.wanted, hg]
  rw [if_pos hw]
  obtain ⟨v', w', hrun, r1, r2, _⟩ := run_append_own (P := P) w base t o.type e i z size bytes h1 h2 h3 h4 h5 h6 h7 v n olds hown ad m c news hn hc h1c b1 b2 hb
  unfold Oper.wp
  simp [execOp, hop, resolve, invoke, builtin, hs, hx, hrun, Result.andThen]
  exact hK v' w' r1 r2

/-- what lies in memory while the law gathers: the boxes at N to N + 3, the two rows -/
structure StK (w : World) (many : Int) (wr : World) (c5 c6 v5 v6 : Value) (l5 : List Value) (l6 : List Vl) : Prop where
  many : wr.cell? ⟨w.heap.size, 0, none⟩ = some (.int .i64 many)
  res : wr.cell? ⟨w.heap.size + 1, 0, none⟩ = some (.bool false)
  resF : wr.frozen? ⟨w.heap.size + 1, 0, none⟩ = false
  at5 : wr.cell? ⟨w.heap.size + 2, 0, none⟩ = some c5
  at5F : wr.frozen? ⟨w.heap.size + 2, 0, none⟩ = false
  at6 : wr.cell? ⟨w.heap.size + 3, 0, none⟩ = some c6
  at6F : wr.frozen? ⟨w.heap.size + 3, 0, none⟩ = false
  r5 : wr.ownsRow (w.heap.size + 4) 3 1 v5 l5.length l5
  r6 : wr.ownsRow (w.heap.size + 4) 42 4 v6 l6.length (vcellsK l6)
  below : Below w.heap.size w wr

theorem StK.size {w wr : World} {many : Int} {c5 c6 v5 v6 : Value} {l5 : List Value} {l6 : List Vl} (h : StK w many wr c5 c6 v5 v6 l5 l6) : w.heap.size + 4 ≤ wr.heap.size := by
  have h1 : w.heap.size + 3 < wr.heap.size := World.block_lt_of_cell? wr _ h.at6
  omega
/-- two rows of different types lie in different blocks -/
theorem rows_apartK {W : World} {B e e' z z' n n' : Nat} {v v' : Value} {xs ys : List Value} (h : W.ownsRow B e z v n xs) (h' : W.ownsRow B e' z' v' n' ys) (he : e ≠ e') : v.ownBlock = none ∨ v.ownBlock ≠ v'.ownBlock := by
  rcases h.2 with ⟨rfl, _⟩ | ⟨g, cap, cur, rfl, _, hg, _⟩
  · exact .inl rfl
  · rcases h'.2 with ⟨rfl, _⟩ | ⟨g', cap', cur', rfl, _, hg', _⟩
    · exact .inr (by simp [Value.ownBlock])
    · refine .inr (fun hb => he ?_)
      simp only [Value.ownBlock, Option.some.injEq] at hb
      subst hb
      rw [hg] at hg'
      simp only [Option.some.injEq, Obj.cells.injEq] at hg'
      exact hg'.2.1
theorem StK.grown {w wr w' : World} {many : Int} {c5 c6 v5 v6 : Value} {l5 : List Value} {l6 : List Vl} {row : Option Nat} (h : StK w many wr c5 c6 v5 v6 l5 l6) (hg : wr.grownBy w' row) (hr : ∀ k, row = some k → w.heap.size + 4 ≤ k) {u5 u6 : Value} {m5 : List Value} {m6 : List Vl}
    (k5 : w'.ownsRow (w.heap.size + 4) 3 1 u5 m5.length m5) (k6 : w'.ownsRow (w.heap.size + 4) 42 4 u6 m6.length (vcellsK m6)) : StK w many w' c5 c6 u5 u6 m5 m6 := by
  have hb : ∀ j, j < 4 → w'.heap[w.heap.size + j]? = wr.heap[w.heap.size + j]? := fun j hj => hg.block _ (by have := h.size; omega) (fun e => by have := hr _ e.symm; omega)
  have cc : ∀ j, j < 4 → w'.cell? ⟨w.heap.size + j, 0, none⟩ = wr.cell? ⟨w.heap.size + j, 0, none⟩ := fun j hj => World.cell?_of_block (hb j hj)
  have ff : ∀ j, j < 4 → w'.frozen? ⟨w.heap.size + j, 0, none⟩ = wr.frozen? ⟨w.heap.size + j, 0, none⟩ := fun j hj => World.frozen?_of_block (hb j hj)
  exact ⟨(cc 0 (by omega)).trans h.many, (cc 1 (by omega)).trans h.res, (ff 1 (by omega)).trans h.resF, (cc 2 (by omega)).trans h.at5, (ff 2 (by omega)).trans h.at5F, (cc 3 (by omega)).trans h.at6, (ff 3 (by omega)).trans h.at6F, k5, k6,
    h.below.grown hg (by have := h.size; omega) (fun k hk => by have := hr k hk; omega)⟩
theorem StK.app5 {w wr w' : World} {many : Int} {c5 c6 v5 v6 u5 : Value} {l5 : List Value} {l6 : List Vl} {x : Value} (h : StK w many wr c5 c6 v5 v6 l5 l6) (hown : w'.ownsRow (w.heap.size + 4) 3 1 u5 (l5.length + 1) (l5 ++ [x])) (hg : wr.grownBy w' v5.ownBlock) : StK w many w' c5 c6 u5 v6 (l5 ++ [x]) l6 :=
  h.grown hg (fun k hk => (h.r5.lt k hk).1) (by rw [List.length_append]; exact hown) (h.r6.kept hg (rows_apartK h.r6 h.r5 (by decide)))
theorem StK.app6 {w wr w' : World} {many : Int} {c5 c6 v5 v6 u6 : Value} {l5 : List Value} {l6 : List Vl} {x : Vl} (h : StK w many wr c5 c6 v5 v6 l5 l6) (hown : w'.ownsRow (w.heap.size + 4) 42 4 u6 (l6.length + 1) (vcellsK (l6 ++ [x]))) (hg : wr.grownBy w' v6.ownBlock) : StK w many w' c5 c6 v5 u6 l5 (l6 ++ [x]) :=
  h.grown hg (fun k hk => (h.r6.lt k hk).1) (h.r5.kept hg (rows_apartK h.r5 h.r6 (by decide))) (by rw [List.length_append]; exact hown)
theorem StK.alloc {w wr : World} {many : Int} {c5 c6 v5 v6 : Value} {l5 : List Value} {l6 : List Vl} (h : StK w many wr c5 c6 v5 v6 l5 l6) (o : Obj) : StK w many (wr.alloc o) c5 c6 v5 v6 l5 l6 :=
  h.grown (World.grownBy_alloc wr o none) (fun _ e => by cases e) (h.r5.alloc o) (h.r6.alloc o)
/-- a store into the box of at -/
theorem StK.put5 {w wr : World} {many : Int} {c5 c6 v5 v6 : Value} {l5 : List Value} {l6 : List Vl} (h : StK w many wr c5 c6 v5 v6 l5 l6) (u : Value) : StK w many (wr.setCell ⟨w.heap.size + 2, 0, none⟩ u) u c6 v5 v6 l5 l6 := by
  have hg := grownBy_setCell' wr (w.heap.size + 2) u
  have hb : ∀ j, j ≠ 2 → j < 4 → (wr.setCell ⟨w.heap.size + 2, 0, none⟩ u).heap[w.heap.size + j]? = wr.heap[w.heap.size + j]? := fun j hj h4 => hg.block _ (by have := h.size; omega) (fun e => by have := Option.some.inj e; simp at this; omega)
  have cc := fun j (hj : j ≠ 2) (h4 : j < 4) => World.cell?_of_block (a := ⟨w.heap.size + j, 0, none⟩) (hb j hj h4)
  have ff := fun j (hj : j ≠ 2) (h4 : j < 4) => World.frozen?_of_block (a := ⟨w.heap.size + j, 0, none⟩) (hb j hj h4)
  have ne : ∀ (v : Value) (e : TypeId) (z n : Nat) (xs : List Value), wr.ownsRow (w.heap.size + 4) e z v n xs → v.ownBlock = none ∨ v.ownBlock ≠ some (w.heap.size + 2) := fun v e z n xs hr => by
    cases hv : v.ownBlock with
    | none => exact .inl rfl
    | some k => exact .inr (fun he => by have := (hr.lt k hv).1; cases he; omega)
  exact ⟨(cc 0 (by omega) (by omega)).trans h.many, (cc 1 (by omega) (by omega)).trans h.res, (ff 1 (by omega) (by omega)).trans h.resF, World.cell?_setCell_same' _ _ _ (by rw [h.at5]; rfl), by rw [World.frozen?_setCell]; exact h.at5F, (cc 3 (by omega) (by omega)).trans h.at6, (ff 3 (by omega) (by omega)).trans h.at6F,
    h.r5.kept hg (ne _ _ _ _ _ h.r5), h.r6.kept hg (ne _ _ _ _ _ h.r6), h.below.setCell (p := ⟨w.heap.size + 2, 0, none⟩) (by simp) _⟩
/-- a store into the box of want -/
theorem StK.put6 {w wr : World} {many : Int} {c5 c6 v5 v6 : Value} {l5 : List Value} {l6 : List Vl} (h : StK w many wr c5 c6 v5 v6 l5 l6) (u : Value) : StK w many (wr.setCell ⟨w.heap.size + 3, 0, none⟩ u) c5 u v5 v6 l5 l6 := by
  have hg := grownBy_setCell' wr (w.heap.size + 3) u
  have hb : ∀ j, j ≠ 3 → j < 4 → (wr.setCell ⟨w.heap.size + 3, 0, none⟩ u).heap[w.heap.size + j]? = wr.heap[w.heap.size + j]? := fun j hj h4 => hg.block _ (by have := h.size; omega) (fun e => by have := Option.some.inj e; simp at this; omega)
  have cc := fun j (hj : j ≠ 3) (h4 : j < 4) => World.cell?_of_block (a := ⟨w.heap.size + j, 0, none⟩) (hb j hj h4)
  have ff := fun j (hj : j ≠ 3) (h4 : j < 4) => World.frozen?_of_block (a := ⟨w.heap.size + j, 0, none⟩) (hb j hj h4)
  have ne : ∀ (v : Value) (e : TypeId) (z n : Nat) (xs : List Value), wr.ownsRow (w.heap.size + 4) e z v n xs → v.ownBlock = none ∨ v.ownBlock ≠ some (w.heap.size + 3) := fun v e z n xs hr => by
    cases hv : v.ownBlock with
    | none => exact .inl rfl
    | some k => exact .inr (fun he => by have := (hr.lt k hv).1; cases he; omega)
  exact ⟨(cc 0 (by omega) (by omega)).trans h.many, (cc 1 (by omega) (by omega)).trans h.res, (ff 1 (by omega) (by omega)).trans h.resF, (cc 2 (by omega) (by omega)).trans h.at5, (ff 2 (by omega) (by omega)).trans h.at5F, World.cell?_setCell_same' _ _ _ (by rw [h.at6]; rfl), by rw [World.frozen?_setCell]; exact h.at6F,
    h.r5.kept hg (ne _ _ _ _ _ h.r5), h.r6.kept hg (ne _ _ _ _ _ h.r6), h.below.setCell (p := ⟨w.heap.size + 3, 0, none⟩) (by simp) _⟩
theorem one_cell {W : World} {a : Addr} {v : Value} (h : W.cell? a = some v) : ∀ j u, [v][j]? = some u → W.cell? (a.add j) = some u := by
  intro j u hj
  cases j with
  | zero =>
    simp at hj
    subst hj
    rw [show a.add 0 = a by unfold Addr.add; split <;> simp_all]
    exact h
  | succ j => simp at hj
theorem StK.drew {w wr : World} {many : Int} {c5 c6 v5 v6 : Value} {l5 : List Value} {l6 : List Vl} (h : StK w many wr c5 c6 v5 v6 l5 l6) : StK w many wr.drew c5 c6 v5 v6 l5 l6 :=
  ⟨h.many, h.res, h.resF, h.at5, h.at5F, h.at6, h.at6F, h.r5, h.r6, h.below.drew⟩
theorem StK.keep {w wr w' : World} {many : Int} {c5 c6 v5 v6 : Value} {l5 : List Value} {l6 : List Vl} (h : StK w many wr c5 c6 v5 v6 l5 l6) (hb : Below wr.heap.size wr w') : StK w many w' c5 c6 v5 v6 l5 l6 :=
  h.grown (kgrown_below hb none) (fun _ e => by cases e) (h.r5.kept (kgrown_below hb none) (by cases hq : v5.ownBlock with
    | none => exact .inl rfl
    | some k => exact .inr (by simp))) (own_keepV h.r6 hb)
theorem infoI3 : (Tryz.prog.info? 3).map (fun i => (i.zero, i.size, i.bytes)) = some (some (.int .i64 0), 1, 8) := by kernel_rfl
/-- a value's cells, one by one -/
theorem four_cells {W : World} {a : Addr} {x : Vl} (h : ValAt W a x) : ∀ j u, (vc4K x)[j]? = some u → W.cell? (a.add j) = some u := by
  intro j u hj
  obtain ⟨h0, h1, h2, h3⟩ := h
  match j, hj with
  | 0, hj => simp [vc4K] at hj; subst hj; rw [show a.add 0 = a by unfold Addr.add; split <;> simp_all]; exact h0
  | 1, hj => simp [vc4K] at hj; subst hj; rw [show a.add 1 = ⟨a.block, a.off + 1, none⟩ by unfold Addr.add; rw [if_neg (by decide)]]; exact h1
  | 2, hj => simp [vc4K] at hj; subst hj; rw [show a.add 2 = ⟨a.block, a.off + 2, none⟩ by unfold Addr.add; rw [if_neg (by decide)]]; exact h2
  | 3, hj => simp [vc4K] at hj; subst hj; rw [show a.add 3 = ⟨a.block, a.off + 3, none⟩ by unfold Addr.add; rw [if_neg (by decide)]]; exact h3
theorem vc4_one (x : Vl) : ∀ u ∈ vc4K x, u.oneCell' = true := by
  intro u hu
  simp [vc4K] at hu
  rcases hu with rfl | rfl | rfl | rfl <;> rfl
end Go.Proofs.YtcedeipmboekaaaGreatDoor
namespace Go.Proofs.YtcedeipmboekaaaGreatDoor
open Go.RowKit

/-- between two rounds: the number's box turns alone -/
structure EC (w W3 : World) (B13 : Nat) (m : Nat) (W : World) : Prop where
  size : W3.heap.size ≤ W.heap.size
  same : ∀ k, k < W3.heap.size → k ≠ B13 → W.heap[k]? = W3.heap[k]?
  below : Below w.heap.size w W
  at13 : W.cell? ⟨B13, 0, none⟩ = some (.int .i64 m)
  at13F : W.frozen? ⟨B13, 0, none⟩ = false
theorem EC.keep {w W3 A A' : World} {B13 m : Nat} (h : EC w W3 B13 m A) (hb : Below W3.heap.size A A') (h13 : B13 < W3.heap.size) (hw : w.heap.size ≤ W3.heap.size) : EC w W3 B13 m A' :=
  ⟨Nat.le_trans h.size hb.size, fun k hk hn => (hb.block k hk).trans (h.same k hk hn), h.below.trans (hb.mono hw), by rw [hb.cell h13]; exact h.at13, by rw [hb.frozen h13]; exact h.at13F⟩
theorem EC.set {w W3 W : World} {B13 m m' : Nat} (h : EC w W3 B13 m W) (hw : w.heap.size ≤ B13) : EC w W3 B13 m' (W.setCell ⟨B13, 0, none⟩ (.int .i64 m')) :=
  ⟨by simp [World.setCell]; exact h.size, fun k hk hn => (Below.heap_setCell _ _ _ _ (fun e => hn (by subst e; rfl))).trans (h.same k hk hn), h.below.setCell (p := ⟨B13, 0, none⟩) hw _, World.cell?_setCell_same' _ _ _ (by rw [h.at13]; rfl), by rw [World.frozen?_setCell]; exact h.at13F⟩
theorem EC.next {w W3 W : World} {B13 m : Nat} (h : EC w W3 B13 m W) (hw : w.heap.size ≤ B13) : EC w W3 B13 (m + 1) (W.setCell ⟨B13, 0, none⟩ (.int .i64 ((m : Int) + 1))) := by
  have := h.set (m' := m + 1) hw
  rwa [show (((m + 1 : Nat) : Int)) = (m : Int) + 1 by omega] at this
theorem EC.up {w w2 W3 W : World} {B13 m : Nat} (h : EC w W3 B13 m W) (h2 : Below w.heap.size w w2) (hb : Below w2.heap.size w2 W3) (h13 : w2.heap.size ≤ B13) : Below w2.heap.size w2 W :=
  ⟨h.below.os.trans h2.os.symm, h.below.tape.trans h2.tape.symm, h.below.output.trans h2.output.symm, Nat.le_trans hb.size h.size, fun k hk => (h.same k (Nat.lt_of_lt_of_le hk hb.size) (by omega)).trans (hb.block k hk)⟩
theorem EC.cell {w W3 W : World} {B13 m : Nat} (h : EC w W3 B13 m W) {p : Addr} (hp : p.block < W3.heap.size) (hn : p.block ≠ B13) : W.cell? p = W3.cell? p := World.cell?_of_block (h.same _ hp hn)
theorem EC.frozen {w W3 W : World} {B13 m : Nat} (h : EC w W3 B13 m W) {p : Addr} (hp : p.block < W3.heap.size) (hn : p.block ≠ B13) : W.frozen? p = W3.frozen? p := World.frozen?_of_block (h.same _ hp hn)
theorem add_from (g j : Nat) : (⟨g, 0, none⟩ : Addr).add j = ⟨g, j, none⟩ := by
  unfold Addr.add
  split
  · simp_all
  · simp
theorem row_cell {W : World} {B e n : Nat} {v : Value} {xs : List Value} (h : W.ownsRow B e 1 v n xs) (hn : 0 < n) : ∃ a c, v = .slice (some a) n c ∧ B ≤ a.block ∧ a.block < W.heap.size ∧ ∀ j, j < n → W.cell? (a.add j) = xs[j]? := by
  have h0 := h
  rcases h.2 with ⟨_, e⟩ | ⟨g, cap, cur, rfl, _⟩
  · omega
  · have hlt := h.lt g rfl
    refine ⟨_, _, rfl, hlt.1, hlt.2, fun j hj => ?_⟩
    rw [add_from]
    exact h0.cellAt j (by omega)
theorem cell_put {W : World} {a : Addr} {v : Value} {l : Nat} (h : W.cell? a = some v) {ds : Option (List Deferred)} (hl : W.heap[l]? = some (.deferred ds)) (o : Obj) : (W.putObj l o).cell? a = some v := by
  have hne : a.block ≠ l := fun e => by
    simp [World.cell?, e, hl] at h
  rw [World.cell?_of_block (World.putObj_heap_other hne)]
  exact h
theorem below_putC {B : Nat} {w W : World} (hb : Below B w W) {l : Nat} (hl : B ≤ l) (o : Obj) : Below B w (W.putObj l o) :=
  ⟨hb.os, hb.tape, hb.output, by simp; exact hb.size, fun k hk => (World.putObj_heap_other (by omega)).trans (hb.block k hk)⟩
theorem row_slice {W : World} {B e n : Nat} {v : Value} {xs : List Value} (h : W.ownsRow B e 1 v n xs) : ∃ a c, v = .slice a n c := by
  rcases h.2 with ⟨e0, h0⟩ | ⟨g, cap, cur, e0, _⟩
  · exact ⟨none, 0, by rw [e0, h0]⟩
  · exact ⟨_, _, e0⟩
theorem pre_at {E pre : List (Nat × Vl)} {x : Nat × Vl} (h : (pre ++ [x]) <+: E) : ∃ hl : pre.length < E.length, E[pre.length] = x := by
  obtain ⟨r, rfl⟩ := h
  refine ⟨by simp, ?_⟩
  simp
theorem pre_le {E pre : List (Nat × Vl)} (h : pre <+: E) : pre.length ≤ E.length := by
  obtain ⟨r, rfl⟩ := h
  simp
/-- a row of values, cell by cell -/
theorem row_vals {W : World} {B n : Nat} {v : Value} {vs : List Vl} (h : W.ownsRow B 42 4 v n (vcellsK vs)) (hn : n = vs.length) (h0 : 0 < n) : ∃ a c, v = .slice (some a) n c ∧ B ≤ a.block ∧ a.block < W.heap.size ∧ ∀ (j : Nat) (hj : j < vs.length), ValAt W (a.add (j * 4)) vs[j] := by
  subst hn
  have hs := sliceK_own h
  rcases h.2 with ⟨_, e⟩ | ⟨g, cap, cur, rfl, _⟩
  · omega
  · have hlt := h.lt g rfl
    rcases hs with ⟨e, _⟩ | ⟨a, c, e, _, hv⟩
    · cases e
    · refine ⟨a, c, e, ?_, ?_, hv⟩
      · simp only [Value.slice.injEq, Option.some.injEq] at e
        obtain ⟨rfl, _⟩ := e
        exact hlt.1
      · simp only [Value.slice.injEq, Option.some.injEq] at e
        obtain ⟨rfl, _⟩ := e
        exact hlt.2
set_option maxRecDepth 100000 in
set_option maxHeartbeats 2000000 in
theorem keach_works (s : ByteArray) (many : Int) (w : World) (hg : HasET w) (hs : s.size ≤ 9223372036854775807) (h : 2400 < s.size) :
    Calls Tryz.prog 5 #[.string s, .int .i64 many] w fun e w' => e = .returned (.bool true) ∧ Below w.heap.size w w' := by
  have HW : Hid (∀ W, Below w.heap.size w W → Calls Tryz.prog 9 #[] W fun e w' => e = .returned (.bool true) ∧ Below W.heap.size W w') := Lib.hid (fun W hb => qworks_true W (hg.below hb hg.lt))
  clear hg
  refine (callsIn_wide (n := 6)).1 ?_
  refine callsIn_of_wp_marks Tryz.func5 rfl trivial ?_ rfl
  simp only [Tryz.ntmps5, List.size_toArray, List.length_cons, List.length_nil, Nat.reduceAdd, Nat.reduceSub, Array.replicate_succ, Array.replicate_zero, List.push_toArray, List.append_toArray, List.nil_append, List.cons_append]
  refine wpIn_wide.2 ?_
  go_wp2_with fail
  refine (HW.out _ (((Below.refl w.heap.size w).alloc (Nat.le_refl _) _).alloc (by simp) _)).mono ?_
  rintro e w9 ⟨rfl, hb9⟩
  have HB9 := Lib.hid ((((Below.refl w.heap.size w).alloc (Nat.le_refl _) (.cells #[.int .i64 many] 3)).alloc (by simp) (.cells #[.bool false] 4)).trans (hb9.mono (by simp; omega)))
  have r0 : w9.cell? ⟨w.heap.size + 1, 0, none⟩ = some (.bool false) := by rw [hb9.cell (by simp)]; simp [go_sem]
  have r0F : w9.frozen? ⟨w.heap.size + 1, 0, none⟩ = false := by rw [hb9.frozen (by simp)]; simp [go_sem]
  clear hb9
  go_wp2_with fail
  have hcell : (w9.setCell ⟨w.heap.size + 1, 0, none⟩ (.bool true)).cell? ⟨w.heap.size + 1, 0, none⟩ = some (.bool true) := World.cell?_setCell_same' _ _ _ (by rw [r0]; rfl)
  exact ⟨.bool true, by simp [results, Tryz.results5, go_sem, hcell], rfl, HB9.out.setCell (p := ⟨w.heap.size + 1, 0, none⟩) (by simp) _⟩
end Go.Proofs.YtcedeipmboekaaaGreatDoor
namespace Go.Proofs.YtcedeipmboekaaaGreatDoor
open Go.RowKit

abbrev vObj (x : Vl) : Obj := .cells #[.int .i64 x.k, .int .i64 x.i, .int .u64 x.u, .string x.s] 42
theorem litI0 (W : World) (v : Value) (t : TypeId) : (W.alloc (.cells #[v] t)).cell? ⟨W.heap.size, 0, none⟩ = some v := by simp [go_sem]
theorem litI0b (W : World) (o : Obj) (v : Value) (t : TypeId) : ((W.alloc o).alloc (.cells #[v] t)).cell? ⟨W.heap.size + 1, 0, none⟩ = some v := by
  have h := litI0 (W.alloc o) v t
  rwa [World.size_alloc] at h
theorem litI1 (W : World) (v : Value) (t : TypeId) (o : Obj) : ((W.alloc (.cells #[v] t)).alloc o).cell? ⟨W.heap.size, 0, none⟩ = some v := by simp [go_sem]
theorem litV0 (W : World) (x : Vl) : ValAt (W.alloc (vObj x)) ⟨W.heap.size, 0, none⟩ x := ⟨by simp [go_sem], by simp [go_sem], by simp [go_sem], by simp [go_sem]⟩
theorem litV0b (W : World) (o : Obj) (x : Vl) : ValAt ((W.alloc o).alloc (vObj x)) ⟨W.heap.size + 1, 0, none⟩ x := by
  have h := litV0 (W.alloc o) x
  rwa [World.size_alloc] at h
theorem litV1 (W : World) (x : Vl) (o : Obj) : ValAt ((W.alloc (vObj x)).alloc o) ⟨W.heap.size, 0, none⟩ x := ⟨by simp [go_sem], by simp [go_sem], by simp [go_sem], by simp [go_sem]⟩
theorem row_neK {W : World} {B e z n q : Nat} {v : Value} {xs : List Value} (h : W.ownsRow B e z v n xs) (hq : W.heap.size ≤ q) : some q ≠ v.ownBlock := fun he => by
  have := (h.lt q he.symm).2
  omega
/-- a value's cells stay where a row grows that is another's -/
theorem valAt_grown {W W' : World} {a : Addr} {x : Vl} {row : Option Nat} (h : ValAt W a x) (hg : W.grownBy W' row) (hne : some a.block ≠ row) : ValAt W' a x := by
  have hl := h.lt
  have hb := hg.block a.block hl hne
  obtain ⟨h0, h1, h2, h3⟩ := h
  exact ⟨(World.cell?_of_block (a := a) hb).trans h0, (World.cell?_of_block (a := ⟨a.block, a.off + 1, none⟩) hb).trans h1, (World.cell?_of_block (a := ⟨a.block, a.off + 2, none⟩) hb).trans h2, (World.cell?_of_block (a := ⟨a.block, a.off + 3, none⟩) hb).trans h3⟩
def kl5 (pre : List (Nat × Vl)) : List Value := pre.map fun x => .int .i64 x.1
def kl6 (pre : List (Nat × Vl)) : List Vl := pre.map (·.2)
theorem kl5_snoc (pre : List (Nat × Vl)) (i : Nat) (v : Vl) : kl5 (pre ++ [(i, v)]) = kl5 pre ++ [.int .i64 (i : Int)] := by simp [kl5]
theorem kl6_snoc (pre : List (Nat × Vl)) (i : Nat) (v : Vl) : kl6 (pre ++ [(i, v)]) = kl6 pre ++ [v] := by simp [kl6]
end Go.Proofs.YtcedeipmboekaaaGreatDoor
