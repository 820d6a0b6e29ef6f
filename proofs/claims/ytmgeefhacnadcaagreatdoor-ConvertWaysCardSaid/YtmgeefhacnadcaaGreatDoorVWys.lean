/-
  convert.Ways: the iterators' contracts.
-/
import Derived.Test.YtmgeefhacnadcaaGreatDoorBase
import Derived.RangeFuncNested
import Derived.RangeFuncBound
import Derived.RangeFuncCalls
import Derived.RangeFuncLeaves
import Derived.Shelf.Abstract
import Derived.Shelf.RegionOpen
import Derived.OwnWalkIn
import Derived.TacticsInMore
import Derived.LoopNIn
import Derived.LoopIn
import Derived.Scope
import Derived.Test.YtmgeefhacnadcaaGreatDoorVRs
import Derived.Test.YtmgeefhacnadcaaGreatDoorVWorks
import Derived.Maps.AppendAt
import Derived.RangeFuncBox
import Derived.Deep.OwnRows
namespace Go.Proofs.YtmgeefhacnadcaaGreatDoor
open Go.RowKit

/-- from block B on, and where G holds, the blocks lie as they lay -/
structure Keep (B : Nat) (G : Nat → Prop) (W W' : World) : Prop where
  size : W.heap.size ≤ W'.heap.size
  same : ∀ k, k < W.heap.size → (B ≤ k ∨ G k) → W'.heap[k]? = W.heap[k]?
theorem Keep.refl (B : Nat) (G : Nat → Prop) (W : World) : Keep B G W W := ⟨Nat.le_refl _, fun _ _ _ => rfl⟩
theorem Keep.trans {B : Nat} {G : Nat → Prop} {X Y Z : World} (h : Keep B G X Y) (k : Keep B G Y Z) : Keep B G X Z :=
  ⟨Nat.le_trans h.size k.size, fun i hi hG => (k.same i (Nat.lt_of_lt_of_le hi h.size) hG).trans (h.same i hi hG)⟩
theorem Keep.setCell {B : Nat} {G : Nat → Prop} {X Y : World} (h : Keep B G X Y) {p : Addr} (hp : p.block < B) (hG : ¬ G p.block) (u : Value) : Keep B G X (Y.setCell p u) :=
  h.trans ⟨by simp [World.setCell], fun k _ hk => Below.heap_setCell _ _ _ _ (fun e => by subst e; rcases hk with hk | hk; omega; exact hG hk)⟩
theorem Keep.alloc {B : Nat} {G : Nat → Prop} {X Y : World} (h : Keep B G X Y) (o : Obj) : Keep B G X (Y.alloc o) :=
  h.trans ⟨by simp, fun k hk _ => Below.heap_alloc _ _ _ hk⟩

/-- what is said of the world stays where blocks from B on turn -/
def Firm {β : Type} (B : Nat) (J : β → World → Prop) : Prop := ∀ s A A', J s A → Below B A A' → J s A'

/-- THE ITERATOR's CONTRACT -/
def SeqTurns {α : Type} (F : Fence) (n : Nat) (P : Program) (g : Nat) (lb : Array Value) (encs : α → Array Value) (G : Nat → Prop) (S Sp : List α → Prop) (w : World) : Prop :=
  ∀ (l : Nat) (J Jx : List α → World → Prop) (W : World), Below w.heap.size w W → Firm W.heap.size J → Firm W.heap.size Jx →
    (∀ pre x W1, J pre W1 → Sp (pre ++ [x]) → W.heap.size ≤ W1.heap.size → YieldAt F (n - 1) P l (encs x) W1 fun e W' =>
      (e = .returned (.bool true) ∧ J (pre ++ [x]) W' ∧ Keep W.heap.size G W1 W') ∨ (e = .returned (.bool false) ∧ Jx (pre ++ [x]) W' ∧ Keep W.heap.size G W1 W')) →
    J [] W →
    CallsIn F n P g (#[.func (.yield l) #[] #[]] ++ lb) W fun e W' => (∃ v, e = .returned v) ∧ ((∃ xs, S xs ∧ J xs W') ∨ (∃ pre, Sp pre ∧ Jx pre W'))

/-- how a round's body may be left -/
def turnPost {α : Type} (B : Nat) (G : Nat → Prop) (I : List α → World → Prop) (Ix : Code → List α → World → Prop) (xs : List α) (W : World) : Exit → Act → World → Prop
  | .normal, _, W' => Keep B G W W' ∧ I xs W'
  | .ret, _, W' => Keep B G W W' ∧ Ix .ret xs W'
  | .exit id, _, W' => Keep B G W W' ∧ Ix (.exit id) xs W'
  | .goto _, _, _ => False
  | .panic _, _, _ => False
  | .outgrown, _, _ => False

theorem Firm.put {β : Type} {B : Nat} {J : β → World → Prop} (h : Firm B J) {s : β} {W : World} {l : Nat} (o : Obj) (hs : J s W) (hB : B ≤ l) (_hl : l < W.heap.size) : J s (W.putObj l o) :=
  h s W _ hs ⟨rfl, rfl, rfl, by simp, fun _ hk => World.putObj_heap_other (by omega)⟩

variable {F : Fence} {n : Nat} {P : Program}
/-- THE LOOP's LAW -/
theorem wpIn_turns {α : Type} {g : Operand} {ps : Array Tmp} {assign body : Code} {Q : Exit → Act → World → Prop} {a : Act} {w : World}
    (hro : F.round = none) (h1 : 1 ≤ n) {gf : Nat} {lb : Array Value} (hg : a.eval g = .func (.func gf) #[] lb) (hFg : F.fn gf) (eg : ∀ args w, (callFunc gf args).run P w = .ok (.enter gf args) w)
    {encs : α → Array Value} {G : Nat → Prop} {S Sp : List α → Prop} (hseq : SeqTurns F (n - 1) P gf lb encs G S Sp w) (hG : ∀ k, G k → k < w.heap.size) (hps : ∀ x, (encs x).size = ps.size)
    (I : List α → World → Prop) (Ix : Code → List α → World → Prop) (hI : Firm w.heap.size I) (hIx : ∀ c, Firm w.heap.size (Ix c)) (h0 : I [] w) (a₁ : α → Act)
    (hassign : ∀ (l : Nat) (x : α) (W : World) (K : Act → World → Prop), K (a₁ x) W →
      assign.wpIn (F.inRound l) (n - 1 - 1) P (Exit.then K (fun _ _ _ => False)) { tmps := (ps.zip (encs x)).foldl (fun t (p, v) => t.setIfInBounds p v) a.tmps, defers := [] } W)
    (hbody : ∀ (l : Nat) (pre : List α) (x : α) (W : World), I pre W → Sp (pre ++ [x]) → w.heap.size + 2 ≤ W.heap.size → body.wpIn (F.inRound l) (n - 1 - 1) P (turnPost w.heap.size G I Ix (pre ++ [x]) W) (a₁ x) W)
    (hdone : ∀ (xs : List α) (W : World), S xs → I xs W → W.heap[w.heap.size]? = some (.deferred (some [])) → Q .normal { a with defers := { target := .collected w.heap.size, args := #[] } :: a.defers } W)
    (hstop : ∀ (c : Code) (pre : List α) (W : World), Sp pre → Ix c pre W → W.heap[w.heap.size]? = some (.deferred (some [])) → c.wpIn F n P Q { a with defers := { target := .collected w.heap.size, args := #[] } :: a.defers } W) :
    (Code.rangeFunc g ps assign body).wpIn F n P Q a w := by
  refine wpIn_rangeFunc fun fn hfn => ?_
  rw [hro]
  obtain ⟨B, hB⟩ : ∃ B, w.heap.size = B := ⟨_, rfl⟩
  rw [hB] at hI hIx hbody hdone hstop
  obtain ⟨rec, hrec⟩ : ∃ rec : LoopState → Option Code → Obj, rec = fun st pe => .loop { state := st, pending := pe, fn, tmps := a.tmps, params := ps, assign, body, defers := B } := ⟨_, rfl⟩
  obtain ⟨W1, hW1⟩ : ∃ W1, (w.alloc (.deferred (some []))).alloc (rec .ready none) = W1 := ⟨_, rfl⟩
  have hsz : W1.heap.size = B + 2 := by rw [← hW1, ← hB]; simp
  have hb1 : Below B w W1 := by
    rw [← hW1]
    exact ((Below.refl _ w).alloc (by omega) _).alloc (by simp; omega) _
  have hL1 : W1.heap[B + 1]? = some (rec .ready none) := by
    rw [← hW1, ← hB]
    have := World.alloc_heap_new (w.alloc (.deferred (some []))) (rec .ready none)
    rwa [World.size_alloc] at this
  have hD1 : W1.heap[B]? = some (.deferred (some [])) := by
    rw [← hW1, ← hB]
    exact (Below.heap_alloc _ _ _ (by simp)).trans (World.alloc_heap_new w _)
  refine ⟨B + 1, [{ target := .collected B, args := #[] }], W1, { target := .fn (.func gf) lb, args := #[.func (.yield (B + 1)) #[] #[]] }, W1, gf, #[.func (.yield (B + 1)) #[] #[]] ++ lb, W1, ?_, ?_, ?_, ?_, fun _ => h1, ?_⟩
  · rw [← hW1, hrec, ← hB]
    exact run_enterLoop_outer _ _ _ _ _
  · simp only [resolve, hg]
    simp [go_sem]
  · intro f' hf'
    simp [Target.leads] at hf'
    exact hf' ▸ hFg
  · simp [invoke, go_sem, eg]
  refine (hseq (B + 1) (fun pre W => I pre W ∧ W.heap[B + 1]? = some (rec .ready none) ∧ W.heap[B]? = some (.deferred (some [])))
    (fun pre W => ∃ c, Ix c pre W ∧ W.heap[B + 1]? = some (rec .done (some c)) ∧ W.heap[B]? = some (.deferred (some []))) W1 (by rw [hB]; exact hb1) ?_ ?_ ?_ ⟨hI _ _ _ h0 hb1, hL1, hD1⟩).mono ?_
  · rintro s A A' ⟨hi, hl, hd⟩ hb
    rw [hsz] at hb
    exact ⟨hI _ _ _ hi (hb.mono (by omega)), (hb.block _ (by omega)).trans hl, (hb.block _ (by omega)).trans hd⟩
  · rintro s A A' ⟨c, hi, hl, hd⟩ hb
    rw [hsz] at hb
    exact ⟨c, hIx c _ _ _ hi (hb.mono (by omega)), (hb.block _ (by omega)).trans hl, (hb.block _ (by omega)).trans hd⟩
  · rintro pre x W ⟨hi, hl, hd⟩ hsp hsz2
    rw [hsz] at hsz2 ⊢
    have hl' := hl
    rw [hrec] at hl'
    have hy := run_yield (P := P) (args := encs x) hl' (hps x)
    refine ⟨fn, _, assign, body, hy, roundIn_of_wpIn hfn (hassign _ x W _ ⟨_, run_beginRound hl' rfl, ?_⟩)⟩
    have kp : ∀ (V : World) (o : Obj), B + 2 ≤ V.heap.size → Keep (B + 2) G V (V.putObj (B + 1) o) := fun V o hV =>
      ⟨by simp, fun k _ hk => World.putObj_heap_other (by rcases hk with hk | hk; omega; have := hG k hk; omega)⟩
    have mv : ∀ (V V' : World), Keep B G V V' → Keep (B + 2) G V V' := fun V V' h => ⟨h.size, fun k hk hh => h.same k hk (hh.imp_left (fun h => by omega))⟩
    have hk2 := kp W (rec .busy none) hsz2
    have hl2 : (W.putObj (B + 1) (rec .busy none)).heap[B + 1]? = some (rec .busy none) := World.putObj_heap_same (by omega)
    have hd2 : (W.putObj (B + 1) (rec .busy none)).heap[B]? = some (.deferred (some [])) := (World.putObj_heap_other (by omega)).trans hd
    have hi2 : I pre (W.putObj (B + 1) (rec .busy none)) := hI.put _ hi (by omega) (by omega)
    have hs2 : B + 2 ≤ (W.putObj (B + 1) (rec .busy none)).heap.size := by simp; omega
    rw [hrec] at hk2 hl2 hd2 hi2 hs2
    replace hs2 : B + 2 ≤ (W.putObj (B + 1) (.loop { state := .busy, pending := none, fn, tmps := a.tmps, params := ps, assign, body, defers := B })).heap.size := hs2
    refine wpIn_mono (hbody _ pre x _ hi2 hsp hs2) ?_
    have fin : ∀ (jump : Option Code) (W3 : World), Keep B G (W.putObj (B + 1) (.loop { state := .busy, pending := none, fn, tmps := a.tmps, params := ps, assign, body, defers := B })) W3 →
        (Instr.endRound (B + 1) jump).run P W3 = .ok (.bool jump.isNone) (W3.putObj (B + 1) (rec (if jump.isNone then .ready else .done) jump)) ∧ B + 2 ≤ W3.heap.size ∧
        (W3.putObj (B + 1) (rec (if jump.isNone then .ready else .done) jump)).heap[B + 1]? = some (rec (if jump.isNone then .ready else .done) jump) ∧
        (W3.putObj (B + 1) (rec (if jump.isNone then .ready else .done) jump)).heap[B]? = some (.deferred (some [])) := fun jump W3 hk3 => by
      have hl3 := (hk3.same (B + 1) (by omega) (.inl (by omega))).trans hl2
      have hd3 := (hk3.same B (by omega) (.inl (by omega))).trans hd2
      have hs3 := hk3.size
      have he := run_endRound (P := P) jump hl3
      rw [hrec]
      exact ⟨he, by omega, World.putObj_heap_same (by omega), (World.putObj_heap_other (by omega)).trans hd3⟩
    rintro e a3 W3 hp
    cases e with
    | normal =>
      obtain ⟨hk3, hi3⟩ := hp
      obtain ⟨hr, hs3, hl4, hd4⟩ := fin none W3 hk3
      exact ⟨_, _, hr, .inl ⟨rfl, ⟨hI.put _ hi3 (by omega) (by omega), hl4, hd4⟩, (hk2.trans (mv _ _ hk3)).trans (kp _ _ hs3)⟩⟩
    | ret =>
      obtain ⟨hk3, hi3⟩ := hp
      obtain ⟨hr, hs3, hl4, hd4⟩ := fin (some .ret) W3 hk3
      exact ⟨_, _, hr, .inr ⟨rfl, ⟨.ret, (hIx _).put _ hi3 (by omega) (by omega), hl4, hd4⟩, (hk2.trans (mv _ _ hk3)).trans (kp _ _ hs3)⟩⟩
    | exit id =>
      obtain ⟨hk3, hi3⟩ := hp
      obtain ⟨hr, hs3, hl4, hd4⟩ := fin (some (.exit id)) W3 hk3
      exact ⟨_, _, hr, .inr ⟨rfl, ⟨.exit id, (hIx _).put _ hi3 (by omega) (by omega), hl4, hd4⟩, (hk2.trans (mv _ _ hk3)).trans (kp _ _ hs3)⟩⟩
    | goto t => exact hp.elim
    | panic ch => exact hp.elim
    | outgrown => exact hp.elim
  · rintro e W2 ⟨⟨v, rfl⟩, (⟨xs, hS, hi, hl, hd⟩ | ⟨pre, hSp, c, hi, hl, hd⟩)⟩
    · have hlt := (Array.getElem?_eq_some_iff.1 hl).1
      rw [hrec] at hl
      exact ⟨none, _, run_endLoop (P := P) hl (by simp), hdone _ _ hS (hI.put _ hi (by omega) hlt) ((World.putObj_heap_other (by omega)).trans hd)⟩
    · have hlt := (Array.getElem?_eq_some_iff.1 hl).1
      rw [hrec] at hl
      exact ⟨some c, _, run_endLoop (P := P) hl (by simp), hstop c _ _ hSp ((hIx c).put _ hi (by omega) hlt) ((World.putObj_heap_other (by omega)).trans hd)⟩
end Go.Proofs.YtmgeefhacnadcaaGreatDoor
namespace Go.Proofs.YtmgeefhacnadcaaGreatDoor
open Go.RowKit Go.Shelf
attribute [local go_sem] Oper.semAt_some

/-- the pair of that number -/
def encP (x : Nat) : Array Value := #[.int .i64 ((x / 4 : Nat) + 1 : Int), .int .i64 ((x % 4 : Nat) + 1 : Int)]
theorem encP_at (a b : Nat) (h : b < 4) : encP (4 * a + b) = #[.int .i64 ((a : Int) + 1), .int .i64 ((b : Int) + 1)] := by
  unfold encP
  rw [show (4 * a + b) / 4 = a by omega, show (4 * a + b) % 4 = b by omega]
def SpP (pre : List Nat) : Prop := ∃ k, pre = List.range k ∧ k ≤ 16
set_option maxRecDepth 100000 in
set_option maxHeartbeats 2000000 in
theorem pairs_turns (n : Nat) (hn : 1 ≤ n) (w : World) :
    SeqTurns Fence.wide n Tryz.prog 36 #[] encP (fun _ => False) (fun xs => xs = List.range 16) SpP w := fun ll J Jx W hW hJ hJx hY h0 => by
  have HY := Lib.hid hY
  have HJ0 := Lib.hid h0
  clear hY h0 hW
  refine callsIn_of_wp Tryz.func36 rfl trivial ?_ rfl
  simp only [Tryz.ntmps36, List.size_toArray, List.length_cons, List.length_nil, Nat.reduceAdd, Nat.reduceSub, Array.replicate_succ, Array.replicate_zero, List.push_toArray, List.append_toArray, List.nil_append, List.cons_append]
  gi_wp2
  gi_loopw [2] (fun i wr => ∃ a : Nat, a ≤ 4 ∧ i = .int .i64 ((a : Int) + 1) ∧ Hid (J (List.range (4 * a)) wr) ∧ W.heap.size ≤ wr.heap.size) (fun i _ => 5 - (intOf i).toNat)
  case atStart => exact ⟨0, by omega, rfl, HJ0, Nat.le_refl _⟩
  case round =>
    obtain ⟨a, ha, rfl, HJ1, hs1⟩ := hrel
    clear HJ0
    by_cases h4 : a < 4
    · have hd : decide ((a : Int) + 1 ≤ 4) = true := decide_eq_true (by omega)
      gi_wp2
      clear hd
      gi_loopw [3] (fun i wx => ∃ b : Nat, b ≤ 4 ∧ i = .int .i64 ((b : Int) + 1) ∧ Hid (J (List.range (4 * a + b)) wx) ∧ W.heap.size ≤ wx.heap.size) (fun i _ => 5 - (intOf i).toNat)
      case atStart => exact ⟨0, by omega, rfl, HJ1, hs1⟩
      case round =>
        obtain ⟨b, hb, rfl, HJ2, hs2⟩ := hrel
        by_cases hb4 : b < 4
        · have HYk := HY.out (List.range (4 * a + b)) (4 * a + b) _ HJ2.out ⟨4 * a + b + 1, by rw [List.range_succ (n := 4 * a + b)], by omega⟩ hs2
          rw [encP_at a b hb4, ← List.range_succ (n := 4 * a + b)] at HYk
          obtain ⟨fn, tmps, assign, body, hy, hR⟩ := HYk
          gi_wp2
          refine hR.mono ?_
          rintro e w4 (⟨rfl, hJ4, hk4⟩ | ⟨rfl, hJx4, _⟩)
          · have HJ4 := Lib.hid hJ4
            have hs4 := hk4.size
            clear hJ4 hk4 hy hR
            gi_wp2
            go_roundw
            case rel => exact ⟨b + 1, by omega, by go_num, HJ4, by omega⟩
            case measure => simp [intOf]; omega
          · have HJ4 := Lib.hid hJx4
            clear hJx4 hy hR
            gi_wp2
            refine bodyPost_ret (results_none rfl _ _ _) rfl ?_
            exact ⟨⟨_, rfl⟩, .inr ⟨List.range (4 * a + b + 1), ⟨_, rfl, by omega⟩, HJ4.out⟩⟩
        · obtain rfl : b = 4 := by omega
          have HJ5 := Lib.hid (show J (List.range (4 * (a + 1))) _ from HJ2.out)
          clear HJ2
          gi_wp2
          go_roundw
          case rel => exact ⟨a + 1, by omega, by go_num, HJ5, hs2⟩
          case measure => simp [intOf]; omega
    · obtain rfl : a = 4 := by omega
      gi_wp2
      go_end0
      exact ⟨⟨_, rfl⟩, .inl ⟨_, rfl, HJ1.out⟩⟩
end Go.Proofs.YtmgeefhacnadcaaGreatDoor
namespace Go.Proofs.YtmgeefhacnadcaaGreatDoor
open Go.RowKit Go.Shelf
attribute [local go_sem] Oper.semAt_some

def isW (x : Nat) : Bool := wayB ((x / 4 : Nat) + 1 : Int) ((x % 4 : Nat) + 1 : Int)
def waysP : List Nat := (List.range 16).filter isW
theorem scope_wide {n : Nat} {P : Program} {c : Code} {Q : Exit → Act → World → Prop} {a : Act} {w : World} (h : c.wpIn Fence.wide n P (Exit.noGoto Q) a w) : (Code.scope c).wpIn Fence.wide n P Q a w :=
  wpIn_wide.2 (wp_scope_straight (wpIn_wide.1 h))
theorem round_any {P : Program} {n m l' l f : Nat} {tmps : Array Value} {assign body : Code} {w : World} {R : Ending → World → Prop} (h : RoundIn Fence.wide n P l f tmps assign body w R) : RoundIn (Fence.wide.inRound l') m P l f tmps assign body w R :=
  ⟨trivial, fun c cs _ => h.2 c cs (room_wide _)⟩
theorem snoc_range {pre : List Nat} {x k : Nat} (h : pre ++ [x] = List.range k) : pre = List.range x ∧ k = x + 1 := by
  cases k with
  | zero => simp at h
  | succ k =>
    rw [List.range_succ] at h
    obtain ⟨h1, h2⟩ := List.append_inj' h rfl
    obtain rfl : x = k := by simpa using h2
    exact ⟨h1, rfl⟩
theorem filt_next {pre : List Nat} {x : Nat} (h : isW x = true) : (pre ++ [x]).filter isW = pre.filter isW ++ [x] := by
  rw [List.filter_append]
  simp [h]
theorem filt_skip {pre : List Nat} {x : Nat} (h : isW x = false) : (pre ++ [x]).filter isW = pre.filter isW := by
  rw [List.filter_append]
  simp [h]
theorem ways_pre {x : Nat} (hx : x < 16) : (List.range (x + 1)).filter isW <+: waysP := by
  have e : List.range 16 = List.range (x + 1) ++ (List.range (16 - (x + 1))).map (x + 1 + ·) := by
    rw [← List.range_add]
    congr 1
    omega
  unfold waysP
  rw [e, List.filter_append]
  exact List.prefix_append _ _
/-- what abides: the yield, the map -/
structure WI (ll B C r : Nat) (es : Array MapEntry) (cl : Nat) (W : World) : Prop where
  y : W.cell? ⟨B, 0, none⟩ = some (.func (.yield ll) #[] #[])
  m : W.cell? ⟨C, 0, none⟩ = some (.map (some r))
  t : W.heap[r]? = some (.map es cl)
theorem WI.keep {ll B C r cl N : Nat} {es : Array MapEntry} {A A' : World} (h : WI ll B C r es cl A) (hB : B < N) (hC : C < N) (hr : r < N) (hb : Below N A A') : WI ll B C r es cl A' :=
  ⟨by rw [hb.cell hB]; exact h.y, by rw [hb.cell hC]; exact h.m, by rw [hb.block _ hr]; exact h.t⟩
theorem WI.kept {ll B C r cl N : Nat} {es : Array MapEntry} {G : Nat → Prop} {A A' : World} (h : WI ll B C r es cl A) (hB : N ≤ B) (hC : N ≤ C) (hr : N ≤ r) (hk : Keep N G A A') : WI ll B C r es cl A' := by
  have lB := World.block_lt_of_cell? A _ h.y
  have lC := World.block_lt_of_cell? A _ h.m
  have lr := (Array.getElem?_eq_some_iff.1 h.t).1
  exact ⟨(World.cell?_of_block (a := ⟨B, 0, none⟩) (hk.same B lB (.inl hB))).trans h.y, (World.cell?_of_block (a := ⟨C, 0, none⟩) (hk.same C lC (.inl hC))).trans h.m, (hk.same r lr (.inl hr)).trans h.t⟩
set_option maxRecDepth 100000 in
set_option maxHeartbeats 4000000 in
theorem ways_turns (n : Nat) (hn : 3 ≤ n) (w : World) :
    SeqTurns Fence.wide n Tryz.prog 35 #[] encP (fun _ => False) (fun xs => xs = waysP) (fun pre => pre <+: waysP) w := fun ll J Jx W hW hJ hJx hY h0 => by
  have HY := Lib.hid hY
  have HJ0 := Lib.hid (fun W' (hb : Below W.heap.size W W') => hJ [] _ _ h0 hb)
  clear hY h0 hW
  refine callsIn_of_wp_marks Tryz.func35 rfl trivial ?_ rfl
  simp only [Tryz.ntmps35, List.size_toArray, List.length_cons, List.length_nil, Nat.reduceAdd, Nat.reduceSub, Array.replicate_succ, Array.replicate_zero, List.push_toArray, List.append_toArray, List.nil_append, List.cons_append]
  gi_wp2
  refine scope_wide ?_
  refine wpIn_wide.2 ?_
  go_wp2_with fail
  refine (known_any _).mono ?_
  rintro e w3 ⟨rfl, ⟨es, cl, hm, hw⟩, hb3⟩
  go_wp2_with fail
  refine wp_label ?_
  have hr0 : (W.alloc (.cells #[.func (.yield ll) #[] #[]] 42)).heap.size = W.heap.size + 1 := by simp
  obtain ⟨W4, hW4⟩ : ∃ W4, w3.alloc (.cells #[.map (some (W.heap.size + 1))] 69) = W4 := ⟨_, rfl⟩
  have hs3 : W.heap.size + 1 < w3.heap.size := by
    rw [hr0] at hm
    exact (Array.getElem?_eq_some_iff.1 hm).1
  have hb4 : Below W.heap.size W W4 := by
    rw [← hW4]
    exact (((Below.refl W.heap.size W).alloc (Nat.le_refl _) _).trans (hb3.mono (by simp))).alloc (by omega) _
  have hz4 : W4.heap.size = w3.heap.size + 1 := by rw [← hW4]; simp
  have hwi : WI ll W.heap.size w3.heap.size (W.heap.size + 1) es cl W4 := by
    refine ⟨?_, ?_, ?_⟩
    · rw [← hW4, World.cell?_alloc_lt _ _ _ (by simp; omega), hb3.cell (by simp)]
      simp [go_sem]
    · rw [← hW4]; simp [go_sem]
    · rw [hr0] at hm
      rw [← hW4, Below.heap_alloc _ _ _ hs3]
      exact hm
  have HJ4 := Lib.hid (HJ0.out W4 hb4)
  have HWI := Lib.hid hwi
  have HW := Lib.hid hw
  rw [hW4]
  clear hb3 hm hw hwi HJ0 hW4 hr0
  go_wp2_with fail
  refine (wpIn_wide (n := n)).1 ?_
  refine wpIn_turns (F := Fence.wide) (G := fun _ => False) rfl (by omega) (gf := 36) (lb := #[]) rfl trivial (enters_of Tryz.func36 (by kernel_rfl) rfl)
    (pairs_turns (n - 1) (by omega) W4) (fun k hk => hk.elim) (fun x => rfl)
    (fun pre W' => J (pre.filter isW) W' ∧ WI ll W.heap.size w3.heap.size (W.heap.size + 1) es cl W')
    (fun c pre W' => c = .exit 0 ∧ Jx (pre.filter isW) W')
    (fun s A A' h hb => ⟨hJ _ _ _ h.1 (hb.mono (by omega)), h.2.keep (by omega) (by omega) (by omega) hb⟩)
    (fun c s A A' h hb => ⟨h.1, hJx _ _ _ h.2 (hb.mono (by omega))⟩)
    ⟨HJ4.out, HWI.out⟩
    (fun x => { tmps := #[.func (.yield ll) #[] #[], .pointer (some ⟨W.heap.size, 0, none⟩), .pointer (some ⟨w3.heap.size, 0, none⟩), .int .i64 ((x / 4 : Nat) + 1 : Int), .int .i64 ((x % 4 : Nat) + 1 : Int), undef, undef, .map (some (W.heap.size + 1)), .int .i64 ((x / 4 : Nat) + 1 : Int), .int .i64 ((x % 4 : Nat) + 1 : Int), undef, undef, undef, undef, undef, undef, undef, undef, undef, undef, undef, undef, undef, undef, undef, undef, undef], defers := [] }) ?assign ?body ?done ?stop
  case assign =>
    intro l x W1 K hK
    simp only [encP]
    gi_wp2
    exact hK
  case body =>
    rintro l pre x W1 ⟨hj, hwi⟩ ⟨k, hk, hk16⟩ hsz
    obtain ⟨rfl, rfl⟩ := snoc_range hk
    have c1 := hwi.y
    have c2 := hwi.m
    have hlB : W.heap.size < W1.heap.size := World.block_lt_of_cell? _ _ c1
    have hx : x < 16 := by omega
    have HEN := Lib.hid (show encP x = #[.int .i64 ((x / 4 : Nat) + 1 : Int), .int .i64 ((x % 4 : Nat) + 1 : Int)] from rfl)
    have HIW := Lib.hid (show isW x = wayB ((x / 4 : Nat) + 1 : Int) ((x % 4 : Nat) + 1 : Int) from rfl)
    have ha : ((x / 4 : Nat) + 1 : Int) = 1 ∨ ((x / 4 : Nat) + 1 : Int) = 2 ∨ ((x / 4 : Nat) + 1 : Int) = 3 ∨ ((x / 4 : Nat) + 1 : Int) = 4 := by omega
    have hb : ((x % 4 : Nat) + 1 : Int) = 1 ∨ ((x % 4 : Nat) + 1 : Int) = 2 ∨ ((x % 4 : Nat) + 1 : Int) = 3 ∨ ((x % 4 : Nat) + 1 : Int) = 4 := by omega
    generalize ((x / 4 : Nat) + 1 : Int) = p at *
    generalize ((x % 4 : Nat) + 1 : Int) = q at *
    cases hi : isW x
    · have hl := ways_none (ways_out (a := p) (b := q) (HIW.out.symm.trans hi)) hwi.t HW.out
      have hf := filt_skip (pre := List.range x) hi
      have HJ2 := Lib.hid (fun W' (hb : Below W1.heap.size W1 W') => hJ _ _ _ hj (hb.mono (by omega)))
      have HWI2 := Lib.hid (fun W' (hb : Below W1.heap.size W1 W') => hwi.keep (by omega) (by omega) (by omega) (hb.mono (by omega : W1.heap.size ≤ W1.heap.size)))
      rw [← hf] at HJ2
      clear hi hj hwi hk ha hb HEN HIW hf
      gi_wp2
      exact ⟨(Keep.refl _ _ _).alloc _, HJ2.out _ ((Below.refl _ _).alloc (Nat.le_refl _) _), HWI2.out _ ((Below.refl _ _).alloc (Nat.le_refl _) _)⟩
    · obtain ⟨f, g, hx2⟩ := ways_in ha hb (HIW.out.symm.trans hi)
      have hl := ways_found hx2 hwi.t HW.out
      have hf := filt_next (pre := List.range x) hi
      have HYx := Lib.hid (fun W' (hb : Below W1.heap.size W1 W') => HY.out _ x W' (hJ _ _ _ hj (hb.mono (by omega))) (by rw [← hf, ← List.range_succ]; exact ways_pre hx) (by have := hb.size; omega))
      rw [HEN.out, ← hf] at HYx
      have HWI2 := Lib.hid (fun W' (hb : Below W1.heap.size W1 W') => hwi.keep (N := W1.heap.size) (by omega) (by omega) (by omega) hb)
      obtain ⟨fn, tmps, assign, body, hy, hR⟩ := HYx.out (W1.alloc (.cells #[.func (.func f) #[] #[], .func (.func g) #[] #[]] 78)) ((Below.refl _ _).alloc (Nat.le_refl _) _)
      have hWI3 := HWI2.out (W1.alloc (.cells #[.func (.func f) #[] #[], .func (.func g) #[] #[]] 78)) ((Below.refl _ _).alloc (Nat.le_refl _) _)
      have HWI3 := Lib.hid hWI3
      clear hi hj hwi hk ha hb HEN HIW hf hx2 HY hWI3 HYx HWI2
      gi_wp2
      refine ⟨fun _ => by omega, (round_any hR).mono ?_⟩
      rintro e w4 (⟨rfl, hJ4, hk4⟩ | ⟨rfl, hJx4, hk4⟩)
      · have HR := Lib.hid (And.intro hJ4 (HWI3.out.kept (N := W.heap.size) (Nat.le_refl _) (by omega) (by omega) hk4))
        have HK := Lib.hid (show Keep W4.heap.size (fun _ => False) W1 w4 from ((Keep.refl W4.heap.size (fun _ => False) W1).alloc _).trans ⟨hk4.size, fun i hi hg => hk4.same i hi (hg.imp_left (fun h => by omega))⟩)
        clear hJ4 hk4 hy hR HWI3
        gi_wp2
        exact ⟨HK.out, HR.out.1, HR.out.2⟩
      · have HR := Lib.hid hJx4
        have HK := Lib.hid (show Keep W4.heap.size (fun _ => False) W1 w4 from ((Keep.refl W4.heap.size (fun _ => False) W1).alloc _).trans ⟨hk4.size, fun i hi hg => hk4.same i hi (hg.imp_left (fun h => by omega))⟩)
        clear hJx4 hk4 hy hR HWI3
        gi_wp2
        exact ⟨HK.out, rfl, HR.out⟩
  case done =>
    rintro xs W1 rfl ⟨hj, hwi⟩ hD
    have HJ := Lib.hid (hJ.put (.deferred none) hj (by omega : W.heap.size ≤ W4.heap.size) (Array.getElem?_eq_some_iff.1 hD).1)
    clear hj hwi
    gi_wp2
    simp only [Exit.noGoto]
    refine ⟨by simp, .inl ⟨_, _, rfl, run_takeDeferred hD, _, results_none rfl _ _ _, ⟨_, rfl⟩, .inl ⟨_, rfl, HJ.out⟩⟩⟩
  case stop =>
    rintro c pre W1 ⟨k, rfl, hk⟩ ⟨rfl, hjx⟩ hD
    have HJ := Lib.hid (hJx.put (.deferred none) hjx (by omega : W.heap.size ≤ W4.heap.size) (Array.getElem?_eq_some_iff.1 hD).1)
    clear hjx
    gi_wp2
    simp only [Exit.noGoto]
    refine ⟨by simp, .inl ⟨_, _, rfl, run_takeDeferred hD, _, results_none rfl _ _ _, ⟨_, rfl⟩, .inr ⟨_, ?_, HJ.out⟩⟩⟩
    by_cases h0 : k = 0
    · subst h0
      exact List.nil_prefix
    · obtain ⟨j, rfl⟩ : ∃ j, k = j + 1 := ⟨k - 1, by omega⟩
      exact ways_pre (by omega)
end Go.Proofs.YtmgeefhacnadcaaGreatDoor
namespace Go.Proofs.YtmgeefhacnadcaaGreatDoor
open Go.RowKit

/-- between two rounds: the number's box turns alone -/
structure EI (w W3 : World) (B13 : Nat) (m : Nat) (W : World) : Prop where
  size : W3.heap.size ≤ W.heap.size
  same : ∀ k, k < W3.heap.size → k ≠ B13 → W.heap[k]? = W3.heap[k]?
  below : Below w.heap.size w W
  at13 : W.cell? ⟨B13, 0, none⟩ = some (.int .i64 m)
  at13F : W.frozen? ⟨B13, 0, none⟩ = false
theorem EI.keep {w W3 A A' : World} {B13 m : Nat} (h : EI w W3 B13 m A) (hb : Below W3.heap.size A A') (h13 : B13 < W3.heap.size) (hw : w.heap.size ≤ W3.heap.size) : EI w W3 B13 m A' :=
  ⟨Nat.le_trans h.size hb.size, fun k hk hn => (hb.block k hk).trans (h.same k hk hn), h.below.trans (hb.mono hw), by rw [hb.cell h13]; exact h.at13, by rw [hb.frozen h13]; exact h.at13F⟩
theorem EI.set {w W3 W : World} {B13 m m' : Nat} (h : EI w W3 B13 m W) (hw : w.heap.size ≤ B13) : EI w W3 B13 m' (W.setCell ⟨B13, 0, none⟩ (.int .i64 m')) :=
  ⟨by simp [World.setCell]; exact h.size, fun k hk hn => (Below.heap_setCell _ _ _ _ (fun e => hn (by subst e; rfl))).trans (h.same k hk hn), h.below.setCell (p := ⟨B13, 0, none⟩) hw _, World.cell?_setCell_same' _ _ _ (by rw [h.at13]; rfl), by rw [World.frozen?_setCell]; exact h.at13F⟩
theorem EI.next {w W3 W : World} {B13 m : Nat} (h : EI w W3 B13 m W) (hw : w.heap.size ≤ B13) : EI w W3 B13 (m + 1) (W.setCell ⟨B13, 0, none⟩ (.int .i64 ((m : Int) + 1))) := by
  have := h.set (m' := m + 1) hw
  rwa [show (((m + 1 : Nat) : Int)) = (m : Int) + 1 by omega] at this
theorem EI.up {w w2 W3 W : World} {B13 m : Nat} (h : EI w W3 B13 m W) (h2 : Below w.heap.size w w2) (hb : Below w2.heap.size w2 W3) (h13 : w2.heap.size ≤ B13) : Below w2.heap.size w2 W :=
  ⟨h.below.os.trans h2.os.symm, h.below.tape.trans h2.tape.symm, h.below.output.trans h2.output.symm, Nat.le_trans hb.size h.size, fun k hk => (h.same k (Nat.lt_of_lt_of_le hk hb.size) (by omega)).trans (hb.block k hk)⟩
theorem EI.cell {w W3 W : World} {B13 m : Nat} (h : EI w W3 B13 m W) {p : Addr} (hp : p.block < W3.heap.size) (hn : p.block ≠ B13) : W.cell? p = W3.cell? p := World.cell?_of_block (h.same _ hp hn)
theorem EI.frozen {w W3 W : World} {B13 m : Nat} (h : EI w W3 B13 m W) {p : Addr} (hp : p.block < W3.heap.size) (hn : p.block ≠ B13) : W.frozen? p = W3.frozen? p := World.frozen?_of_block (h.same _ hp hn)
theorem add_from (g j : Nat) : (⟨g, 0, none⟩ : Addr).add j = ⟨g, j, none⟩ := by
  unfold Addr.add
  split
  · simp_all
  · simp
theorem cell_put {W : World} {a : Addr} {v : Value} {l : Nat} (h : W.cell? a = some v) {ds : Option (List Deferred)} (hl : W.heap[l]? = some (.deferred ds)) (o : Obj) : (W.putObj l o).cell? a = some v := by
  have hne : a.block ≠ l := fun e => by
    simp [World.cell?, e, hl] at h
  rw [World.cell?_of_block (World.putObj_heap_other hne)]
  exact h
theorem below_put {B : Nat} {w W : World} (hb : Below B w W) {l : Nat} (hl : B ≤ l) (o : Obj) : Below B w (W.putObj l o) :=
  ⟨hb.os, hb.tape, hb.output, by simp; exact hb.size, fun k hk => (World.putObj_heap_other (by omega)).trans (hb.block k hk)⟩
theorem pre_at {α : Type} {E pre : List α} {x : α} (h : (pre ++ [x]) <+: E) : ∃ hl : pre.length < E.length, E[pre.length] = x := by
  obtain ⟨r, rfl⟩ := h
  refine ⟨by simp, ?_⟩
  simp
theorem pre_le {α : Type} {E pre : List α} (h : pre <+: E) : pre.length ≤ E.length := by
  obtain ⟨r, rfl⟩ := h
  simp
theorem add_from2 (g j : Nat) : (⟨g, 0, none⟩ : Addr).add j = ⟨g, j, none⟩ := by
  unfold Addr.add
  split
  · simp_all
  · simp
/-- the cells of pairs -/
def pc2 (x : Nat) : List Value := [.int .i64 ((x / 4 : Nat) + 1 : Int), .int .i64 ((x % 4 : Nat) + 1 : Int)]
def pcells (l : List Nat) : List Value := l.flatMap pc2
theorem pcells_len : ∀ l : List Nat, (pcells l).length = l.length * 2
  | [] => rfl
  | x :: l => by
    show (pc2 x ++ pcells l).length = _
    rw [List.length_append, pcells_len l, List.length_cons]
    show 2 + _ = _
    omega
theorem pcells_at : ∀ (l : List Nat) (j : Nat) (h : j < l.length) (i : Nat), i < 2 → (pcells l)[j * 2 + i]? = (pc2 l[j])[i]?
  | x :: l, 0, _, i, hi => by
    show (pc2 x ++ pcells l)[0 * 2 + i]? = (pc2 x)[i]?
    rw [List.getElem?_append_left (by show 0 * 2 + i < 2; omega), show 0 * 2 + i = i by omega]
  | x :: l, j + 1, h, i, hi => by
    show (pc2 x ++ pcells l)[(j + 1) * 2 + i]? = (pc2 (x :: l)[j + 1])[i]?
    rw [List.getElem?_append_right (by show 2 ≤ (j + 1) * 2 + i; omega), show (j + 1) * 2 + i - (pc2 x).length = j * 2 + i by show (j + 1) * 2 + i - 2 = _; omega, pcells_at l j (by simpa using h) i hi]
    rfl
theorem pcells_snoc (l : List Nat) (x : Nat) : pcells (l ++ [x]) = pcells l ++ pc2 x := by
  unfold pcells
  rw [List.flatMap_append]
  simp
theorem infoP : (Tryz.prog.info? 46).map (fun i => (i.zero, i.size, i.bytes)) = some (some (.agg #[.int .i64 0, .int .i64 0]), 2, 16) := by kernel_rfl
/-- what lies in memory while the law gathers -/
structure Sw (w : World) (many : Int) (wr : World) (c v : Value) (l : List Nat) : Prop where
  many : wr.cell? ⟨w.heap.size, 0, none⟩ = some (.int .i64 many)
  res : wr.cell? ⟨w.heap.size + 1, 0, none⟩ = some (.bool false)
  resF : wr.frozen? ⟨w.heap.size + 1, 0, none⟩ = false
  at3 : wr.cell? ⟨w.heap.size + 2, 0, none⟩ = some c
  at3F : wr.frozen? ⟨w.heap.size + 2, 0, none⟩ = false
  row : wr.ownsRow (w.heap.size + 3) 46 2 v l.length (pcells l)
  below : Below w.heap.size w wr
theorem Sw.size {w wr : World} {many : Int} {c v : Value} {l : List Nat} (h : Sw w many wr c v l) : w.heap.size + 3 ≤ wr.heap.size := by
  have h1 : w.heap.size + 2 < wr.heap.size := World.block_lt_of_cell? wr _ h.at3
  omega
theorem Sw.grown {w wr w' : World} {many : Int} {c v u : Value} {l l' : List Nat} {row : Option Nat} (h : Sw w many wr c v l) (hg : wr.grownBy w' row) (hr : ∀ k, row = some k → w.heap.size + 3 ≤ k) (k3 : w'.ownsRow (w.heap.size + 3) 46 2 u l'.length (pcells l')) : Sw w many w' c u l' := by
  have hb : ∀ j, j < 3 → w'.heap[w.heap.size + j]? = wr.heap[w.heap.size + j]? := fun j hj => hg.block _ (by have := h.size; omega) (fun e => by have := hr _ e.symm; omega)
  have cc : ∀ j, j < 3 → w'.cell? ⟨w.heap.size + j, 0, none⟩ = wr.cell? ⟨w.heap.size + j, 0, none⟩ := fun j hj => World.cell?_of_block (hb j hj)
  have ff : ∀ j, j < 3 → w'.frozen? ⟨w.heap.size + j, 0, none⟩ = wr.frozen? ⟨w.heap.size + j, 0, none⟩ := fun j hj => World.frozen?_of_block (hb j hj)
  exact ⟨(cc 0 (by omega)).trans h.many, (cc 1 (by omega)).trans h.res, (ff 1 (by omega)).trans h.resF, (cc 2 (by omega)).trans h.at3, (ff 2 (by omega)).trans h.at3F, k3,
    h.below.grown hg (by have := h.size; omega) (fun k hk => by have := hr k hk; omega)⟩
theorem Sw.alloc {w wr : World} {many : Int} {c v : Value} {l : List Nat} (h : Sw w many wr c v l) (o : Obj) : Sw w many (wr.alloc o) c v l :=
  h.grown (World.grownBy_alloc wr o none) (fun _ e => by cases e) (h.row.alloc o)
theorem Sw.put {w wr : World} {many : Int} {c v : Value} {l : List Nat} (h : Sw w many wr c v l) (u : Value) : Sw w many (wr.setCell ⟨w.heap.size + 2, 0, none⟩ u) u v l := by
  have hg := grownBy_setCell' wr (w.heap.size + 2) u
  have hb : ∀ j, j ≠ 2 → j < 3 → (wr.setCell ⟨w.heap.size + 2, 0, none⟩ u).heap[w.heap.size + j]? = wr.heap[w.heap.size + j]? := fun j hj h4 => hg.block _ (by have := h.size; omega) (fun e => by have := Option.some.inj e; simp at this; omega)
  have cc := fun j (hj : j ≠ 2) (h4 : j < 3) => World.cell?_of_block (a := ⟨w.heap.size + j, 0, none⟩) (hb j hj h4)
  have ff := fun j (hj : j ≠ 2) (h4 : j < 3) => World.frozen?_of_block (a := ⟨w.heap.size + j, 0, none⟩) (hb j hj h4)
  have ne : v.ownBlock = none ∨ v.ownBlock ≠ some (w.heap.size + 2) := by
    cases hv : v.ownBlock with
    | none => exact .inl rfl
    | some k => exact .inr (fun he => by have := (h.row.lt k hv).1; cases he; omega)
  exact ⟨(cc 0 (by omega) (by omega)).trans h.many, (cc 1 (by omega) (by omega)).trans h.res, (ff 1 (by omega) (by omega)).trans h.resF, World.cell?_setCell_same' _ _ _ (by rw [h.at3]; rfl), by rw [World.frozen?_setCell]; exact h.at3F,
    h.row.kept hg ne, h.below.setCell (p := ⟨w.heap.size + 2, 0, none⟩) (by simp) _⟩
theorem row2_cell {W : World} {B n : Nat} {v : Value} {l : List Nat} (h : W.ownsRow B 46 2 v n (pcells l)) (hl : l.length = n) (hn : 0 < n) : ∃ a c, v = .slice (some a) n c ∧ B ≤ a.block ∧ a.block < W.heap.size ∧ ∀ j (hj : j < l.length), W.cell? (a.add (j * 2)) = some (.int .i64 ((l[j] / 4 : Nat) + 1 : Int)) ∧ W.cell? ⟨(a.add (j * 2)).block, (a.add (j * 2)).off + 1, none⟩ = some (.int .i64 ((l[j] % 4 : Nat) + 1 : Int)) := by
  have h0 := h
  rcases h.2 with ⟨_, e⟩ | ⟨g, cap, cur, rfl, _⟩
  · omega
  · have hlt := h.lt g rfl
    refine ⟨_, _, rfl, hlt.1, hlt.2, fun j hj => ?_⟩
    rw [add_from2]
    have q0 := h0.cellAt (j * 2) (by omega)
    have q1 := h0.cellAt (j * 2 + 1) (by omega)
    have p0 := pcells_at l j hj 0 (by omega)
    have p1 := pcells_at l j hj 1 (by omega)
    rw [Nat.add_zero] at p0
    exact ⟨q0.trans p0, q1.trans p1⟩
theorem row2_slice {W : World} {B n : Nat} {v : Value} {xs : List Value} (h : W.ownsRow B 46 2 v n xs) : ∃ a c, v = .slice a n c := by
  rcases h.2 with ⟨e0, h0⟩ | ⟨g, cap, cur, e0, _⟩
  · exact ⟨none, 0, by rw [e0, h0]⟩
  · exact ⟨_, _, e0⟩
theorem isW_way (a b : Nat) (ha : a < 4) (hb : b < 4) : wayR ((a : Int) + 1) ((b : Int) + 1) = isW (4 * a + b) := by
  unfold isW wayR
  rw [show (4 * a + b) / 4 = a by omega, show (4 * a + b) % 4 = b by omega, decide_eq_true (by omega)]
  rfl
theorem Ways_any (w : World) : Calls Tryz.prog 17 #[] w fun e w' => e = .returned (.func (.func 35) #[] #[]) ∧ w = w' := by
  go_enter Tryz.func17, Tryz.ntmps17
  go_wp2
  go_ret
  exact ⟨rfl, rfl⟩
end Go.Proofs.YtmgeefhacnadcaaGreatDoor
