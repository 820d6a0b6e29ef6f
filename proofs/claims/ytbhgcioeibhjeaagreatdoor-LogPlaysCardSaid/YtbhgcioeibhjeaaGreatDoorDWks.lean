/-
  swingbridgelaw09.works.
-/
import Derived.Test.YtbhgcioeibhjeaaGreatDoorDRead
namespace Go.Proofs.YtbhgcioeibhjeaaGreatDoor
open Go.RowKit

/-- a disk of the law's own, some calls on -/
def Run (w W : World) (p : Nat) (D : Dk) : Prop := ∃ Φ, DkAt w.heap.size W Φ p D ∧ Below w.heap.size w W ∧ D.Inv
theorem Run.below {w W W' : World} {p : Nat} {D : Dk} (h : Run w W p D) (hb : Below W.heap.size W W') : Run w W' p D := by
  obtain ⟨Φ, h1, h2, h3⟩ := h
  exact ⟨Φ, h1.below hb, h2.trans (hb.mono h2.size), h3⟩
theorem Run.turn {w W W' : World} {Φ Φ' : Nat → Prop} {p : Nat} {D D' : Dk} (h : DkAt w.heap.size W Φ p D) (hb : Below w.heap.size w W) (h' : DkAt w.heap.size W' Φ' p D') (ht : TurnD W W' Φ Φ') (hi : D'.Inv) : Run w W' p D' :=
  ⟨Φ', h', hb.trans (ht.below (fun k hk => by obtain ⟨_, _, _, _, _, _, h⟩ := h; exact (h.lt k hk).1) hb.size), hi⟩
theorem Run.et {w W : World} {p : Nat} {D : Dk} (h : Run w W p D) (hET : HasET w) : HasET W := by
  obtain ⟨_, _, hb, _⟩ := h
  exact hET.below hb hET.lt
theorem run_new (room : Nat) (w : World) (h0 : 1 ≤ room) (h1 : room ≤ 16777216) : Calls Tryz.prog 7 #[.int .i64 room] w fun e w' => ∃ p, e = .returned (.tuple #[.pointer (some ⟨p, 0, none⟩), .int .i64 0]) ∧ Run w w' p (newD room) := by
  refine (New_ok room w h0 h1).mono ?_
  rintro e w' ⟨e0, h2, h3⟩
  refine ⟨_, e0, _, h2, h3, ⟨h1, rfl, fun k => ?_, fun k t ht => (by have ht' : ([] : List Th)[k]? = some t := ht; simp at ht'), Nat.zero_le _⟩⟩
  show sumF (doAll noF ([].take k)) ≤ room
  rw [List.take_nil]
  have : sumF (doAll noF []) = 0 := by decide
  omega
theorem run_app {w W : World} {p : Nat} {D : Dk} (h : Run w W p D) (hET : HasET w) (hfew : D.L.length < 900) (f : Int) (vb : Value) (l : List UInt8) (hb : BtAt W vb l) :
    Calls Tryz.prog 14 #[.pointer (some ⟨p, 0, none⟩), .int .i64 f, vb] W fun e W' => e = .returned (.int .i64 (appE D f l.length)) ∧ Run w W' p (D.app f l) := by
  have hET2 := h.et hET
  obtain ⟨Φ, h1, h2, h3⟩ := h
  refine (Append_any h1 h2.size h3 hfew hET2 f vb l hb).mono ?_
  rintro e w' ⟨e0, Φ', h4, h5⟩
  exact ⟨e0, Run.turn h1 h2 h4 h5 (h3.app f l hfew)⟩
theorem run_cut {w W : World} {p : Nat} {D : Dk} (h : Run w W p D) (hET : HasET w) (hfew : D.L.length < 900) (f m : Int) :
    Calls Tryz.prog 30 #[.pointer (some ⟨p, 0, none⟩), .int .i64 f, .int .i64 m] W fun e W' => e = .returned (.int .i64 (cutE D f m)) ∧ Run w W' p (D.cutd f m) := by
  have hET2 := h.et hET
  obtain ⟨Φ, h1, h2, h3⟩ := h
  refine (Cut_any h1 h2.size h3 hfew hET2 f m).mono ?_
  rintro e w' ⟨e0, Φ', h4, h5⟩
  exact ⟨e0, Run.turn h1 h2 h4 h5 (h3.cutd f m hfew)⟩
theorem run_sync {w W : World} {p : Nat} {D : Dk} (h : Run w W p D) : Calls Tryz.prog 27 #[.pointer (some ⟨p, 0, none⟩)] W fun e W' => e = .returned (.int .i64 0) ∧ Run w W' p D.synced := by
  obtain ⟨Φ, h1, h2, h3⟩ := h
  refine (Sync_any h1 h2.size).mono ?_
  rintro e w' ⟨e0, Φ', h4, h5⟩
  exact ⟨e0, Run.turn h1 h2 h4 h5 h3.synced⟩
theorem run_crash {w W : World} {p : Nat} {D : Dk} (h : Run w W p D) (keep torn : Nat) (hk : keep ≤ 9223372036854775807) (ht : torn ≤ 9223372036854775807) :
    Calls Tryz.prog 28 #[.pointer (some ⟨p, 0, none⟩), .int .i64 keep, .int .i64 torn] W fun e W' => e = .returned (.int .i64 0) ∧ Run w W' p (D.crashed (min keep D.L.length) torn) := by
  obtain ⟨Φ, h1, h2, h3⟩ := h
  refine (Crash_any h1 h2.size h3 keep torn hk ht).mono ?_
  rintro e w' ⟨e0, Φ', h4, h5⟩
  exact ⟨e0, Run.turn h1 h2 h4 h5 (h3.crashed _ torn)⟩
theorem run_loose {w W : World} {p : Nat} {D : Dk} (h : Run w W p D) : Calls Tryz.prog 20 #[.pointer (some ⟨p, 0, none⟩)] W fun e W' => e = .returned (.int .i64 D.L.length) ∧ Run w W' p D := by
  obtain ⟨Φ, h1, h2, h3⟩ := id h
  refine (Loose_any h1).mono ?_
  rintro e w' ⟨e0, rfl⟩
  exact ⟨e0, h⟩
theorem run_left {w W : World} {p : Nat} {D : Dk} (h : Run w W p D) : Calls Tryz.prog 18 #[.pointer (some ⟨p, 0, none⟩)] W fun e W' => e = .returned (.int .i64 D.left) ∧ Run w W' p D := by
  obtain ⟨Φ, h1, h2, h3⟩ := id h
  refine (Left_any h1 h3).mono ?_
  rintro e w' ⟨e0, hb⟩
  exact ⟨e0, h.below hb⟩
theorem lit_cellsF (W : World) (l : List Value) (ty : TypeId) (fz : Nat × Nat) : ∀ j u, l[j]? = some u → (W.alloc (.cells l.toArray ty fz)).cell? ((⟨W.heap.size, 0, none⟩ : Addr).add j) = some u := by
  intro j u hj
  have e : ((⟨W.heap.size, 0, none⟩ : Addr).add j) = ⟨W.heap.size, j, none⟩ := by
    unfold Addr.add
    split
    · simp_all
    · simp
  rw [e]
  have hh := heap_alloc_at W (.cells l.toArray ty fz)
  simp only [World.cell?]
  rw [hh]
  simpa using hj
theorem bt_lit (W : World) (l : List UInt8) (n c : Nat) (fz : Nat × Nat) (hn : n = l.length) : BtAt (W.alloc (.cells (cB l).toArray 5 fz)) (.slice (some ⟨W.heap.size, 0, none⟩) n c) l := by
  subst hn
  refine ⟨_, c, rfl, fun j hj => ⟨_, rfl, ?_⟩⟩
  exact lit_cellsF W (cB l) 5 fz j _ (by simp [cB, hj])
def wD0 : Dk := newD 10
def wD1 : Dk := wD0.app 0 [97, 98, 99]
def wD2 : Dk := wD1.synced
def wD3 : Dk := wD2.app 0 [100, 101, 102]
def wD4 : Dk := wD3.app 1 [103, 104]
def wD5 : Dk := wD4.app 2 [120, 121, 122]
def wD6 : Dk := wD5.crashed (min 1 wD5.L.length) 1
def wD7 : Dk := wD6.cutd 0 2
def wD8 : Dk := wD7.crashed (min 0 wD7.L.length) 9
set_option maxRecDepth 100000 in
theorem w1e : appE wD0 0 3 = 0 ∧ wD0.L.length < 900 := by decide
set_option maxRecDepth 100000 in
theorem w3e : appE wD2 0 3 = 0 ∧ wD2.L.length < 900 := by decide
set_option maxRecDepth 100000 in
theorem w4e : appE wD3 1 2 = 0 ∧ wD3.L.length < 900 := by decide
set_option maxRecDepth 100000 in
theorem w4l : wD4.L.length = 2 ∧ wD4.left = 2 := by decide
set_option maxRecDepth 100000 in
theorem w5e : appE wD4 2 3 = 190 ∧ wD4.L.length < 900 := by decide
set_option maxRecDepth 100000 in
theorem w6r : readS wD6 0 = [97, 98, 99, 100, 101, 102] ∧ readS wD6 1 = [103] := by decide
set_option maxRecDepth 100000 in
theorem w7e : cutE wD6 0 2 = 0 ∧ wD6.L.length < 900 := by decide
set_option maxRecDepth 100000 in
theorem w8r : readS wD8 0 = [97, 98, 99, 100, 101, 102] := by decide
set_option maxRecDepth 100000 in
theorem w9e : cutE wD8 0 7 = 4 ∧ wD8.L.length < 900 := by decide
end Go.Proofs.YtbhgcioeibhjeaaGreatDoor
namespace Go.Proofs.YtbhgcioeibhjeaaGreatDoor
open Go.RowKit

theorem run_app_lit {w W : World} {p : Nat} {D : Dk} (h : Run w W p D) (hET : HasET w) (hfew : D.L.length < 900) (f : Int) (l : List UInt8) (n c : Nat) (hn : n = l.length) (r : Int) (hr : appE D f n = r) :
    Calls Tryz.prog 14 #[.pointer (some ⟨p, 0, none⟩), .int .i64 f, .slice (some ⟨W.heap.size, 0, none⟩) n c] (W.alloc (.cells (cB l).toArray 5 (n, n + 1))) fun e W' => e = .returned (.int .i64 r) ∧ Run w W' p (D.app f l) := by
  have h1 := run_app (h.below ((Below.refl _ W).alloc (Nat.le_refl _) _)) hET hfew f _ l (bt_lit W l n c (n, n + 1) hn)
  rw [← hn, hr] at h1
  exact h1
theorem modify_push (h : Array Obj) (o : Obj) (f : Obj → Obj) : (h.push o).modify h.size f = h.push (f o) := by
  apply Array.ext_getElem?
  intro i
  rw [Array.getElem?_modify, Array.getElem?_push, Array.getElem?_push]
  by_cases hi : i = h.size
  · subst hi
    simp
  · rw [if_neg (fun e => hi e.symm), if_neg hi, if_neg hi]
theorem freeze_alloc (W : World) (arr : Array Value) : (W.alloc (.cells arr 5)).freeze ⟨W.heap.size, arr.size, none⟩ 1 = W.alloc (.cells arr 5 (arr.size, arr.size + 1)) := by
  show ({ W.alloc (.cells arr 5) with heap := (W.heap.push (.cells arr 5)).modify W.heap.size _ } : World) = _
  rw [modify_push]
  rfl
theorem conv_lit (W : World) (arr : Array Value) (n c : Nat) : (convert 43 43 (.slice (some ⟨W.heap.size, 0, none⟩) n c)).run Tryz.prog (W.alloc (.cells arr 5)) = .ok (.slice (some ⟨W.heap.size, 0, none⟩) n c) (W.alloc (.cells arr 5 (arr.size, arr.size + 1))) := by
  have hh := heap_alloc_at W (.cells arr 5)
  have hs : (W.alloc (.cells arr 5)).shape? W.heap.size = some (5, arr.size) := by
    unfold World.shape?
    rw [hh]
  simp [convert, run_underlying Tryz.underlying43, run_underlying Tryz.underlying5, Result.andThen, markStringish, hs, freeze_alloc]
end Go.Proofs.YtbhgcioeibhjeaaGreatDoor
