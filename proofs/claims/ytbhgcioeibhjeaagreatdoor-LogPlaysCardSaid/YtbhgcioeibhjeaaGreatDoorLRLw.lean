/-
  parts that belong together.
-/
import Derived.Test.YtbhgcioeibhjeaaGreatDoorLrM
import Derived.Test.YtbhgcioeibhjeaaGreatDoorLNns
import Derived.Test.YtbhgcioeibhjeaaGreatDoorLWks
import Derived.Test.YtbhgcioeibhjeaaGreatDoorSqFs
namespace Go.Proofs.YtbhgcioeibhjeaaGreatDoor
open Go.RowKit Go.Shelf

/-- the disk of a log that is opened -/
def opD (D : Dk) (f : Nat) : Dk := if wholeN (D.F f) < (D.F f).length then D.cutd f (wholeN (D.F f) : Nat) else D
theorem cut_ok0 {D : Dk} {f : Nat} (hf : f < 64) (h : wholeN (D.F f) ≤ (D.F f).length) : cutE D f (wholeN (D.F f) : Nat) = 0 := by
  unfold cutE
  rw [if_neg (by omega), if_neg (by omega), if_neg]
  show ¬ (((D.F f).length : Nat) : Int) < _
  omega
theorem opD_F (D : Dk) (f : Nat) (hf : f < 64) : (opD D f).F f = catR (recsL (D.F f)) := by
  rw [← recsL_take]
  unfold opD
  by_cases h : wholeN (D.F f) < (D.F f).length
  · rw [if_pos h]
    unfold Dk.cutd
    rw [if_pos (cut_ok0 hf (by omega))]
    show updF D.F f ((D.F f).take (wholeN (D.F f))) f = _
    rw [updF_same]
  · rw [if_neg h, List.take_of_length_le (by omega)]
theorem opD_len (D : Dk) (f : Nat) (hf : f < 64) : ((opD D f).F f).length = wholeN (D.F f) := by rw [opD_F D f hf, recsL_len]
theorem opD_inv {D : Dk} (h : D.Inv) (hfew : D.L.length < 900) (f : Nat) : (opD D f).Inv := by
  unfold opD
  split
  · exact h.cutd _ _ hfew
  · exact h
theorem open_prog {w W : World} {p : Nat} {D : Dk} (h : Run w W p D) (hET : HasET w) (hfew : D.L.length < 900) (f : Nat) (hf : f < 64) :
    Calls Tryz.prog 8 #[.pointer (some ⟨p, 0, none⟩), .int .i64 f] W fun x W' => ∃ q, x = .returned (.tuple #[.pointer (some ⟨q, 0, none⟩), .int .i64 0]) ∧ LRun w W' q p (opD D f) f (((opD D f).F f).length : Nat) ((D.F f).length - wholeN (D.F f) : Nat) := by
  have hle := wholeN_le (D.F f)
  by_cases hlt : wholeN (D.F f) < (D.F f).length
  · refine (r_open_torn h hET hfew f hf hlt).mono ?_
    rintro x W' ⟨q, e0, h1⟩
    refine ⟨q, e0, ?_⟩
    rw [opD_len D f hf]
    unfold opD
    rw [if_pos hlt]
    exact h1
  · refine (r_open_whole h f hf (by omega)).mono ?_
    rintro x W' ⟨q, e0, h1, _⟩
    refine ⟨q, e0, ?_⟩
    rw [opD_len D f hf, show (D.F f).length - wholeN (D.F f) = 0 by omega, show wholeN (D.F f) = (D.F f).length by omega]
    unfold opD
    rw [if_neg hlt]
    exact h1
theorem open_ref {w : World} {c : Array Value} {D : Dk} (hR : RDs w c D) (hi : D.Inv) (hfew : D.L.length < 900) (f : Nat) (hf : f < 64) : Calls Tryz.prog 10 #[.agg c, .int .i64 f] w fun e w' => ∃ cl, e = .returned (.agg cl) ∧ RLg w' cl (opD D f) f ((D.F f).length - wholeN (D.F f) : Nat) ∧ Below w.heap.size w w' := by
  obtain ⟨v, hR⟩ := hR
  have hle := wholeN_le (D.F f)
  by_cases hlt : wholeN (D.F f) < (D.F f).length
  · refine (rOpen_torn hR hi f hf hfew hlt).mono ?_
    rintro x W' ⟨q, e0, h1, h2⟩
    refine ⟨q, e0, ?_, h2⟩
    unfold opD
    rw [if_pos hlt]
    exact h1
  · refine (rOpen_whole hR hi f hf (by omega)).mono ?_
    rintro x W' ⟨q, e0, h1, h2⟩
    refine ⟨q, e0, ?_, h2⟩
    rw [show (D.F f).length - wholeN (D.F f) = 0 by omega]
    unfold opD
    rw [if_neg hlt]
    exact h1
theorem RL_zero (L : List (List UInt8)) (hb : ∀ b ∈ L, b.length ≤ 60000) : RL (catR L) 0 = fromL (recsAt 0 (recsL (catR L))) ((0 : Nat) : Int) := by
  rw [RL_cat L hb, recsL_cat L hb]
  cases L with
  | nil => rfl
  | cons b L =>
    have h := fromL_hit (R := recsAt 0 (b :: L)) (p := ((0 : Nat) : Int)) (k := 0) (by rw [recs_len]; simp) (fun j hj => by omega) rfl
    rw [h, List.drop_zero]
/-- .. and they stand alike -/
theorem is_open {w W : World} {q p : Nat} {D : Dk} {f : Nat} {cl : Array Value} (h : LRun w W q p (opD D f) f (((opD D f).F f).length : Nat) ((D.F f).length - wholeN (D.F f) : Nat)) (hf : f < 64) (hR : RLg W cl (opD D f) f ((D.F f).length - wholeN (D.F f) : Nat)) (many : Int) :
    Calls Tryz.prog 13 #[.pointer (some ⟨q, 0, none⟩), .agg cl, .int .i64 0, .int .i64 many] W fun x W' => x = .returned (.bool true) ∧ Below W.heap.size W W' := by
  obtain ⟨Φ, h1, h2, h3, h4, _⟩ := h
  refine is_any h1 h3 h4 hf hR 0 (Nat.zero_le _) ?_ many
  rw [opD_F D f hf]
  exact RL_zero _ (recsL_small _)
/-- a block that holds a disk -/
def DBox (W : World) (b : Nat) (c : Array Value) : Prop := W.heap[b]? = some (.cells c 36 (0, 0))
theorem DBox.keep {W W' : World} {b : Nat} {c : Array Value} (h : DBox W b c) (hb : Below W.heap.size W W') : DBox W' b c := (hb.block b (Array.getElem?_eq_some_iff.1 h).1).trans h
theorem DBox.range {W : World} {b : Nat} {c : Array Value} (h : DBox W b c) : W.rangeAt b 0 c.toList := fun j v hv => by
  rw [Nat.zero_add]
  simp only [World.cell?]
  rw [show W.heap[b]? = _ from h]
  simpa using hv
theorem DBox.store {W : World} {b : Nat} {c d : Array Value} (h : DBox W b c) (hd : d.size = c.size) : DBox (W.setCells b 0 d.toList) b d := by
  have := setCells_heap b 36 (0, 0) d.toList 0 W c h
  rwa [setAllr_full _ _ hd] at this
theorem DBox.lt {W : World} {b : Nat} {c : Array Value} (h : DBox W b c) : b < W.heap.size := (Array.getElem?_eq_some_iff.1 h).1
/-- a disk's row lies in a block of its own type -/
theorem RDs.store {W : World} {c d z : Array Value} {D : Dk} {b : Nat} (h : RDs W c D) (hb : DBox W b z ∨ LBox W b z) : RDs (W.setCells b 0 d.toList) c D := by
  obtain ⟨v, hd⟩ := h
  refine ⟨v, hd.size, hd.one, hd.room, hd.file, hd.things, ownsRow_same hd.row (fun g hg => ?_)⟩
  obtain ⟨g', cap, cur, e0, _, g2, _⟩ := hd.row.2.resolve_left (fun h => by rw [h.1] at hg; cases hg)
  rw [e0] at hg
  simp [Value.ownBlock] at hg
  subst hg
  have n1 : g' ≠ b := fun e => by
    rcases hb with hb | hb
    · rw [e, show W.heap[b]? = _ from hb] at g2
      cases g2
    · rw [e, show W.heap[b]? = _ from hb] at g2
      cases g2
  rw [heap_setCellsr _ _ _ _ _ n1]
theorem RLg.store {W : World} {c d z : Array Value} {D : Dk} {f : Nat} {t : Int} {b : Nat} (h : RLg W c D f t) (hb : DBox W b z ∨ LBox W b z) : RLg (W.setCells b 0 d.toList) c D f t := ⟨h.size, h.one, h.disk.store hb, h.file, h.torn⟩
theorem NoLog.same {w w' : World} {pq : Option Addr} (h : NoLog w pq) (hb : ∀ k, k < w.heap.size → w'.heap[k]? = w.heap[k]?) : NoLog w' pq := by
  rcases h with h | ⟨p, e, h⟩
  · exact .inl h
  · exact .inr ⟨p, e, by rw [World.cell?_of_block (hb _ (World.block_lt_of_cell? w _ h))]; exact h⟩
theorem RL_nil : RL [] 0 = [] := by decide +kernel
/-- no log's records: none is handed on -/
theorem each_none (pq : Option Addr) (c0 c1 : Nat) (w : World) (hno : NoLog w pq) (h0 : w.cell? ⟨c0, 0, none⟩ = some (.int .i64 0)) (h1 : w.cell? ⟨c1, 0, none⟩ = some (.pointer pq)) (W : World) (hW : Below w.heap.size w W) (l : Nat) :
    Calls Tryz.prog 52 #[.func (.yield l) #[] #[], .pointer (some ⟨c0, 0, none⟩), .pointer (some ⟨c1, 0, none⟩)] W fun e W' => (∃ v, e = .returned v) ∧ Below W.heap.size W W' := by
  have h := eachL_turns 7 (by decide) c0 c1 (.pointer pq) [] 0 w h0 h1 (by simp) (Nat.zero_le _) (fun k => k < w.heap.size) (fun k hk => hk) (World.block_lt_of_cell? w _ h0) (World.block_lt_of_cell? w _ h1) (fun V _ hk => loctets_none pq V (hno.same hk))
  refine (callsIn_wide (n := 7)).1 ((h l (fun _ V => Below W.heap.size W V) (fun _ _ => False) W hW (fun s A A' h hb => h.trans hb) (fun s A A' h hb => h) (fun pre x W1 _ hsp => ?_) (Below.refl _ _)).mono ?_)
  · rw [RL_nil] at hsp
    have := hsp.length_le
    simp at this
  · rintro e W' ⟨h1, ⟨xs, _, h2⟩ | ⟨pre, _, h2⟩⟩
    · exact ⟨h1, h2⟩
    · exact h2.elim
end Go.Proofs.YtbhgcioeibhjeaaGreatDoor
