/-
  parts that belong together.
-/
import Derived.Test.YtbhgcioeibhjeaaGreatDoorDApart
import Derived.Test.YtbhgcioeibhjeaaGreatDoorDWks
import Derived.Test.YtbhgcioeibhjeaaGreatDoorDHad
namespace Go.Proofs.YtbhgcioeibhjeaaGreatDoor
open Go.RowKit

theorem eq_slT (a : Addr) (n c : Nat) (W : World) : (binOp .eql 70 (.slice (some a) n c) (.slice none 0 0)).run Tryz.prog W = .ok (.bool false) W := by kernel_rfl
theorem eq_slTN (W : World) : (binOp .eql 70 (.slice none 0 0) (.slice none 0 0)).run Tryz.prog W = .ok (.bool true) W := by kernel_rfl
theorem ownsRow_base {w : World} {N M e size n : Nat} {v : Value} {xs : List Value} (h : w.ownsRow M e size v n xs) (hb : N ≤ M) : w.ownsRow N e size v n xs := by
  refine ⟨h.1, ?_⟩
  rcases h.2 with h0 | ⟨g, cap, cur, e0, h1, h2⟩
  · exact .inl h0
  · exact .inr ⟨g, cap, cur, e0, Nat.le_trans hb h1, h2⟩
/-- what of the old disk lies in a world that came of it -/
structure Old (w W : World) (N p mf ms : Nat) (V U : Nat → Value) (lv : Value) (B : List (Th × Nat × Nat)) (D : Dk) : Prop where
  below : Below w.heap.size w W
  ff : Fs W mf V D.F
  gg : Fs W ms U D.G
  row : W.ownsRow N 95 6 lv B.length (B.flatMap fun x => thC x.1 x.2.1 x.2.2)
theorem DkW.old {N : Nat} {w W : World} {Φ : Nat → Prop} {p mf ms : Nat} {V U : Nat → Value} {lv : Value} {B : List (Th × Nat × Nat)} {D : Dk} (h : DkW N w Φ p mf ms V U lv B D) (hb : Below w.heap.size w W) : Old w W N p mf ms V U lv B D := by
  have h2 := h.keep hb.size (fun k hk => hb.block k (h.lt k hk).2)
  exact ⟨hb, h2.ff, h2.gg, h2.row⟩
/-- the new disk, put together -/
theorem DkW.copied {N : Nat} {w wa w1 wb w2 wc w3 wd : World} {Φ : Nat → Prop} {p mf ms : Nat} {V U V1 U1 : Nat → Value} {lv lv1 : Value} {B : List (Th × Nat × Nat)} {D : Dk} (h : DkW N w Φ p mf ms V U lv B D) (hN : N ≤ w.heap.size)
    (hba : Below w.heap.size w wa) (f1 : Fs w1 wa.heap.size V1 D.F) (o1 : ∀ f g, (V1 f).ownBlock = some g → wa.heap.size < g) (hb1 : Below wa.heap.size wa w1)
    (hbb : Below w1.heap.size w1 wb) (f2 : Fs w2 wb.heap.size U1 D.G) (o2 : ∀ f g, (U1 f).ownBlock = some g → wb.heap.size < g) (hb2 : Below wb.heap.size wb w2)
    (hbc : Below w2.heap.size w2 wc) (r3 : w3.ownsRow wc.heap.size 95 6 lv1 B.length (B.flatMap fun x => thC x.1 x.2.1 x.2.2)) (hb3 : Below wc.heap.size wc w3) (hbd : Below w3.heap.size w3 wd) :
    ∃ Φ', DkAt N (wd.alloc (.cells #[.map (some wa.heap.size), .map (some wb.heap.size), lv1, .int .i64 D.room] 72)) Φ' wd.heap.size D ∧ TurnD w (wd.alloc (.cells #[.map (some wa.heap.size), .map (some wb.heap.size), lv1, .int .i64 D.room] 72)) Φ Φ' := by
  obtain ⟨we, hwe⟩ : ∃ we, wd.alloc (.cells #[.map (some wa.heap.size), .map (some wb.heap.size), lv1, .int .i64 D.room] 72) = we := ⟨_, rfl⟩
  have hp : we.heap[wd.heap.size]? = some (.cells #[.map (some wa.heap.size), .map (some wb.heap.size), lv1, .int .i64 D.room] 72 (0, 0)) := by rw [← hwe]; exact heap_alloc_at wd _
  have hbe : Below wd.heap.size wd we := by rw [← hwe]; exact (Below.refl _ wd).alloc (Nat.le_refl _) _
  have hze : we.heap.size = wd.heap.size + 1 := by rw [← hwe]; simp
  rw [hwe]
  have s0 := hba.size
  have s1 := hb1.size
  have s2 := hbb.size
  have s3 := hb2.size
  have s4 := hbc.size
  have s5 := hb3.size
  have s6 := hbd.size
  have k1 : Below w1.heap.size w1 we := hbb.trans ((hb2.mono (by omega)).trans ((hbc.mono (by omega)).trans ((hb3.mono (by omega)).trans ((hbd.mono (by omega)).trans (hbe.mono (by omega))))))
  have k2 : Below w2.heap.size w2 we := hbc.trans ((hb3.mono (by omega)).trans ((hbd.mono (by omega)).trans (hbe.mono (by omega))))
  have k3 : Below w3.heap.size w3 we := hbd.trans (hbe.mono (by omega))
  have k0 : Below w.heap.size w we := hba.trans ((hb1.mono (by omega)).trans (k1.mono (by omega)))
  have m1 := f1.map.lt
  have m2 := f2.map.lt
  have v1 : ∀ f g, (V1 f).ownBlock = some g → g < w1.heap.size := fun f g hg => (f1.row f).lt g hg
  have u1 : ∀ f g, (U1 f).ownBlock = some g → g < w2.heap.size := fun f g hg => (f2.row f).lt g hg
  refine ⟨grewΦ w we Φ, ⟨wa.heap.size, wb.heap.size, V1, U1, lv1, B, ⟨hp, f1.keep (k1.block _ m1) (fun f g hg => k1.block _ (v1 f g hg)), f2.keep (k2.block _ m2) (fun f g hg => k2.block _ (u1 f g hg)), by omega, fun f f' g _ ha hb => ?_, fun f g ha hb => ?_, ownsRow_base (ownsRow_same r3 (fun g hg => k3.block _ (r3.lt g hg).2)) (by omega), fun x hx => (h.bx x hx).same (k0.block _ (h.lt _ (h.fb x hx).1).2) (k0.block _ (h.lt _ (h.fb x hx).2).2), h.lb, .inr ⟨by omega, by omega⟩, .inr ⟨by omega, by omega⟩, .inr ⟨by omega, by omega⟩, fun f g hg => .inr ?_, fun f g hg => .inr ?_, fun g hg => .inr ?_, fun x hx => ⟨.inl (h.fb x hx).1, .inl (h.fb x hx).2⟩, fun k hk => ?_⟩⟩, ⟨k0.os, k0.tape, k0.output, k0.size, fun k hk _ => k0.block k hk, fun k hk => ?_⟩⟩
  · have := v1 f g ha
    have := o2 f' g hb
    omega
  · have := v1 f g ha
    have := o2 f g hb
    omega
  · have := v1 f g hg
    have := o1 f g hg
    exact ⟨by omega, by omega⟩
  · have := u1 f g hg
    have := o2 f g hg
    exact ⟨by omega, by omega⟩
  · have := r3.lt g hg
    exact ⟨by omega, by omega⟩
  · rcases hk with hk | hk
    · exact ⟨(h.lt k hk).1, by have := (h.lt k hk).2; omega⟩
    · exact ⟨by omega, hk.2⟩
  · rcases hk with hk | hk
    · exact .inl hk
    · exact .inr hk.1
end Go.Proofs.YtbhgcioeibhjeaaGreatDoor
namespace Go.Proofs.YtbhgcioeibhjeaaGreatDoor
open Go.RowKit

theorem infoS : (Tryz.prog.info? 9).map (fun i => (i.zero, i.size, i.bytes)) = some (some (.string ⟨#[]⟩), 1, 16) := by kernel_rfl
def cS (h : List (List UInt8)) : List Value := h.map fun l => .string ⟨l.toArray⟩
theorem cS_length (h : List (List UInt8)) : (cS h).length = h.length := by simp [cS]
/-- a disk p and a row of texts hv -/
def HRun (w W : World) (p : Nat) (D : Dk) (hv : Value) (H : List (List UInt8)) : Prop :=
  ∃ Φ, DkAt w.heap.size W Φ p D ∧ Below w.heap.size w W ∧ D.Inv ∧ W.ownsRow w.heap.size 9 1 hv H.length (cS H) ∧ ∀ g, hv.ownBlock = some g → ¬ Φ g
theorem HRun.inv {w W : World} {p : Nat} {D : Dk} {hv : Value} {H : List (List UInt8)} (h : HRun w W p D hv H) : D.Inv := by
  obtain ⟨_, _, _, h, _⟩ := h
  exact h
theorem HRun.bel {w W : World} {p : Nat} {D : Dk} {hv : Value} {H : List (List UInt8)} (h : HRun w W p D hv H) : Below w.heap.size w W := by
  obtain ⟨_, _, h, _⟩ := h
  exact h
theorem HRun.below {w W W' : World} {p : Nat} {D : Dk} {hv : Value} {H : List (List UInt8)} (h : HRun w W p D hv H) (hb : Below W.heap.size W W') : HRun w W' p D hv H := by
  obtain ⟨Φ, h1, h2, h3, h4, h5⟩ := h
  exact ⟨Φ, h1.below hb, h2.trans (hb.mono h2.size), h3, ownsRow_same h4 (fun g hg => hb.block g (h4.lt g hg).2), h5⟩
theorem HRun.et {w W : World} {p : Nat} {D : Dk} {hv : Value} {H : List (List UInt8)} (h : HRun w W p D hv H) (hET : HasET w) : HasET W := hET.below h.bel hET.lt
theorem HRun.turn {w W W' : World} {Φ Φ' : Nat → Prop} {p p' : Nat} {D D' : Dk} {hv : Value} {H : List (List UInt8)} (h1 : DkAt w.heap.size W Φ p D) (h2 : Below w.heap.size w W) (h4 : W.ownsRow w.heap.size 9 1 hv H.length (cS H)) (h5 : ∀ g, hv.ownBlock = some g → ¬ Φ g)
    (h' : DkAt w.heap.size W' Φ' p' D') (ht : TurnD W W' Φ Φ') (hi : D'.Inv) : HRun w W' p' D' hv H :=
  ⟨Φ', h', h2.trans (ht.below (fun k hk => by obtain ⟨_, _, _, _, _, _, h⟩ := h1; exact (h.lt k hk).1) h2.size), hi, ownsRow_same h4 (fun g hg => ht.block g (h4.lt g hg).2 (h5 g hg)), fun g hg hp => by
    rcases ht.new g hp with h0 | h0
    · exact h5 g hg h0
    · have := (h4.lt g hg).2
      omega⟩
theorem HRun.start {w W : World} {p : Nat} {D : Dk} (h : Run w W p D) : HRun w W p D nilS [] := by
  obtain ⟨Φ, h1, h2, h3⟩ := h
  exact ⟨Φ, h1, h2, h3, World.ownsRow_nil _ _ _ _, fun _ h => by cases h⟩
theorem HRun.nil {w W : World} {p : Nat} {D : Dk} {hv : Value} {H : List (List UInt8)} (h : HRun w W p D hv H) : HRun w W p D nilS [] := by
  obtain ⟨Φ, h1, h2, h3, _⟩ := h
  exact ⟨Φ, h1, h2, h3, World.ownsRow_nil _ _ _ _, fun _ h => by cases h⟩
theorem HRun.run {w W : World} {p : Nat} {D : Dk} {hv : Value} {H : List (List UInt8)} (h : HRun w W p D hv H) : Run w W p D := by
  obtain ⟨Φ, h1, h2, h3, _⟩ := h
  exact ⟨Φ, h1, h2, h3⟩
/-- the first row: a literal of one empty text -/
theorem HRun.lit {w W : World} {p : Nat} {D : Dk} (h : Run w W p D) : HRun w (W.alloc (.cells #[.string ⟨#[]⟩] 9)) p D (.slice (some ⟨W.heap.size, 0, none⟩) 1 1) [[]] := by
  obtain ⟨Φ, h1, h2, h3⟩ := h
  have hb : Below W.heap.size W (W.alloc (.cells #[.string ⟨#[]⟩] 9)) := (Below.refl _ W).alloc (Nat.le_refl _) _
  refine ⟨Φ, h1.below hb, h2.trans (hb.mono h2.size), h3, ⟨rfl, .inr ⟨W.heap.size, 1, _, rfl, h2.size, heap_alloc_at W _, Nat.le_refl _, by unfold maxLen; omega, rfl, rfl⟩⟩, fun g hg hp => ?_⟩
  obtain ⟨_, _, _, _, _, _, h⟩ := h1
  have := (h.lt g hp).2
  simp [Value.ownBlock] at hg
  omega
/-- a text more -/
theorem HRun.app {w W W' : World} {p : Nat} {D : Dk} {hv v' : Value} {H : List (List UInt8)} {x : List UInt8} (h : HRun w W p D hv H) (hrow : W'.ownsRow w.heap.size 9 1 v' (H.length + 1) (cS H ++ [.string ⟨x.toArray⟩])) (hg : W.grownBy W' hv.ownBlock) (ho : v'.ownBlock = hv.ownBlock ∨ v'.ownBlock = some W.heap.size) : HRun w W' p D v' (H ++ [x]) := by
  obtain ⟨Φ, h1, h2, h3, h4, h5⟩ := h
  refine ⟨Φ, ?_, h2.grown hg h2.size (fun k hk => (h4.lt k hk).1), h3, ?_, fun g hg' hp => ?_⟩
  · obtain ⟨mf, ms, V, U, lv, B, h⟩ := h1
    exact ⟨mf, ms, V, U, lv, B, h.keep hg.size (fun k hk => hg.block k (h.lt k hk).2 (fun e => h5 k e.symm hk))⟩
  · rw [List.length_append, cS, List.map_append]
    exact hrow
  · obtain ⟨_, _, _, _, _, _, h⟩ := h1
    rcases ho with ho | ho
    · exact h5 g (ho.symm.trans hg') hp
    · rw [hg'] at ho
      cases ho
      exact Nat.lt_irrefl _ (h.lt _ hp).2
theorem h_app {w W : World} {p : Nat} {D : Dk} {hv : Value} {H : List (List UInt8)} (h : HRun w W p D hv H) (hET : HasET w) (hfew : D.L.length < 900) (f : Int) (vb : Value) (l : List UInt8) (hb : BtAt W vb l) :
    Calls Tryz.prog 14 #[.pointer (some ⟨p, 0, none⟩), .int .i64 f, vb] W fun e W' => e = .returned (.int .i64 (appE D f l.length)) ∧ HRun w W' p (D.app f l) hv H := by
  have hET2 := h.et hET
  obtain ⟨Φ, h1, h2, h3, h4, h5⟩ := h
  refine (Append_any h1 h2.size h3 hfew hET2 f vb l hb).mono ?_
  rintro e w' ⟨e0, Φ', h6, h7⟩
  exact ⟨e0, HRun.turn h1 h2 h4 h5 h6 h7 (h3.app f l hfew)⟩
theorem h_cut {w W : World} {p : Nat} {D : Dk} {hv : Value} {H : List (List UInt8)} (h : HRun w W p D hv H) (hET : HasET w) (hfew : D.L.length < 900) (f m : Int) :
    Calls Tryz.prog 30 #[.pointer (some ⟨p, 0, none⟩), .int .i64 f, .int .i64 m] W fun e W' => e = .returned (.int .i64 (cutE D f m)) ∧ HRun w W' p (D.cutd f m) hv H := by
  have hET2 := h.et hET
  obtain ⟨Φ, h1, h2, h3, h4, h5⟩ := h
  refine (Cut_any h1 h2.size h3 hfew hET2 f m).mono ?_
  rintro e w' ⟨e0, Φ', h6, h7⟩
  exact ⟨e0, HRun.turn h1 h2 h4 h5 h6 h7 (h3.cutd f m hfew)⟩
theorem h_sync {w W : World} {p : Nat} {D : Dk} {hv : Value} {H : List (List UInt8)} (h : HRun w W p D hv H) : Calls Tryz.prog 27 #[.pointer (some ⟨p, 0, none⟩)] W fun e W' => e = .returned (.int .i64 0) ∧ HRun w W' p D.synced hv H := by
  obtain ⟨Φ, h1, h2, h3, h4, h5⟩ := h
  refine (Sync_any h1 h2.size).mono ?_
  rintro e w' ⟨e0, Φ', h6, h7⟩
  exact ⟨e0, HRun.turn h1 h2 h4 h5 h6 h7 h3.synced⟩
theorem h_crash {w W : World} {p : Nat} {D : Dk} {hv : Value} {H : List (List UInt8)} (h : HRun w W p D hv H) (keep torn : Nat) (hk : keep ≤ 9223372036854775807) (ht : torn ≤ 9223372036854775807) :
    Calls Tryz.prog 28 #[.pointer (some ⟨p, 0, none⟩), .int .i64 keep, .int .i64 torn] W fun e W' => e = .returned (.int .i64 0) ∧ HRun w W' p (D.crashed (min keep D.L.length) torn) hv H := by
  obtain ⟨Φ, h1, h2, h3, h4, h5⟩ := h
  refine (Crash_any h1 h2.size h3 keep torn hk ht).mono ?_
  rintro e w' ⟨e0, Φ', h6, h7⟩
  exact ⟨e0, HRun.turn h1 h2 h4 h5 h6 h7 (h3.crashed _ torn)⟩
theorem h_loose {w W : World} {p : Nat} {D : Dk} {hv : Value} {H : List (List UInt8)} (h : HRun w W p D hv H) : Calls Tryz.prog 20 #[.pointer (some ⟨p, 0, none⟩)] W fun e W' => e = .returned (.int .i64 D.L.length) ∧ HRun w W' p D hv H := by
  obtain ⟨Φ, h1, h2, h3, _⟩ := id h
  refine (Loose_any h1).mono ?_
  rintro e w' ⟨e0, rfl⟩
  exact ⟨e0, h⟩
end Go.Proofs.YtbhgcioeibhjeaaGreatDoor
