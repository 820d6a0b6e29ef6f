/-
  reading.Number, Several.
-/
import Derived.Test.YtocmjlnhcloccaaGreatDoorCRdr
import Derived.Test.YtocmjlnhcloccaaGreatDoorOctA
import Derived.Test.YtocmjlnhcloccaaGreatDoorCSchA
import Derived.Test.YtocmjlnhcloccaaGreatDoorSIts
import Derived.Test.YtocmjlnhcloccaaGreatDoorSSch
namespace Go.Proofs.YtocmjlnhcloccaaGreatDoor
open Go.RowKit

/-- a number has been read, or it gave up -/
def NumPost (w : World) (R : Nat) (r : Value) (i : Nat) (o : Option (Nat × Nat)) (e : Ending) (w' : World) : Prop :=
  match o with
  | some (n, k) => Got w R r (i + k) (.int .i64 n) e w'
  | none => Gone w R e w'
theorem u64_nat (n : Nat) (h : n ≤ 9223372036854775807) : IntKind.u64.wrap (n : Int) = (n : Int) := by simp only [IntKind.wrap_u64]; omega
theorem i64_nat (n : Nat) (h : n ≤ 9223372036854775807) : IntKind.i64.wrap (n : Int) = (n : Int) := IntWalk.i64_in _ (by omega)
set_option maxRecDepth 100000 in
set_option maxHeartbeats 1000000 in
theorem numI_yes (R : Nat) (oa : Option Addr) (cap i : Nat) (l : List UInt8) (most n k : Nat) (w : World) (hr : Rd w R (.slice oa l.length cap) i) (hb : BelowAt w R oa l) (hn : l.length ≤ 1000000) (hc : l.length ≤ cap) (hi : i ≤ l.length) (ht : readN (l.drop i) = some (n, k)) (hm : n ≤ most) (hmm : most ≤ 9223372036854775807) :
    Calls Tryz.prog 116 #[.pointer (some ⟨R, 0, none⟩), .int .i64 most] w (Got w R (.slice oa l.length cap) (i + k) (.int .i64 n)) := by
  have hk : k ≤ l.length - i := by have := (readN_lt ht).2.2.2; rwa [List.length_drop] at this
  have hki : i + k ≤ l.length := by omega
  have HR := Lib.hid hr
  have HB := Lib.hid hb
  have HC := Lib.hid (crest_any R oa l.length cap i w hr hn hc hi)
  have HT : Hid (∀ W, BytesAt W (pieceV oa i (l.length - i)) (l.drop i) → Calls Tryz.prog 147 #[pieceV oa i (l.length - i)] W fun e w' => e = .returned (.tuple #[.int .u64 n, .int .i64 k, .int .i64 0]) ∧ Below W.heap.size W w') := Lib.hid (fun W hv => by
    have := ReadNumber_any _ (l.drop i) W hv (by rw [List.length_drop]; omega)
    rwa [ht] at this)
  have e1 := u64_nat most hmm
  have e2 := i64_nat n (by omega)
  have hm2 : (n : Int) ≤ (most : Int) := by omega
  clear hr hb ht
  go_enter Tryz.func116, Tryz.ntmps116
  go_wp2_with fail
  refine HC.out.mono ?_
  rintro e w1 ⟨rfl, q, rfl⟩
  go_wp2_with fail
  refine (HT.out _ ((HB.out.grown (grown_drewN w q _)).rest hi)).mono ?_
  rintro e w2 ⟨rfl, hb2⟩
  have hr2 := HR.out.keep (below_drewN (Below.refl _ w) q)
  have hr2 := hr2.keep hb2
  have HR2 := Lib.hid hr2
  have HG := Lib.hid ((grown_drewN w q (some R)).trans (grown_below hb2 _))
  obtain ⟨c0, c1, c2⟩ := hr2
  clear hb2
  go_wp2_with fail
  go_ret
  obtain ⟨g1, g2, g3⟩ := got_set (q := 0) (k := i + k) (x := .int .i64 n) HR2.out
  exact ⟨rfl, g2, HG.out.trans g3⟩
set_option maxRecDepth 100000 in
set_option maxHeartbeats 1000000 in
theorem numI_none (R : Nat) (oa : Option Addr) (cap i : Nat) (l : List UInt8) (most : Nat) (w : World) (hr : Rd w R (.slice oa l.length cap) i) (hb : BelowAt w R oa l) (hn : l.length ≤ 1000000) (hc : l.length ≤ cap) (hi : i ≤ l.length) (ht : readN (l.drop i) = none) :
    Calls Tryz.prog 116 #[.pointer (some ⟨R, 0, none⟩), .int .i64 most] w (Gone w R) := by
  have HB := Lib.hid hb
  have HC := Lib.hid (crest_any R oa l.length cap i w hr hn hc hi)
  have HT : Hid (∀ W, BytesAt W (pieceV oa i (l.length - i)) (l.drop i) → Calls Tryz.prog 147 #[pieceV oa i (l.length - i)] W fun e w' => e = .returned (.tuple #[.int .u64 0, .int .i64 0, .int .i64 120]) ∧ Below W.heap.size W w') := Lib.hid (fun W hv => by
    have := ReadNumber_any _ (l.drop i) W hv (by rw [List.length_drop]; omega)
    rwa [ht] at this)
  clear hr hb ht
  go_enter Tryz.func116, Tryz.ntmps116
  go_wp2_with fail
  refine HC.out.mono ?_
  rintro e w1 ⟨rfl, q, rfl⟩
  go_wp2_with fail
  refine (HT.out _ ((HB.out.grown (grown_drewN w q _)).rest hi)).mono ?_
  rintro e w2 ⟨rfl, hb2⟩
  have HG := Lib.hid ((grown_drewN w q (some R)).trans (grown_below hb2 _))
  clear hb2
  go_wp2_with fail
  refine (GiveUp_any _ 120 _ (by decide)).mono ?_
  rintro e w3 ⟨⟨y, rfl, hth⟩, hbG⟩
  exact ⟨rfl, ⟨_, rfl, hth⟩, HG.out.trans (grown_below hbG _)⟩
set_option maxRecDepth 100000 in
set_option maxHeartbeats 1000000 in
theorem numI_big (R : Nat) (oa : Option Addr) (cap i : Nat) (l : List UInt8) (most n k : Nat) (w : World) (hr : Rd w R (.slice oa l.length cap) i) (hb : BelowAt w R oa l) (hn : l.length ≤ 1000000) (hc : l.length ≤ cap) (hi : i ≤ l.length) (ht : readN (l.drop i) = some (n, k)) (hm : most < n) (hmm : most ≤ 9223372036854775807) :
    Calls Tryz.prog 116 #[.pointer (some ⟨R, 0, none⟩), .int .i64 most] w (Gone w R) := by
  have HB := Lib.hid hb
  have HC := Lib.hid (crest_any R oa l.length cap i w hr hn hc hi)
  have HT : Hid (∀ W, BytesAt W (pieceV oa i (l.length - i)) (l.drop i) → Calls Tryz.prog 147 #[pieceV oa i (l.length - i)] W fun e w' => e = .returned (.tuple #[.int .u64 n, .int .i64 k, .int .i64 0]) ∧ Below W.heap.size W w') := Lib.hid (fun W hv => by
    have := ReadNumber_any _ (l.drop i) W hv (by rw [List.length_drop]; omega)
    rwa [ht] at this)
  have e1 := u64_nat most hmm
  have hm2 : (most : Int) < (n : Int) := by omega
  clear hr hb ht
  go_enter Tryz.func116, Tryz.ntmps116
  go_wp2_with fail
  refine HC.out.mono ?_
  rintro e w1 ⟨rfl, q, rfl⟩
  go_wp2_with fail
  refine (HT.out _ ((HB.out.grown (grown_drewN w q _)).rest hi)).mono ?_
  rintro e w2 ⟨rfl, hb2⟩
  have HG := Lib.hid ((grown_drewN w q (some R)).trans (grown_below hb2 _))
  clear hb2
  go_wp2_with fail
  refine (GiveUp_any _ 120 _ (by decide)).mono ?_
  rintro e w3 ⟨⟨y, rfl, hth⟩, hbG⟩
  exact ⟨rfl, ⟨_, rfl, hth⟩, HG.out.trans (grown_below hbG _)⟩
theorem numI_any (R : Nat) (oa : Option Addr) (cap i : Nat) (l : List UInt8) (most : Nat) (w : World) (hr : Rd w R (.slice oa l.length cap) i) (hb : BelowAt w R oa l) (hn : l.length ≤ 1000000) (hc : l.length ≤ cap) (hi : i ≤ l.length) (hmm : most ≤ 9223372036854775807) :
    Calls Tryz.prog 116 #[.pointer (some ⟨R, 0, none⟩), .int .i64 most] w (NumPost w R (.slice oa l.length cap) i (rdNum most (l.drop i))) := by
  unfold rdNum
  cases ht : readN (l.drop i) with
  | none => exact numI_none R oa cap i l most w hr hb hn hc hi ht
  | some x =>
    obtain ⟨n, k⟩ := x
    simp only
    by_cases hm : n ≤ most
    · rw [if_pos hm]
      exact numI_yes R oa cap i l most n k w hr hb hn hc hi ht hm hmm
    · rw [if_neg hm]
      exact numI_big R oa cap i l most n k w hr hb hn hc hi ht (by omega) hmm
set_option maxRecDepth 100000 in
set_option maxHeartbeats 1000000 in
theorem numT_yes (R : Nat) (oa : Option Addr) (cap i : Nat) (l : List UInt8) (most n k : Nat) (w : World) (hr : Rd w R (.slice oa l.length cap) i) (hb : BelowAt w R oa l) (hn : l.length ≤ 1000000) (hc : l.length ≤ cap) (hi : i ≤ l.length) (ht : readN (l.drop i) = some (n, k)) (hm : n ≤ most) (hmm : most ≤ 9223372036854775807) :
    Calls Tryz.prog 118 #[.pointer (some ⟨R, 0, none⟩), .int .i64 most] w (Got w R (.slice oa l.length cap) (i + k) (.int .i64 n)) := by
  have hk : k ≤ l.length - i := by have := (readN_lt ht).2.2.2; rwa [List.length_drop] at this
  have hki : i + k ≤ l.length := by omega
  have HR := Lib.hid hr
  have HB := Lib.hid hb
  have HC := Lib.hid (crest_any R oa l.length cap i w hr hn hc hi)
  have HT : Hid (∀ W, BytesAt W (pieceV oa i (l.length - i)) (l.drop i) → Calls Tryz.prog 147 #[pieceV oa i (l.length - i)] W fun e w' => e = .returned (.tuple #[.int .u64 n, .int .i64 k, .int .i64 0]) ∧ Below W.heap.size W w') := Lib.hid (fun W hv => by
    have := ReadNumber_any _ (l.drop i) W hv (by rw [List.length_drop]; omega)
    rwa [ht] at this)
  have e1 := u64_nat most hmm
  have e2 := i64_nat n (by omega)
  have hm2 : (n : Int) ≤ (most : Int) := by omega
  clear hr hb ht
  go_enter Tryz.func118, Tryz.ntmps118
  go_wp2_with fail
  refine HC.out.mono ?_
  rintro e w1 ⟨rfl, q, rfl⟩
  go_wp2_with fail
  refine (HT.out _ ((HB.out.grown (grown_drewN w q _)).rest hi)).mono ?_
  rintro e w2 ⟨rfl, hb2⟩
  have hr2 := HR.out.keep (below_drewN (Below.refl _ w) q)
  have hr2 := hr2.keep hb2
  have HR2 := Lib.hid hr2
  have HG := Lib.hid ((grown_drewN w q (some R)).trans (grown_below hb2 _))
  obtain ⟨c0, c1, c2⟩ := hr2
  clear hb2
  go_wp2_with fail
  go_ret
  obtain ⟨g1, g2, g3⟩ := got_set (q := 0) (k := i + k) (x := .int .i64 n) HR2.out
  exact ⟨rfl, g2, HG.out.trans g3⟩
set_option maxRecDepth 100000 in
set_option maxHeartbeats 1000000 in
theorem numT_none (R : Nat) (oa : Option Addr) (cap i : Nat) (l : List UInt8) (most : Nat) (w : World) (hr : Rd w R (.slice oa l.length cap) i) (hb : BelowAt w R oa l) (hn : l.length ≤ 1000000) (hc : l.length ≤ cap) (hi : i ≤ l.length) (ht : readN (l.drop i) = none) :
    Calls Tryz.prog 118 #[.pointer (some ⟨R, 0, none⟩), .int .i64 most] w (Gone w R) := by
  have HB := Lib.hid hb
  have HC := Lib.hid (crest_any R oa l.length cap i w hr hn hc hi)
  have HT : Hid (∀ W, BytesAt W (pieceV oa i (l.length - i)) (l.drop i) → Calls Tryz.prog 147 #[pieceV oa i (l.length - i)] W fun e w' => e = .returned (.tuple #[.int .u64 0, .int .i64 0, .int .i64 120]) ∧ Below W.heap.size W w') := Lib.hid (fun W hv => by
    have := ReadNumber_any _ (l.drop i) W hv (by rw [List.length_drop]; omega)
    rwa [ht] at this)
  clear hr hb ht
  go_enter Tryz.func118, Tryz.ntmps118
  go_wp2_with fail
  refine HC.out.mono ?_
  rintro e w1 ⟨rfl, q, rfl⟩
  go_wp2_with fail
  refine (HT.out _ ((HB.out.grown (grown_drewN w q _)).rest hi)).mono ?_
  rintro e w2 ⟨rfl, hb2⟩
  have HG := Lib.hid ((grown_drewN w q (some R)).trans (grown_below hb2 _))
  clear hb2
  go_wp2_with fail
  refine (GiveUp_any _ 120 _ (by decide)).mono ?_
  rintro e w3 ⟨⟨y, rfl, hth⟩, hbG⟩
  exact ⟨rfl, ⟨_, rfl, hth⟩, HG.out.trans (grown_below hbG _)⟩
set_option maxRecDepth 100000 in
set_option maxHeartbeats 1000000 in
theorem numT_big (R : Nat) (oa : Option Addr) (cap i : Nat) (l : List UInt8) (most n k : Nat) (w : World) (hr : Rd w R (.slice oa l.length cap) i) (hb : BelowAt w R oa l) (hn : l.length ≤ 1000000) (hc : l.length ≤ cap) (hi : i ≤ l.length) (ht : readN (l.drop i) = some (n, k)) (hm : most < n) (hmm : most ≤ 9223372036854775807) :
    Calls Tryz.prog 118 #[.pointer (some ⟨R, 0, none⟩), .int .i64 most] w (Gone w R) := by
  have HB := Lib.hid hb
  have HC := Lib.hid (crest_any R oa l.length cap i w hr hn hc hi)
  have HT : Hid (∀ W, BytesAt W (pieceV oa i (l.length - i)) (l.drop i) → Calls Tryz.prog 147 #[pieceV oa i (l.length - i)] W fun e w' => e = .returned (.tuple #[.int .u64 n, .int .i64 k, .int .i64 0]) ∧ Below W.heap.size W w') := Lib.hid (fun W hv => by
    have := ReadNumber_any _ (l.drop i) W hv (by rw [List.length_drop]; omega)
    rwa [ht] at this)
  have e1 := u64_nat most hmm
  have hm2 : (most : Int) < (n : Int) := by omega
  clear hr hb ht
  go_enter Tryz.func118, Tryz.ntmps118
  go_wp2_with fail
  refine HC.out.mono ?_
  rintro e w1 ⟨rfl, q, rfl⟩
  go_wp2_with fail
  refine (HT.out _ ((HB.out.grown (grown_drewN w q _)).rest hi)).mono ?_
  rintro e w2 ⟨rfl, hb2⟩
  have HG := Lib.hid ((grown_drewN w q (some R)).trans (grown_below hb2 _))
  clear hb2
  go_wp2_with fail
  refine (GiveUp_any _ 120 _ (by decide)).mono ?_
  rintro e w3 ⟨⟨y, rfl, hth⟩, hbG⟩
  exact ⟨rfl, ⟨_, rfl, hth⟩, HG.out.trans (grown_below hbG _)⟩
theorem numT_any (R : Nat) (oa : Option Addr) (cap i : Nat) (l : List UInt8) (most : Nat) (w : World) (hr : Rd w R (.slice oa l.length cap) i) (hb : BelowAt w R oa l) (hn : l.length ≤ 1000000) (hc : l.length ≤ cap) (hi : i ≤ l.length) (hmm : most ≤ 9223372036854775807) :
    Calls Tryz.prog 118 #[.pointer (some ⟨R, 0, none⟩), .int .i64 most] w (NumPost w R (.slice oa l.length cap) i (rdNum most (l.drop i))) := by
  unfold rdNum
  cases ht : readN (l.drop i) with
  | none => exact numT_none R oa cap i l most w hr hb hn hc hi ht
  | some x =>
    obtain ⟨n, k⟩ := x
    simp only
    by_cases hm : n ≤ most
    · rw [if_pos hm]
      exact numT_yes R oa cap i l most n k w hr hb hn hc hi ht hm hmm
    · rw [if_neg hm]
      exact numT_big R oa cap i l most n k w hr hb hn hc hi ht (by omega) hmm
end Go.Proofs.YtocmjlnhcloccaaGreatDoor
namespace Go.Proofs.YtocmjlnhcloccaaGreatDoor
open Go.RowKit

/-- of n things xs have been read, up to m -/
def MRel {α : Type} (rd : List UInt8 → Option (α × Nat)) (n : Nat) (l : List UInt8) (k : Nat) (xs : List α) (m : Nat) : Prop :=
  rdMany rd n l = match rdMany rd (n - k) (l.drop m) with
    | none => none
    | some (ys, j) => some (xs ++ ys, m + j)
theorem MRel.zero {α : Type} (rd : List UInt8 → Option (α × Nat)) (n : Nat) (l : List UInt8) : MRel rd n l 0 [] 0 := by
  unfold MRel
  rw [Nat.sub_zero, List.drop_zero]
  cases rdMany rd n l with
  | none => rfl
  | some x => obtain ⟨a, b⟩ := x; simp
theorem MRel.next {α : Type} {rd : List UInt8 → Option (α × Nat)} {n : Nat} {l : List UInt8} {k : Nat} {xs : List α} {m : Nat} {x : α} {j : Nat} (h : MRel rd n l k xs m) (hk : k < n) (hv : rd (l.drop m) = some (x, j)) : MRel rd n l (k + 1) (xs ++ [x]) (m + j) := by
  unfold MRel at *
  rw [h, show n - k = (n - (k + 1)) + 1 by omega]
  simp only [rdMany]
  rw [hv]
  simp only [List.drop_drop]
  cases rdMany rd (n - (k + 1)) (l.drop (m + j)) with
  | none => rfl
  | some y => obtain ⟨a, b⟩ := y; simp [Nat.add_assoc]
theorem MRel.bad {α : Type} {rd : List UInt8 → Option (α × Nat)} {n : Nat} {l : List UInt8} {k : Nat} {xs : List α} {m : Nat} (h : MRel rd n l k xs m) (hk : k < n) (hv : rd (l.drop m) = none) : rdMany rd n l = none := by
  unfold MRel at h
  rw [h, show n - k = (n - (k + 1)) + 1 by omega]
  simp only [rdMany]
  rw [hv]
theorem MRel.done {α : Type} {rd : List UInt8 → Option (α × Nat)} {n : Nat} {l : List UInt8} {xs : List α} {m : Nat} (h : MRel rd n l n xs m) : rdMany rd n l = some (xs, m) := by
  unfold MRel at h
  rw [h, Nat.sub_self]
  simp [rdMany]
/-- what reads takes no more than there is -/
def Le {α : Type} (rd : List UInt8 → Option (α × Nat)) : Prop := ∀ l x k, rd l = some (x, k) → k ≤ l.length
theorem Snd.le {α : Type} {rd : List UInt8 → Option (α × Nat)} {enc : α → List UInt8} (h : Snd rd enc) : Le rd := fun l x k hx => (h l x k hx).2
theorem grown_own {w W W' : World} {R : Nat} {row : Option Nat} (h : w.grownBy W (some R)) (hg : W.grownBy W' row) (hr : ∀ x, row = some x → w.heap.size ≤ x) : w.grownBy W' (some R) :=
  ⟨hg.os.trans h.os, hg.tape.trans h.tape, hg.output.trans h.output, Nat.le_trans h.size hg.size, fun k hk hn => (hg.block k (Nat.lt_of_lt_of_le hk h.size) (fun e => by have := hr k e.symm; omega)).trans (h.block k hk hn)⟩
theorem Rd.grownOwn {W W' : World} {R i : Nat} {v : Value} {row : Option Nat} (h : Rd W R v i) (hg : W.grownBy W' row) (hr : row ≠ some R) : Rd W' R v i := by
  have hl := h.lt
  exact ⟨by rw [hg.cell_far ⟨R, 0, none⟩ hl (fun e => hr e.symm)]; exact h.bytes, by rw [hg.cell_far ⟨R, 1, none⟩ hl (fun e => hr e.symm)]; exact h.pos, by rw [hg.frozen_far ⟨R, 1, none⟩ hl (fun e => hr e.symm)]; exact h.free⟩
theorem own_far {W W' : World} {B R n sz : Nat} {e : TypeId} {v : Value} {xs : List Value} (h : W.ownsRow B e sz v n xs) (hg : W.grownBy W' (some R)) (hR : R < B) : W'.ownsRow B e sz v n xs :=
  h.kept hg (by
    cases hv : v.ownBlock with
    | none => exact .inl rfl
    | some g => exact .inr (fun e => by cases e; have := (h.lt _ hv).1; omega))
theorem own_stay {W W' : World} {B n sz : Nat} {e : TypeId} {v : Value} {xs : List Value} (h : W.ownsRow B e sz v n xs) (hb : Below W.heap.size W W') : W'.ownsRow B e sz v n xs :=
  h.kept (row := none) ⟨hb.os, hb.tape, hb.output, hb.size, fun k hk _ => hb.block k hk⟩ (by cases v.ownBlock <;> simp)
theorem drop_len {l : List UInt8} {i m : Nat} (h : m ≤ (l.drop i).length) (hi : i ≤ l.length) : i + m ≤ l.length := by rw [List.length_drop] at h; omega
end Go.Proofs.YtocmjlnhcloccaaGreatDoor
namespace Go.Proofs.YtocmjlnhcloccaaGreatDoor
open Go.RowKit

theorem rdNum_bd {most : Nat} {l : List UInt8} {n k : Nat} (h : rdNum most l = some (n, k)) : n ≤ most ∧ k ≤ l.length := by
  refine ⟨?_, (snd_num most l n k h).2⟩
  unfold rdNum at h
  split at h
  · split at h
    · rename_i hu; cases h; exact hu
    · cases h
  · cases h
theorem rdSev_eq {α : Type} {most : Nat} {rd : List UInt8 → Option (α × Nat)} {l : List UInt8} {n k : Nat} (h : rdNum most l = some (n, k)) : rdSev most rd l = match rdMany rd n (l.drop k) with | none => none | some (xs, m) => some (xs, k + m) := by
  unfold rdSev
  simp only [h]
  cases rdMany rd n (l.drop k) <;> rfl
theorem rdSev_no {α : Type} {most : Nat} {rd : List UInt8 → Option (α × Nat)} {l : List UInt8} (h : rdNum most l = none) : rdSev most rd l = none := by
  unfold rdSev
  rw [h]
theorem ivs_snoc (l : List Int) (x : Int) : ivs (l ++ [x]) = ivs l ++ [.int .i64 x] := by simp [ivs]
/-- a place has been read, or it gave up -/
def ElI (w : World) (R : Nat) (r : Value) (i : Nat) (o : Option (Int × Nat)) (e : Ending) (w' : World) : Prop :=
  match o with
  | some (x, k) => Got w R r (i + k) (.int .i64 x) e w'
  | none => Gone w R e w'
set_option maxRecDepth 100000 in
set_option maxHeartbeats 1000000 in
theorem readPlace_any (R : Nat) (oa : Option Addr) (cap i : Nat) (l : List UInt8) (w : World) (hr : Rd w R (.slice oa l.length cap) i) (hb : BelowAt w R oa l) (hn : l.length ≤ 1000000) (hc : l.length ≤ cap) (hi : i ≤ l.length) :
    Calls Tryz.prog 120 #[.pointer (some ⟨R, 0, none⟩)] w (ElI w R (.slice oa l.length cap) i (rdPlace (l.drop i))) := by
  have C : Calls Tryz.prog 116 #[.pointer (some ⟨R, 0, none⟩), .int .i64 8] w _ := numI_any R oa cap i l 8 w hr hb hn hc hi (by decide)
  unfold rdPlace
  cases ho : rdNum 8 (l.drop i) with
  | none =>
    rw [ho] at C
    have HC := Lib.hid (show Calls Tryz.prog 116 #[.pointer (some ⟨R, 0, none⟩), .int .i64 8] w (Gone w R) from C)
    show Calls _ _ _ _ (Gone _ _)
    clear C hr hb ho
    go_enter Tryz.func120, Tryz.ntmps120
    go_wp2_with fail
    refine HC.out.mono ?_
    rintro e w1 ⟨⟨x, rfl, hth⟩, hg⟩
    exact ⟨rfl, ⟨_, rfl, hth⟩, hg⟩
  | some x =>
    obtain ⟨n, k⟩ := x
    rw [ho] at C
    have HC := Lib.hid (show Calls Tryz.prog 116 #[.pointer (some ⟨R, 0, none⟩), .int .i64 8] w (Got w R (.slice oa l.length cap) (i + k) (.int .i64 n)) from C)
    show Calls _ _ _ _ (Got _ _ _ _ _)
    clear C hr hb ho
    go_enter Tryz.func120, Tryz.ntmps120
    go_wp2_with fail
    refine HC.out.mono ?_
    rintro e w1 ⟨rfl, hrd, hg⟩
    have HR := Lib.hid hrd
    have HG := Lib.hid hg
    clear hrd hg
    go_wp2_with fail
    go_ret
    exact ⟨rfl, HR.out, HG.out⟩
/-- several have been read, or it gave up -/
def SevI (w : World) (R : Nat) (r : Value) (i : Nat) (o : Option (List Int × Nat)) (e : Ending) (w' : World) : Prop :=
  match o with
  | some (xs, k) => ∃ v, e = .returned v ∧ w'.ownsRow w.heap.size 3 1 v xs.length (ivs xs) ∧ Rd w' R r (i + k) ∧ w.grownBy w' (some R)
  | none => Gone w R e w'
set_option maxRecDepth 100000 in
set_option maxHeartbeats 2000000 in
theorem sevI_any (R : Nat) (oa : Option Addr) (cap i : Nat) (l : List UInt8) (most : Nat) (w : World) (hr : Rd w R (.slice oa l.length cap) i) (hb : BelowAt w R oa l) (hn : l.length ≤ 1000000) (hc : l.length ≤ cap) (hi : i ≤ l.length) (hmm : most ≤ 1000) :
    Calls Tryz.prog 119 #[.pointer (some ⟨R, 0, none⟩), .int .i64 most, .func (.func 120) #[] #[]] w (SevI w R (.slice oa l.length cap) i (rdSev most rdPlace (l.drop i))) := by
  have hR := hr.lt
  have C := numI_any R oa cap i l most w hr hb hn hc hi (by omega)
  have HEL := Lib.hid (fun W j hr hb hi => readPlace_any R oa cap j l W hr hb hn hc hi)
  have HB := Lib.hid hb
  obtain ⟨i0, hi0, hz0, hz1, hz2⟩ := info_parts infoI
  cases ho : rdNum most (l.drop i) with
  | none =>
    rw [ho] at C
    rw [rdSev_no ho]
    have HC := Lib.hid (show Calls Tryz.prog 116 #[.pointer (some ⟨R, 0, none⟩), .int .i64 most] w (Gone w R) from C)
    show Calls _ _ _ _ (Gone _ _)
    clear C hr hb ho
    go_enter Tryz.func119, Tryz.ntmps119
    go_wp2_with fail
    refine HC.out.mono ?_
    rintro e w1 ⟨⟨x, rfl, hth⟩, hg⟩
    exact ⟨rfl, ⟨_, rfl, hth⟩, hg⟩
  | some x =>
    obtain ⟨n, k0⟩ := x
    rw [ho] at C
    have hbd := rdNum_bd ho
    have hik : i + k0 ≤ l.length := drop_len hbd.2 hi
    have hnm := hbd.1
    have HS := Lib.hid (rdSev_eq (rd := rdPlace) ho)
    rw [List.drop_drop] at HS
    have HC := Lib.hid (show Calls Tryz.prog 116 #[.pointer (some ⟨R, 0, none⟩), .int .i64 most] w (Got w R (.slice oa l.length cap) (i + k0) (.int .i64 n)) from C)
    obtain ⟨O, hO⟩ : ∃ O, rdSev most rdPlace (l.drop i) = O := ⟨_, rfl⟩
    rw [hO] at HS ⊢
    clear C hr hb ho hbd hO
    go_enter Tryz.func119, Tryz.ntmps119
    go_wp2_with fail
    refine HC.out.mono ?_
    rintro e w1 ⟨rfl, hrd, hg⟩
    have HR1 := Lib.hid hrd
    have HG1 := Lib.hid hg
    clear hrd hg
    go_wp2_with fail
    go_loopw [7, 11] (fun o t wr => ∃ (k m : Nat) (xs : List Int), k ≤ n ∧ xs.length = k ∧ i + k0 + m ≤ l.length ∧ t = .int .i64 k ∧ Hid (MRel rdPlace n (l.drop (i + k0)) k xs m) ∧ Hid (wr.ownsRow w.heap.size 3 1 o k (ivs xs)) ∧ Hid (Rd wr R (.slice oa l.length cap) (i + k0 + m)) ∧ Hid (w.grownBy wr (some R))) (fun _ t _ => n - (intOf t).toNat)
    case atStart => exact ⟨0, 0, [], Nat.zero_le _, rfl, by omega, rfl, Lib.hid (MRel.zero _ _ _), Lib.hid (World.ownsRow_nil _ _ _ _), HR1, HG1⟩
    case round =>
      obtain ⟨k, m, xs, hk, hxl, him, rfl, HM, HO, HRD, HG⟩ := hrel
      by_cases hlt : k < n
      · have hk2 : (k : Int) < (n : Int) := by omega
        have CE := HEL.out wr (i + k0 + m) HRD.out (HB.out.grown HG.out) him
        cases he : rdPlace (l.drop (i + k0 + m)) with
        | none =>
          rw [he] at CE
          have HN := Lib.hid (show O = none by rw [HS.out, HM.out.bad hlt (by rw [List.drop_drop]; exact he)])
          have HCE := Lib.hid (show Calls Tryz.prog 120 #[.pointer (some ⟨R, 0, none⟩)] wr (Gone wr R) from CE)
          clear CE he
          go_wp2_with fail
          refine HCE.out.mono ?_
          rintro e w2 ⟨⟨x, rfl, hth⟩, hg⟩
          refine ⟨rfl, ?_⟩
          rw [HN.out]
          exact ⟨⟨_, rfl, hth⟩, HG.out.trans hg⟩
        | some x =>
          obtain ⟨x, j⟩ := x
          rw [he] at CE
          have hle := snd_place.le _ _ _ he
          have hij : i + k0 + (m + j) ≤ l.length := by have := drop_len hle him; omega
          have HN := Lib.hid (HM.out.next hlt (by rw [List.drop_drop]; exact he))
          have HCE := Lib.hid (show Calls Tryz.prog 120 #[.pointer (some ⟨R, 0, none⟩)] wr (Got wr R (.slice oa l.length cap) (i + k0 + m + j) (.int .i64 x)) from CE)
          clear CE he hle
          go_wp2_with fail
          refine HCE.out.mono ?_
          rintro e w2 ⟨rfl, hrd2, hg2⟩
          have HR2 := Lib.hid hrd2
          have HG2 := Lib.hid (HG.out.trans hg2)
          have HO2 := Lib.hid (own_far HO.out hg2 hR)
          have hwr : w.heap.size ≤ w2.heap.size := HG2.out.size
          clear hrd2 hg2
          go_wp2_with (first | (at_builtin; refine wpList_append_own _ rfl _ _ 23 rfl w.heap.size 3 i0 (.int .i64 0) 1 8 Tryz.underlying23 hi0 hz0 hz1 hz2 rfl (by decide) _ k (ivs xs) rfl (HO2.out.alloc _) ⟨w2.heap.size, 0, none⟩ 1 1 [.int .i64 x] rfl rfl ?e1 ?e2 ?e3 ?e4 ?e5 ?_))
          case e1 =>
            intro j' u' hj'
            match j', hj' with
            | 0, hj' => simp at hj'; subst hj'; simp [Addr.add]
          case e2 => intro u' hu'; simp at hu'; subst hu'; rfl
          case e3 => unfold maxLen; omega
          case e4 => omega
          case e5 => simp; omega
          intro v4 w4 hown4 hg4 _
          have hB4 : ∀ g, u7.ownBlock = some g → w.heap.size ≤ g := fun g e => (HO2.out.lt g e).1
          have HG4 := Lib.hid (grown_own (HG2.out.trans (World.grownBy_alloc w2 (.cells #[.int .i64 x] 3) _)) hg4 hB4)
          have HR4 := Lib.hid ((HR2.out.keep ((Below.refl _ _).alloc (Nat.le_refl _) (.cells #[.int .i64 x] 3))).grownOwn hg4 (fun e => by have := hB4 _ e; omega))
          rw [show ivs xs ++ [.int .i64 x] = ivs (xs ++ [x]) from (ivs_snoc xs x).symm] at hown4
          have HO4 := Lib.hid hown4
          clear hown4 hg4 hB4
          go_wp2_with fail
          go_roundw
          case rel => exact ⟨k + 1, m + j, xs ++ [x], by omega, by simp [hxl], hij, by go_num, HN, HO4, by rw [← Nat.add_assoc]; exact HR4, HG4⟩
          case measure => simp [intOf]; omega
      · obtain rfl : k = n := by omega
        have HN := Lib.hid (show O = some (xs, k0 + m) by rw [HS.out, HM.out.done])
        go_wp2_with fail
        go_ret
        rw [HN.out]
        exact ⟨_, rfl,  by rw [hxl]; exact HO.out, by rw [← Nat.add_assoc]; exact HRD.out, HG.out⟩
/-- places have been read, or it gave up -/
def ElL (w : World) (R : Nat) (r : Value) (i : Nat) (o : Option (List Int × Nat)) (e : Ending) (w' : World) : Prop := SevI w R r i o e w'
set_option maxRecDepth 100000 in
set_option maxHeartbeats 1000000 in
theorem readPlaces_any (R : Nat) (oa : Option Addr) (cap i : Nat) (l : List UInt8) (w : World) (hr : Rd w R (.slice oa l.length cap) i) (hb : BelowAt w R oa l) (hn : l.length ≤ 1000000) (hc : l.length ≤ cap) (hi : i ≤ l.length) :
    Calls Tryz.prog 82 #[.pointer (some ⟨R, 0, none⟩)] w (SevI w R (.slice oa l.length cap) i (rdPlaces (l.drop i))) := by
  have C : Calls Tryz.prog 119 #[.pointer (some ⟨R, 0, none⟩), .int .i64 8, .func (.func 120) #[] #[]] w _ := sevI_any R oa cap i l 8 w hr hb hn hc hi (by decide)
  unfold rdPlaces
  cases ho : rdSev 8 rdPlace (l.drop i) with
  | none =>
    rw [ho] at C
    have HC := Lib.hid (show Calls Tryz.prog 119 #[.pointer (some ⟨R, 0, none⟩), .int .i64 8, .func (.func 120) #[] #[]] w (Gone w R) from C)
    show Calls _ _ _ _ (Gone _ _)
    clear C hr hb ho
    go_enter Tryz.func82, Tryz.ntmps82
    go_wp2_with fail
    refine HC.out.mono ?_
    rintro e w1 ⟨⟨x, rfl, hth⟩, hg⟩
    exact ⟨rfl, ⟨_, rfl, hth⟩, hg⟩
  | some x =>
    obtain ⟨xs, k⟩ := x
    rw [ho] at C
    have HC := Lib.hid C
    clear C hr hb ho
    go_enter Tryz.func82, Tryz.ntmps82
    go_wp2_with fail
    refine HC.out.mono ?_
    rintro e w1 ⟨v, rfl, hx⟩
    have HX := Lib.hid hx
    clear hx
    go_wp2_with fail
    go_ret
    exact ⟨v, rfl, HX.out⟩
end Go.Proofs.YtocmjlnhcloccaaGreatDoor
namespace Go.Proofs.YtocmjlnhcloccaaGreatDoor
open Go.RowKit

/-- a text has been read, or it gave up -/
def TxtPost (w : World) (R : Nat) (r : Value) (i : Nat) (o : Option (List UInt8 × Nat)) (e : Ending) (w' : World) : Prop :=
  match o with
  | some (s, k) => Got w R r (i + k) (.string ⟨s.toArray⟩) e w'
  | none => Gone w R e w'
theorem ctext_any (R : Nat) (oa : Option Addr) (cap i : Nat) (l : List UInt8) (most : Nat) (w : World) (hr : Rd w R (.slice oa l.length cap) i) (hb : BelowAt w R oa l) (hn : l.length ≤ 1000000) (hc : l.length ≤ cap) (hi : i ≤ l.length) :
    Calls Tryz.prog 117 #[.pointer (some ⟨R, 0, none⟩), .int .i64 most] w (TxtPost w R (.slice oa l.length cap) i (rdTxt most (l.drop i))) := by
  unfold rdTxt
  cases ht : readT (l.drop i) with
  | none => exact ctext_none R oa cap i l most w hr hb hn hc hi ht
  | some x =>
    obtain ⟨s, k⟩ := x
    simp only
    by_cases hm : s.length ≤ most
    · rw [if_pos hm]
      exact ctext_yes R oa cap i l most s k w hr hb hn hc hi ht (by omega)
    · rw [if_neg hm]
      exact ctext_long R oa cap i l most s k w hr hb hn hc hi ht (by omega)
def cc4 (c : Col) : List Value := [.string c.n, .int .i64 c.t, .int .i64 c.z, .bool c.u]
def ccells (l : List Col) : List Value := l.flatMap cc4
theorem ccells_snoc (l : List Col) (c : Col) : ccells (l ++ [c]) = ccells l ++ [.string c.n, .int .i64 c.t, .int .i64 c.z, .bool c.u] := by
  unfold ccells
  rw [List.flatMap_append]
  simp [cc4]
theorem ccells_at : ∀ (l : List Col) (j : Nat) (h : j < l.length) (i : Nat), i < 4 → (ccells l)[j * 4 + i]? = (cc4 l[j])[i]?
  | x :: l, 0, _, i, hi => by
    show (cc4 x ++ ccells l)[0 * 4 + i]? = (cc4 x)[i]?
    rw [List.getElem?_append_left (by show 0 * 4 + i < 4; omega), show 0 * 4 + i = i by omega]
  | x :: l, j + 1, h, i, hi => by
    show (cc4 x ++ ccells l)[(j + 1) * 4 + i]? = (cc4 (x :: l)[j + 1])[i]?
    rw [List.getElem?_append_right (by show 4 ≤ (j + 1) * 4 + i; omega), show (j + 1) * 4 + i - (cc4 x).length = j * 4 + i by show (j + 1) * 4 + i - 4 = _; omega, ccells_at l j (by simpa using h) i hi]
    rfl
theorem own_cols {W : World} {B : Nat} {v : Value} {l : List Col} (h : W.ownsRow B 64 4 v l.length (ccells l)) : ∃ oa cap, v = .slice oa l.length cap ∧ ColsIn W oa l ∧ (∀ a, oa = some a → B ≤ a.block ∧ a.block < W.heap.size) := by
  have h0 := h
  rcases h.2 with ⟨e, hn⟩ | ⟨g, cap, cur, e, _, _, hnc, _⟩
  · exact ⟨none, 0, by rw [e, hn], fun j hj => by omega, fun a e => by cases e⟩
  · subst e
    have hlt := h.lt g rfl
    refine ⟨_, cap, rfl, fun j hj => ⟨_, rfl, ?_⟩, fun a e => by cases e; exact hlt⟩
    rw [add4]
    have q : ∀ i, i < 4 → W.cell? ⟨g, j * 4 + i, none⟩ = (cc4 l[j])[i]? := fun i hi => by
      rw [h0.cellAt (j * 4 + i) (by omega), ccells_at l j hj i hi]
    exact ⟨q 0 (by omega), q 1 (by omega), q 2 (by omega), q 3 (by omega)⟩
/-- a column has been read, or it gave up -/
def ElC (w : World) (R : Nat) (r : Value) (i : Nat) (o : Option (Col × Nat)) (e : Ending) (w' : World) : Prop :=
  match o with
  | some (c, k) => Got w R r (i + k) (.agg #[.string c.n, .int .i64 c.t, .int .i64 c.z, .bool c.u]) e w'
  | none => Gone w R e w'
/-- the result's box, and the column's -/
structure TwoC (W : World) (B : Nat) (a0 a1 a2 a3 : Value) : Prop where
  r0 : W.cell? ⟨B, 0, none⟩ = some (.string ⟨#[]⟩)
  r1 : W.cell? ⟨B, 1, none⟩ = some (.int .i64 0)
  r2 : W.cell? ⟨B, 2, none⟩ = some (.int .i64 0)
  r3 : W.cell? ⟨B, 3, none⟩ = some (.bool false)
  rf : ∀ o, W.frozen? ⟨B, o, none⟩ = false
  c0 : W.cell? ⟨B + 1, 0, none⟩ = some a0
  c1 : W.cell? ⟨B + 1, 1, none⟩ = some a1
  c2 : W.cell? ⟨B + 1, 2, none⟩ = some a2
  c3 : W.cell? ⟨B + 1, 3, none⟩ = some a3
  cf : ∀ o, W.frozen? ⟨B + 1, o, none⟩ = false
theorem TwoC.grown {W W' : World} {B R : Nat} {a0 a1 a2 a3 : Value} (h : TwoC W B a0 a1 a2 a3) (hg : W.grownBy W' (some R)) (hR : R < B) : TwoC W' B a0 a1 a2 a3 := by
  have hl := World.block_lt_of_cell? _ _ h.c0
  have hl : B + 1 < W.heap.size := hl
  have q : ∀ o, W'.cell? ⟨B, o, none⟩ = W.cell? ⟨B, o, none⟩ := fun o => hg.cell_far _ (by simp; omega) (by simp; omega)
  have q1 : ∀ o, W'.cell? ⟨B + 1, o, none⟩ = W.cell? ⟨B + 1, o, none⟩ := fun o => hg.cell_far _ (by simp; omega) (by simp; omega)
  exact ⟨by rw [q]; exact h.r0, by rw [q]; exact h.r1, by rw [q]; exact h.r2, by rw [q]; exact h.r3, fun o => by rw [hg.frozen_far _ (by simp; omega) (by simp; omega)]; exact h.rf o, by rw [q1]; exact h.c0, by rw [q1]; exact h.c1, by rw [q1]; exact h.c2, by rw [q1]; exact h.c3, fun o => by rw [hg.frozen_far _ (by simp; omega) (by simp; omega)]; exact h.cf o⟩
theorem twoC_new (w : World) : TwoC ((w.alloc (.cells #[.string ⟨#[]⟩, .int .i64 0, .int .i64 0, .bool false] 64)).alloc (.cells #[.string ⟨#[]⟩, .int .i64 0, .int .i64 0, .bool false] 64)) w.heap.size (.string ⟨#[]⟩) (.int .i64 0) (.int .i64 0) (.bool false) := by
  refine ⟨?_, ?_, ?_, ?_, fun o => ?_, ?_, ?_, ?_, ?_, fun o => ?_⟩ <;> simp [go_sem]
theorem TwoC.set0 {W : World} {B : Nat} {a0 a1 a2 a3 : Value} (h : TwoC W B a0 a1 a2 a3) (x : Value) : TwoC (W.setCell ⟨B + 1, 0, none⟩ x) B x a1 a2 a3 := by
  obtain ⟨r0, r1, r2, r3, rf, c0, c1, c2, c3, cf⟩ := h
  refine ⟨?_, ?_, ?_, ?_, fun o => ?_, ?_, ?_, ?_, ?_, fun o => ?_⟩ <;> simp [go_sem, *]
theorem TwoC.set1 {W : World} {B : Nat} {a0 a1 a2 a3 : Value} (h : TwoC W B a0 a1 a2 a3) (x : Value) : TwoC (W.setCell ⟨B + 1, 1, none⟩ x) B a0 x a2 a3 := by
  obtain ⟨r0, r1, r2, r3, rf, c0, c1, c2, c3, cf⟩ := h
  refine ⟨?_, ?_, ?_, ?_, fun o => ?_, ?_, ?_, ?_, ?_, fun o => ?_⟩ <;> simp [go_sem, *]
theorem TwoC.set2 {W : World} {B : Nat} {a0 a1 a2 a3 : Value} (h : TwoC W B a0 a1 a2 a3) (x : Value) : TwoC (W.setCell ⟨B + 1, 2, none⟩ x) B a0 a1 x a3 := by
  obtain ⟨r0, r1, r2, r3, rf, c0, c1, c2, c3, cf⟩ := h
  refine ⟨?_, ?_, ?_, ?_, fun o => ?_, ?_, ?_, ?_, ?_, fun o => ?_⟩ <;> simp [go_sem, *]
theorem TwoC.set3 {W : World} {B : Nat} {a0 a1 a2 a3 : Value} (h : TwoC W B a0 a1 a2 a3) (x : Value) : TwoC (W.setCell ⟨B + 1, 3, none⟩ x) B a0 a1 a2 x := by
  obtain ⟨r0, r1, r2, r3, rf, c0, c1, c2, c3, cf⟩ := h
  refine ⟨?_, ?_, ?_, ?_, fun o => ?_, ?_, ?_, ?_, ?_, fun o => ?_⟩ <;> simp [go_sem, *]
set_option maxRecDepth 100000 in
set_option maxHeartbeats 4000000 in
theorem readColumn_any (R : Nat) (oa : Option Addr) (cap i : Nat) (l : List UInt8) (w : World) (hr : Rd w R (.slice oa l.length cap) i) (hb : BelowAt w R oa l) (hn : l.length ≤ 1000000) (hc : l.length ≤ cap) (hi : i ≤ l.length) :
    Calls Tryz.prog 81 #[.pointer (some ⟨R, 0, none⟩)] w (ElC w R (.slice oa l.length cap) i (rdCol (l.drop i))) := by
  have hR := hr.lt
  have hRB : R ≠ w.heap.size + 1 := by omega
  have hRB0 : R ≠ w.heap.size := by omega
  have b2 : Below w.heap.size w ((w.alloc (.cells #[.string ⟨#[]⟩, .int .i64 0, .int .i64 0, .bool false] 64)).alloc (.cells #[.string ⟨#[]⟩, .int .i64 0, .int .i64 0, .bool false] 64)) := ((Below.refl _ _).alloc (Nat.le_refl _) _).alloc (by simp) _
  have HR0 := Lib.hid (hr.keep b2)
  have HBA0 := Lib.hid (hb.keep (b2.mono (by omega)))
  have HG0 := Lib.hid (grown_below b2 (some R))
  have HT0 := Lib.hid (twoC_new w)
  have HB := Lib.hid hb
  have H1 : Hid (∀ W, Rd W R (.slice oa l.length cap) i → BelowAt W R oa l → Calls Tryz.prog 117 #[.pointer (some ⟨R, 0, none⟩), .int .i64 24] W (TxtPost W R (.slice oa l.length cap) i (rdTxt 24 (l.drop i)))) := Lib.hid (fun W hr hb => ctext_any R oa cap i l 24 W hr hb hn hc hi)
  unfold rdCol
  simp only [List.drop_drop, ← Nat.add_assoc]
  clear b2 hr hb
  cases h1 : rdTxt 24 (l.drop i) with
  | none =>
    rw [h1] at H1
    replace H1 : Hid (∀ W, Rd W R (.slice oa l.length cap) (i) → BelowAt W R oa l → Calls Tryz.prog 117 #[.pointer (some ⟨R, 0, none⟩), .int .i64 24] W (Gone W R)) := H1
    show Calls _ _ _ _ (Gone _ _)
    go_enter Tryz.func81, Tryz.ntmps81
    go_wp2_with fail
    refine (H1.out _ HR0.out HBA0.out).mono ?_
    rintro e w9 ⟨⟨x, rfl, hth⟩, hg⟩
    exact ⟨rfl, ⟨_, rfl, hth⟩, HG0.out.trans hg⟩
  | some y0 =>
    obtain ⟨s, a⟩ := y0
    rw [h1] at H1
    replace H1 : Hid (∀ W, Rd W R (.slice oa l.length cap) (i) → BelowAt W R oa l → Calls Tryz.prog 117 #[.pointer (some ⟨R, 0, none⟩), .int .i64 24] W (Got W R (.slice oa l.length cap) (i + a) (.string ⟨s.toArray⟩))) := H1
    have hp0 : i + a ≤ l.length := drop_len (snd_txt 24 _ _ _ h1).2 hi
    simp only
    have H2 : Hid (∀ W, Rd W R (.slice oa l.length cap) (i + a) → BelowAt W R oa l → Calls Tryz.prog 118 #[.pointer (some ⟨R, 0, none⟩), .int .i64 4] W (NumPost W R (.slice oa l.length cap) (i + a) (rdNum 4 (l.drop (i + a))))) := Lib.hid (fun W hr hb => numT_any R oa cap (i + a) l 4 W hr hb hn hc hp0 (by decide))
    cases h2 : rdNum 4 (l.drop (i + a)) with
    | none =>
      rw [h2] at H2
      replace H2 : Hid (∀ W, Rd W R (.slice oa l.length cap) (i + a) → BelowAt W R oa l → Calls Tryz.prog 118 #[.pointer (some ⟨R, 0, none⟩), .int .i64 4] W (Gone W R)) := H2
      show Calls _ _ _ _ (Gone _ _)
      go_enter Tryz.func81, Tryz.ntmps81
      go_wp2_with fail
      refine (H1.out _ HR0.out HBA0.out).mono ?_
      rintro e v0 ⟨rfl, hrd, hg⟩
      have ht0 := HT0.out.grown hg hR
      have e0 := ht0.c0
      have f0 := ht0.cf 0
      have HR1 := Lib.hid (hrd.set (x := .string ⟨s.toArray⟩) (o := 0) hRB)
      have HT1 := Lib.hid (ht0.set0 (.string ⟨s.toArray⟩))
      have HG1 := Lib.hid (grown_set (x := .string ⟨s.toArray⟩) (B := w.heap.size + 1) (o := 0) (HG0.out.trans hg) (by omega))
      clear hrd hg ht0
      go_wp2_with fail
      refine (H2.out _ HR1.out (HB.out.grown HG1.out)).mono ?_
      rintro e w9 ⟨⟨x, rfl, hth⟩, hg⟩
      exact ⟨rfl, ⟨_, rfl, hth⟩, HG1.out.trans hg⟩
    | some y1 =>
      obtain ⟨t, b⟩ := y1
      rw [h2] at H2
      replace H2 : Hid (∀ W, Rd W R (.slice oa l.length cap) (i + a) → BelowAt W R oa l → Calls Tryz.prog 118 #[.pointer (some ⟨R, 0, none⟩), .int .i64 4] W (Got W R (.slice oa l.length cap) (i + a + b) (.int .i64 t))) := H2
      have hp1 : i + a + b ≤ l.length := drop_len (snd_num 4 _ _ _ h2).2 hp0
      simp only
      have H3 : Hid (∀ W, Rd W R (.slice oa l.length cap) (i + a + b) → BelowAt W R oa l → Calls Tryz.prog 116 #[.pointer (some ⟨R, 0, none⟩), .int .i64 200] W (NumPost W R (.slice oa l.length cap) (i + a + b) (rdNum 200 (l.drop (i + a + b))))) := Lib.hid (fun W hr hb => numI_any R oa cap (i + a + b) l 200 W hr hb hn hc hp1 (by decide))
      cases h3 : rdNum 200 (l.drop (i + a + b)) with
      | none =>
        rw [h3] at H3
        replace H3 : Hid (∀ W, Rd W R (.slice oa l.length cap) (i + a + b) → BelowAt W R oa l → Calls Tryz.prog 116 #[.pointer (some ⟨R, 0, none⟩), .int .i64 200] W (Gone W R)) := H3
        show Calls _ _ _ _ (Gone _ _)
        go_enter Tryz.func81, Tryz.ntmps81
        go_wp2_with fail
        refine (H1.out _ HR0.out HBA0.out).mono ?_
        rintro e v0 ⟨rfl, hrd, hg⟩
        have ht0 := HT0.out.grown hg hR
        have e0 := ht0.c0
        have f0 := ht0.cf 0
        have HR1 := Lib.hid (hrd.set (x := .string ⟨s.toArray⟩) (o := 0) hRB)
        have HT1 := Lib.hid (ht0.set0 (.string ⟨s.toArray⟩))
        have HG1 := Lib.hid (grown_set (x := .string ⟨s.toArray⟩) (B := w.heap.size + 1) (o := 0) (HG0.out.trans hg) (by omega))
        clear hrd hg ht0
        go_wp2_with fail
        refine (H2.out _ HR1.out (HB.out.grown HG1.out)).mono ?_
        rintro e v1 ⟨rfl, hrd, hg⟩
        have ht1 := HT1.out.grown hg hR
        have e1 := ht1.c1
        have f1 := ht1.cf 1
        have HR2 := Lib.hid (hrd.set (x := .int .i64 t) (o := 1) hRB)
        have HT2 := Lib.hid (ht1.set1 (.int .i64 t))
        have HG2 := Lib.hid (grown_set (x := .int .i64 t) (B := w.heap.size + 1) (o := 1) (HG1.out.trans hg) (by omega))
        clear hrd hg ht1
        go_wp2_with fail
        refine (H3.out _ HR2.out (HB.out.grown HG2.out)).mono ?_
        rintro e w9 ⟨⟨x, rfl, hth⟩, hg⟩
        exact ⟨rfl, ⟨_, rfl, hth⟩, HG2.out.trans hg⟩
      | some y2 =>
        obtain ⟨z, c⟩ := y2
        rw [h3] at H3
        replace H3 : Hid (∀ W, Rd W R (.slice oa l.length cap) (i + a + b) → BelowAt W R oa l → Calls Tryz.prog 116 #[.pointer (some ⟨R, 0, none⟩), .int .i64 200] W (Got W R (.slice oa l.length cap) (i + a + b + c) (.int .i64 z))) := H3
        have hp2 : i + a + b + c ≤ l.length := drop_len (snd_num 200 _ _ _ h3).2 hp1
        simp only
        have H4 : Hid (∀ W, Rd W R (.slice oa l.length cap) (i + a + b + c) → BelowAt W R oa l → Calls Tryz.prog 116 #[.pointer (some ⟨R, 0, none⟩), .int .i64 1] W (NumPost W R (.slice oa l.length cap) (i + a + b + c) (rdNum 1 (l.drop (i + a + b + c))))) := Lib.hid (fun W hr hb => numI_any R oa cap (i + a + b + c) l 1 W hr hb hn hc hp2 (by decide))
        cases h4 : rdNum 1 (l.drop (i + a + b + c)) with
        | none =>
          rw [h4] at H4
          replace H4 : Hid (∀ W, Rd W R (.slice oa l.length cap) (i + a + b + c) → BelowAt W R oa l → Calls Tryz.prog 116 #[.pointer (some ⟨R, 0, none⟩), .int .i64 1] W (Gone W R)) := H4
          show Calls _ _ _ _ (Gone _ _)
          go_enter Tryz.func81, Tryz.ntmps81
          go_wp2_with fail
          refine (H1.out _ HR0.out HBA0.out).mono ?_
          rintro e v0 ⟨rfl, hrd, hg⟩
          have ht0 := HT0.out.grown hg hR
          have e0 := ht0.c0
          have f0 := ht0.cf 0
          have HR1 := Lib.hid (hrd.set (x := .string ⟨s.toArray⟩) (o := 0) hRB)
          have HT1 := Lib.hid (ht0.set0 (.string ⟨s.toArray⟩))
          have HG1 := Lib.hid (grown_set (x := .string ⟨s.toArray⟩) (B := w.heap.size + 1) (o := 0) (HG0.out.trans hg) (by omega))
          clear hrd hg ht0
          go_wp2_with fail
          refine (H2.out _ HR1.out (HB.out.grown HG1.out)).mono ?_
          rintro e v1 ⟨rfl, hrd, hg⟩
          have ht1 := HT1.out.grown hg hR
          have e1 := ht1.c1
          have f1 := ht1.cf 1
          have HR2 := Lib.hid (hrd.set (x := .int .i64 t) (o := 1) hRB)
          have HT2 := Lib.hid (ht1.set1 (.int .i64 t))
          have HG2 := Lib.hid (grown_set (x := .int .i64 t) (B := w.heap.size + 1) (o := 1) (HG1.out.trans hg) (by omega))
          clear hrd hg ht1
          go_wp2_with fail
          refine (H3.out _ HR2.out (HB.out.grown HG2.out)).mono ?_
          rintro e v2 ⟨rfl, hrd, hg⟩
          have ht2 := HT2.out.grown hg hR
          have e2 := ht2.c2
          have f2 := ht2.cf 2
          have HR3 := Lib.hid (hrd.set (x := .int .i64 z) (o := 2) hRB)
          have HT3 := Lib.hid (ht2.set2 (.int .i64 z))
          have HG3 := Lib.hid (grown_set (x := .int .i64 z) (B := w.heap.size + 1) (o := 2) (HG2.out.trans hg) (by omega))
          clear hrd hg ht2
          go_wp2_with fail
          refine (H4.out _ HR3.out (HB.out.grown HG3.out)).mono ?_
          rintro e w9 ⟨⟨x, rfl, hth⟩, hg⟩
          exact ⟨rfl, ⟨_, rfl, hth⟩, HG3.out.trans hg⟩
        | some y3 =>
          obtain ⟨u, d⟩ := y3
          rw [h4] at H4
          replace H4 : Hid (∀ W, Rd W R (.slice oa l.length cap) (i + a + b + c) → BelowAt W R oa l → Calls Tryz.prog 116 #[.pointer (some ⟨R, 0, none⟩), .int .i64 1] W (Got W R (.slice oa l.length cap) (i + a + b + c + d) (.int .i64 u))) := H4
          have hp3 : i + a + b + c + d ≤ l.length := drop_len (snd_num 1 _ _ _ h4).2 hp2
          simp only
          show Calls _ _ _ _ (Got _ _ _ _ _)
          have hu : (Value.bool ((u : Int) == 1)) = .bool (decide (u = 1)) := by congr 1; rw [Bool.eq_iff_iff]; simp; omega
          go_enter Tryz.func81, Tryz.ntmps81
          go_wp2_with fail
          refine (H1.out _ HR0.out HBA0.out).mono ?_
          rintro e v0 ⟨rfl, hrd, hg⟩
          have ht0 := HT0.out.grown hg hR
          have e0 := ht0.c0
          have f0 := ht0.cf 0
          have HR1 := Lib.hid (hrd.set (x := .string ⟨s.toArray⟩) (o := 0) hRB)
          have HT1 := Lib.hid (ht0.set0 (.string ⟨s.toArray⟩))
          have HG1 := Lib.hid (grown_set (x := .string ⟨s.toArray⟩) (B := w.heap.size + 1) (o := 0) (HG0.out.trans hg) (by omega))
          clear hrd hg ht0
          go_wp2_with fail
          refine (H2.out _ HR1.out (HB.out.grown HG1.out)).mono ?_
          rintro e v1 ⟨rfl, hrd, hg⟩
          have ht1 := HT1.out.grown hg hR
          have e1 := ht1.c1
          have f1 := ht1.cf 1
          have HR2 := Lib.hid (hrd.set (x := .int .i64 t) (o := 1) hRB)
          have HT2 := Lib.hid (ht1.set1 (.int .i64 t))
          have HG2 := Lib.hid (grown_set (x := .int .i64 t) (B := w.heap.size + 1) (o := 1) (HG1.out.trans hg) (by omega))
          clear hrd hg ht1
          go_wp2_with fail
          refine (H3.out _ HR2.out (HB.out.grown HG2.out)).mono ?_
          rintro e v2 ⟨rfl, hrd, hg⟩
          have ht2 := HT2.out.grown hg hR
          have e2 := ht2.c2
          have f2 := ht2.cf 2
          have HR3 := Lib.hid (hrd.set (x := .int .i64 z) (o := 2) hRB)
          have HT3 := Lib.hid (ht2.set2 (.int .i64 z))
          have HG3 := Lib.hid (grown_set (x := .int .i64 z) (B := w.heap.size + 1) (o := 2) (HG2.out.trans hg) (by omega))
          clear hrd hg ht2
          go_wp2_with fail
          refine (H4.out _ HR3.out (HB.out.grown HG3.out)).mono ?_
          rintro e v3 ⟨rfl, hrd, hg⟩
          have ht3 := HT3.out.grown hg hR
          have e3 := ht3.c3
          have f3 := ht3.cf 3
          have HR4 := Lib.hid (hrd.set (x := .bool (decide (u = 1))) (o := 3) hRB)
          have HT4 := Lib.hid (ht3.set3 (.bool (decide (u = 1))))
          have HG4 := Lib.hid (grown_set (x := .bool (decide (u = 1))) (B := w.heap.size + 1) (o := 3) (HG3.out.trans hg) (by omega))
          clear hrd hg ht3
          obtain ⟨r0, r1, r2, r3, rf, g0, g1, g2, g3, cf⟩ := HT4.out
          have rf0 := rf 0
          have rf1 := rf 1
          have rf2 := rf 2
          have rf3 := rf 3
          clear rf cf
          rw [show i + a + b + c + d = i + (a + b + c + d) by omega] at HR4
          go_wp2_with fail
          exact bodyPost_ret (v := .agg #[.string ⟨s.toArray⟩, .int .i64 t, .int .i64 z, .bool (decide (u = 1))]) (by simp [results, Tryz.results81, go_sem, r0, r1, r2, r3]) rfl ⟨rfl, (((HR4.out.set hRB0).set hRB0).set hRB0).set hRB0, grown_set (grown_set (grown_set (grown_set HG4.out (Nat.le_refl _)) (Nat.le_refl _)) (Nat.le_refl _)) (Nat.le_refl _)⟩
/-- several have been read, or it gave up -/
def SevC (w : World) (R : Nat) (r : Value) (i : Nat) (o : Option (List Col × Nat)) (e : Ending) (w' : World) : Prop :=
  match o with
  | some (xs, k) => ∃ v, e = .returned v ∧ w'.ownsRow w.heap.size 64 4 v xs.length (ccells xs) ∧ Rd w' R r (i + k) ∧ w.grownBy w' (some R)
  | none => Gone w R e w'
set_option maxRecDepth 100000 in
set_option maxHeartbeats 2000000 in
theorem sevC_any (R : Nat) (oa : Option Addr) (cap i : Nat) (l : List UInt8) (most : Nat) (w : World) (hr : Rd w R (.slice oa l.length cap) i) (hb : BelowAt w R oa l) (hn : l.length ≤ 1000000) (hc : l.length ≤ cap) (hi : i ≤ l.length) (hmm : most ≤ 1000) :
    Calls Tryz.prog 80 #[.pointer (some ⟨R, 0, none⟩), .int .i64 most, .func (.func 81) #[] #[]] w (SevC w R (.slice oa l.length cap) i (rdSev most rdCol (l.drop i))) := by
  have hR := hr.lt
  have C := numI_any R oa cap i l most w hr hb hn hc hi (by omega)
  have HEL := Lib.hid (fun W j hr hb hi => readColumn_any R oa cap j l W hr hb hn hc hi)
  have HB := Lib.hid hb
  obtain ⟨i0, hi0, hz0, hz1, hz2⟩ := info_parts infoC
  cases ho : rdNum most (l.drop i) with
  | none =>
    rw [ho] at C
    rw [rdSev_no ho]
    have HC := Lib.hid (show Calls Tryz.prog 116 #[.pointer (some ⟨R, 0, none⟩), .int .i64 most] w (Gone w R) from C)
    show Calls _ _ _ _ (Gone _ _)
    clear C hr hb ho
    go_enter Tryz.func80, Tryz.ntmps80
    go_wp2_with fail
    refine HC.out.mono ?_
    rintro e w1 ⟨⟨x, rfl, hth⟩, hg⟩
    exact ⟨rfl, ⟨_, rfl, hth⟩, hg⟩
  | some x =>
    obtain ⟨n, k0⟩ := x
    rw [ho] at C
    have hbd := rdNum_bd ho
    have hik : i + k0 ≤ l.length := drop_len hbd.2 hi
    have hnm := hbd.1
    have HS := Lib.hid (rdSev_eq (rd := rdCol) ho)
    rw [List.drop_drop] at HS
    have HC := Lib.hid (show Calls Tryz.prog 116 #[.pointer (some ⟨R, 0, none⟩), .int .i64 most] w (Got w R (.slice oa l.length cap) (i + k0) (.int .i64 n)) from C)
    obtain ⟨O, hO⟩ : ∃ O, rdSev most rdCol (l.drop i) = O := ⟨_, rfl⟩
    rw [hO] at HS ⊢
    clear C hr hb ho hbd hO
    go_enter Tryz.func80, Tryz.ntmps80
    go_wp2_with fail
    refine HC.out.mono ?_
    rintro e w1 ⟨rfl, hrd, hg⟩
    have HR1 := Lib.hid hrd
    have HG1 := Lib.hid hg
    clear hrd hg
    go_wp2_with fail
    go_loopw [7, 11] (fun o t wr => ∃ (k m : Nat) (xs : List Col), k ≤ n ∧ xs.length = k ∧ i + k0 + m ≤ l.length ∧ t = .int .i64 k ∧ Hid (MRel rdCol n (l.drop (i + k0)) k xs m) ∧ Hid (wr.ownsRow w.heap.size 64 4 o k (ccells xs)) ∧ Hid (Rd wr R (.slice oa l.length cap) (i + k0 + m)) ∧ Hid (w.grownBy wr (some R))) (fun _ t _ => n - (intOf t).toNat)
    case atStart => exact ⟨0, 0, [], Nat.zero_le _, rfl, by omega, rfl, Lib.hid (MRel.zero _ _ _), Lib.hid (World.ownsRow_nil _ _ _ _), HR1, HG1⟩
    case round =>
      obtain ⟨k, m, xs, hk, hxl, him, rfl, HM, HO, HRD, HG⟩ := hrel
      by_cases hlt : k < n
      · have hk2 : (k : Int) < (n : Int) := by omega
        have CE := HEL.out wr (i + k0 + m) HRD.out (HB.out.grown HG.out) him
        cases he : rdCol (l.drop (i + k0 + m)) with
        | none =>
          rw [he] at CE
          have HN := Lib.hid (show O = none by rw [HS.out, HM.out.bad hlt (by rw [List.drop_drop]; exact he)])
          have HCE := Lib.hid (show Calls Tryz.prog 81 #[.pointer (some ⟨R, 0, none⟩)] wr (Gone wr R) from CE)
          clear CE he
          go_wp2_with fail
          refine HCE.out.mono ?_
          rintro e w2 ⟨⟨x, rfl, hth⟩, hg⟩
          refine ⟨rfl, ?_⟩
          rw [HN.out]
          exact ⟨⟨_, rfl, hth⟩, HG.out.trans hg⟩
        | some x =>
          obtain ⟨x, j⟩ := x
          rw [he] at CE
          have hle := snd_col.le _ _ _ he
          have hij : i + k0 + (m + j) ≤ l.length := by have := drop_len hle him; omega
          have HN := Lib.hid (HM.out.next hlt (by rw [List.drop_drop]; exact he))
          have HCE := Lib.hid (show Calls Tryz.prog 81 #[.pointer (some ⟨R, 0, none⟩)] wr (Got wr R (.slice oa l.length cap) (i + k0 + m + j) (.agg #[.string x.n, .int .i64 x.t, .int .i64 x.z, .bool x.u])) from CE)
          clear CE he hle
          go_wp2_with fail
          refine HCE.out.mono ?_
          rintro e w2 ⟨rfl, hrd2, hg2⟩
          have HR2 := Lib.hid hrd2
          have HG2 := Lib.hid (HG.out.trans hg2)
          have HO2 := Lib.hid (own_far HO.out hg2 hR)
          have hwr : w.heap.size ≤ w2.heap.size := HG2.out.size
          clear hrd2 hg2
          go_wp2_with (first | (at_builtin; refine wpList_append_own _ rfl _ _ 22 rfl w.heap.size 64 i0 (.agg #[.string ⟨#[]⟩, .int .i64 0, .int .i64 0, .bool false]) 4 40 Tryz.underlying22 hi0 hz0 hz1 hz2 rfl (by decide) _ k (ccells xs) rfl (HO2.out.alloc _) ⟨w2.heap.size, 0, none⟩ 1 1 [.string x.n, .int .i64 x.t, .int .i64 x.z, .bool x.u] rfl rfl ?e1 ?e2 ?e3 ?e4 ?e5 ?_))
          case e1 =>
            intro j' u' hj'
            match j', hj' with
            | 0, hj' => simp at hj'; subst hj'; simp [Addr.add]
            | 1, hj' => simp at hj'; subst hj'; simp [Addr.add]
            | 2, hj' => simp at hj'; subst hj'; simp [Addr.add]
            | 3, hj' => simp at hj'; subst hj'; simp [Addr.add]
          case e2 => intro u' hu'; simp at hu'; rcases hu' with rfl | rfl | rfl | rfl <;> rfl
          case e3 => unfold maxLen; omega
          case e4 => omega
          case e5 => simp; omega
          intro v4 w4 hown4 hg4 _
          have hB4 : ∀ g, u7.ownBlock = some g → w.heap.size ≤ g := fun g e => (HO2.out.lt g e).1
          have HG4 := Lib.hid (grown_own (HG2.out.trans (World.grownBy_alloc w2 (.cells #[.string x.n, .int .i64 x.t, .int .i64 x.z, .bool x.u] 64) _)) hg4 hB4)
          have HR4 := Lib.hid ((HR2.out.keep ((Below.refl _ _).alloc (Nat.le_refl _) (.cells #[.string x.n, .int .i64 x.t, .int .i64 x.z, .bool x.u] 64))).grownOwn hg4 (fun e => by have := hB4 _ e; omega))
          rw [show ccells xs ++ [.string x.n, .int .i64 x.t, .int .i64 x.z, .bool x.u] = ccells (xs ++ [x]) from (ccells_snoc xs x).symm] at hown4
          have HO4 := Lib.hid hown4
          clear hown4 hg4 hB4
          go_wp2_with fail
          go_roundw
          case rel => exact ⟨k + 1, m + j, xs ++ [x], by omega, by simp [hxl], hij, by go_num, HN, HO4, by rw [← Nat.add_assoc]; exact HR4, HG4⟩
          case measure => simp [intOf]; omega
      · obtain rfl : k = n := by omega
        have HN := Lib.hid (show O = some (xs, k0 + m) by rw [HS.out, HM.out.done])
        go_wp2_with fail
        go_ret
        rw [HN.out]
        exact ⟨_, rfl,  by rw [hxl]; exact HO.out, by rw [← Nat.add_assoc]; exact HRD.out, HG.out⟩
end Go.Proofs.YtocmjlnhcloccaaGreatDoor
namespace Go.Proofs.YtocmjlnhcloccaaGreatDoor
open Go.RowKit

/-- a row of places in a block of places, from N on -/
def RowL (N : Nat) (W : World) (v : Value) (x : List Int) : Prop := ∃ ob cb, v = .slice ob x.length cb ∧ x.length ≤ cb ∧ IntsIn W ob x ∧ ∀ a, ob = some a → N ≤ a.block ∧ a.block < W.heap.size ∧ ∃ cs, W.heap[a.block]? = some (.cells cs 3)
theorem RowL.grown {N : Nat} {W W' : World} {v : Value} {x : List Int} {row : Option Nat} (h : RowL N W v x) (hg : W.grownBy W' row) (hne : ∀ (g : Nat) (cur : Array Value), N ≤ g → W.heap[g]? = some (.cells cur 3) → some g ≠ row) : RowL N W' v x := by
  obtain ⟨ob, cb, rfl, h1, h2, h3⟩ := h
  have hk : ∀ a, ob = some a → W'.heap[a.block]? = W.heap[a.block]? := fun a ha => by
    obtain ⟨q0, q1, cs, q2⟩ := h3 a ha
    exact hg.block _ q1 (hne _ _ q0 q2)
  refine ⟨ob, cb, rfl, h1, fun j hj => ?_, fun a ha => ?_⟩
  · obtain ⟨a, ha, hc⟩ := h2 j hj
    exact ⟨a, ha, (World.cell?_of_block (by rw [Addr.add_block]; exact hk a ha)).trans hc⟩
  · obtain ⟨q0, q1, cs, q2⟩ := h3 a ha
    exact ⟨q0, Nat.lt_of_lt_of_le q1 hg.size, cs, (hk a ha).trans q2⟩
def RowsL (N : Nat) (W : World) (vals : List Value) (xs : List (List Int)) : Prop := vals.length = xs.length ∧ ∀ (j : Nat) (h : j < vals.length) (h2 : j < xs.length), RowL N W vals[j] xs[j]
theorem RowsL.grown {N : Nat} {W W' : World} {vals : List Value} {xs : List (List Int)} {row : Option Nat} (h : RowsL N W vals xs) (hg : W.grownBy W' row) (hne : ∀ (g : Nat) (cur : Array Value), N ≤ g → W.heap[g]? = some (.cells cur 3) → some g ≠ row) : RowsL N W' vals xs := ⟨h.1, fun j h1 h2 => (h.2 j h1 h2).grown hg hne⟩
theorem RowsL.snoc {N : Nat} {W : World} {vals : List Value} {xs : List (List Int)} {v : Value} {x : List Int} (h : RowsL N W vals xs) (hv : RowL N W v x) : RowsL N W (vals ++ [v]) (xs ++ [x]) := by
  refine ⟨by simp [h.1], fun j h1 h2 => ?_⟩
  by_cases hj : j < vals.length
  · rw [List.getElem_append_left hj, List.getElem_append_left (by have := h.1; omega)]
    exact h.2 j hj _
  · have e : j = vals.length := by simp at h1; omega
    subst e
    rw [List.getElem_append_right (Nat.le_refl _), List.getElem_append_right (by have := h.1; omega)]
    simpa [h.1] using hv
theorem own_notint {W : World} {B e n : Nat} {v : Value} {xs : List Value} (h : W.ownsRow B e 1 v n xs) (he : e ≠ 3) : ∀ (g : Nat) (cur : Array Value), W.heap[g]? = some (.cells cur 3) → some g ≠ v.ownBlock := fun g cur hc heq => by
  rcases h.2 with ⟨rfl, _⟩ | ⟨g2, cap, cur2, rfl, _, hgc, _⟩
  · cases heq
  · cases heq
    rw [hgc] at hc
    simp only [Option.some.injEq, Obj.cells.injEq] at hc
    exact he hc.2.1
theorem own_rowL {W : World} {N n : Nat} {v : Value} {l : List Int} (h : W.ownsRow N 3 1 v n (ivs l)) (hn : l.length = n) : RowL N W v l := by
  obtain ⟨oa, cap, rfl, h1, h2, h3, h4⟩ := own_ints h hn
  exact ⟨oa, cap, by rw [hn], by omega, h1, fun a ha => ⟨(h3 a ha).1, (h3 a ha).2, h4 a ha⟩⟩
theorem RowL.mono {N M : Nat} {W : World} {v : Value} {x : List Int} (h : RowL N W v x) (hM : M ≤ N) : RowL M W v x := by
  obtain ⟨ob, cb, rfl, h1, h2, h3⟩ := h
  exact ⟨ob, cb, rfl, h1, h2, fun a ha => ⟨Nat.le_trans hM (h3 a ha).1, (h3 a ha).2⟩⟩
theorem RowL.one {N : Nat} {W : World} {v : Value} {x : List Int} (h : RowL N W v x) : v.oneCell' = true := by
  obtain ⟨ob, cb, rfl, _⟩ := h
  rfl
/-- several have been read, or it gave up -/
def SevL (w : World) (R : Nat) (r : Value) (i : Nat) (o : Option (List (List Int) × Nat)) (e : Ending) (w' : World) : Prop :=
  match o with
  | some (xs, k) => ∃ v vals, e = .returned v ∧ w'.ownsRow w.heap.size 23 1 v xs.length vals ∧ RowsL w.heap.size w' vals xs ∧ Rd w' R r (i + k) ∧ w.grownBy w' (some R)
  | none => Gone w R e w'
set_option maxRecDepth 100000 in
set_option maxHeartbeats 2000000 in
theorem sevL_any (R : Nat) (oa : Option Addr) (cap i : Nat) (l : List UInt8) (most : Nat) (w : World) (hr : Rd w R (.slice oa l.length cap) i) (hb : BelowAt w R oa l) (hn : l.length ≤ 1000000) (hc : l.length ≤ cap) (hi : i ≤ l.length) (hmm : most ≤ 1000) :
    Calls Tryz.prog 83 #[.pointer (some ⟨R, 0, none⟩), .int .i64 most, .func (.func 82) #[] #[]] w (SevL w R (.slice oa l.length cap) i (rdSev most rdPlaces (l.drop i))) := by
  have hR := hr.lt
  have C := numI_any R oa cap i l most w hr hb hn hc hi (by omega)
  have HEL := Lib.hid (fun W j hr hb hi => readPlaces_any R oa cap j l W hr hb hn hc hi)
  have HB := Lib.hid hb
  obtain ⟨i0, hi0, hz0, hz1, hz2⟩ := info_parts infoIs
  cases ho : rdNum most (l.drop i) with
  | none =>
    rw [ho] at C
    rw [rdSev_no ho]
    have HC := Lib.hid (show Calls Tryz.prog 116 #[.pointer (some ⟨R, 0, none⟩), .int .i64 most] w (Gone w R) from C)
    show Calls _ _ _ _ (Gone _ _)
    clear C hr hb ho
    go_enter Tryz.func83, Tryz.ntmps83
    go_wp2_with fail
    refine HC.out.mono ?_
    rintro e w1 ⟨⟨x, rfl, hth⟩, hg⟩
    exact ⟨rfl, ⟨_, rfl, hth⟩, hg⟩
  | some x =>
    obtain ⟨n, k0⟩ := x
    rw [ho] at C
    have hbd := rdNum_bd ho
    have hik : i + k0 ≤ l.length := drop_len hbd.2 hi
    have hnm := hbd.1
    have HS := Lib.hid (rdSev_eq (rd := rdPlaces) ho)
    rw [List.drop_drop] at HS
    have HC := Lib.hid (show Calls Tryz.prog 116 #[.pointer (some ⟨R, 0, none⟩), .int .i64 most] w (Got w R (.slice oa l.length cap) (i + k0) (.int .i64 n)) from C)
    obtain ⟨O, hO⟩ : ∃ O, rdSev most rdPlaces (l.drop i) = O := ⟨_, rfl⟩
    rw [hO] at HS ⊢
    clear C hr hb ho hbd hO
    go_enter Tryz.func83, Tryz.ntmps83
    go_wp2_with fail
    refine HC.out.mono ?_
    rintro e w1 ⟨rfl, hrd, hg⟩
    have HR1 := Lib.hid hrd
    have HG1 := Lib.hid hg
    clear hrd hg
    go_wp2_with fail
    go_loopw [7, 11] (fun o t wr => ∃ (k m : Nat) (xs : List (List Int)) (vals : List Value), k ≤ n ∧ xs.length = k ∧ i + k0 + m ≤ l.length ∧ t = .int .i64 k ∧ Hid (MRel rdPlaces n (l.drop (i + k0)) k xs m) ∧ Hid (wr.ownsRow w.heap.size 23 1 o k vals) ∧ Hid (Rd wr R (.slice oa l.length cap) (i + k0 + m)) ∧ Hid (w.grownBy wr (some R)) ∧ Hid (RowsL w.heap.size wr vals xs)) (fun _ t _ => n - (intOf t).toNat)
    case atStart => exact ⟨0, 0, [], [], Nat.zero_le _, rfl, by omega, rfl, Lib.hid (MRel.zero _ _ _), Lib.hid (World.ownsRow_nil _ _ _ _), HR1, HG1, Lib.hid ⟨rfl, fun j h1 _ => absurd h1 (Nat.not_lt_zero j)⟩⟩
    case round =>
      obtain ⟨k, m, xs, vals, hk, hxl, him, rfl, HM, HO, HRD, HG, HRL⟩ := hrel
      by_cases hlt : k < n
      · have hk2 : (k : Int) < (n : Int) := by omega
        have CE := HEL.out wr (i + k0 + m) HRD.out (HB.out.grown HG.out) him
        cases he : rdPlaces (l.drop (i + k0 + m)) with
        | none =>
          rw [he] at CE
          have HN := Lib.hid (show O = none by rw [HS.out, HM.out.bad hlt (by rw [List.drop_drop]; exact he)])
          have HCE := Lib.hid (show Calls Tryz.prog 82 #[.pointer (some ⟨R, 0, none⟩)] wr (Gone wr R) from CE)
          clear CE he
          go_wp2_with fail
          refine HCE.out.mono ?_
          rintro e w2 ⟨⟨x, rfl, hth⟩, hg⟩
          refine ⟨rfl, ?_⟩
          rw [HN.out]
          exact ⟨⟨_, rfl, hth⟩, HG.out.trans hg⟩
        | some x =>
          obtain ⟨x, j⟩ := x
          rw [he] at CE
          have hle := snd_places.le _ _ _ he
          have hij : i + k0 + (m + j) ≤ l.length := by have := drop_len hle him; omega
          have HN := Lib.hid (HM.out.next hlt (by rw [List.drop_drop]; exact he))
          have HCE := Lib.hid (show Calls Tryz.prog 82 #[.pointer (some ⟨R, 0, none⟩)] wr (SevI wr R (.slice oa l.length cap) (i + k0 + m) (some (x, j))) from CE)
          clear CE he hle
          go_wp2_with fail
          refine HCE.out.mono ?_
          rintro e w2 ⟨v, rfl, hov, hrd2, hg2⟩
          have HLV := Lib.hid ((own_rowL hov rfl).mono HG.out.size)
          have hRne : ∀ (g : Nat) (cur : Array Value), w.heap.size ≤ g → wr.heap[g]? = some (.cells cur 3) → some g ≠ some R := fun g _ hg _ e => by cases e; omega
          have HRL2 := Lib.hid ((HRL.out.grown hg2 hRne).snoc HLV.out)
          obtain ⟨ob, cb, hv, _⟩ := HLV.out
          subst hv
          clear hov hRne HLV
          have HR2 := Lib.hid hrd2
          have HG2 := Lib.hid (HG.out.trans hg2)
          have HO2 := Lib.hid (own_far HO.out hg2 hR)
          have hwr : w.heap.size ≤ w2.heap.size := HG2.out.size
          clear hrd2 hg2
          go_wp2_with (first | (at_builtin; refine wpList_append_own _ rfl _ _ 24 rfl w.heap.size 23 i0 (.slice none 0 0) 1 24 Tryz.underlying24 hi0 hz0 hz1 hz2 rfl (by decide) _ k vals rfl (HO2.out.alloc _) ⟨w2.heap.size, 0, none⟩ 1 1 [.slice ob x.length cb] rfl rfl ?e1 ?e2 ?e3 ?e4 ?e5 ?_))
          case e1 =>
            intro j' u' hj'
            match j', hj' with
            | 0, hj' => simp at hj'; subst hj'; simp [Addr.add]
          case e2 => intro u' hu'; simp at hu'; subst hu'; rfl
          case e3 => unfold maxLen; omega
          case e4 => omega
          case e5 => simp; omega
          intro v4 w4 hown4 hg4 _
          have hB4 : ∀ g, u7.ownBlock = some g → w.heap.size ≤ g := fun g e => (HO2.out.lt g e).1
          have HG4 := Lib.hid (grown_own (HG2.out.trans (World.grownBy_alloc w2 (.cells #[.slice ob x.length cb] 23) _)) hg4 hB4)
          have HR4 := Lib.hid ((HR2.out.keep ((Below.refl _ _).alloc (Nat.le_refl _) (.cells #[.slice ob x.length cb] 23))).grownOwn hg4 (fun e => by have := hB4 _ e; omega))
          have HO4 := Lib.hid hown4
          have hni := own_notint (HO2.out.alloc (.cells #[.slice ob x.length cb] 23)) (by decide)
          have HRL4 := Lib.hid ((HRL2.out.grown (World.grownBy_alloc w2 (.cells #[.slice ob x.length cb] 23) none) (fun _ _ _ _ => by simp)).grown hg4 (fun g cur _ hc => hni g cur hc))
          clear hni
          clear hown4 hg4 hB4
          go_wp2_with fail
          go_roundw
          case rel => exact ⟨k + 1, m + j, xs ++ [x], vals ++ [.slice ob x.length cb], by omega, by simp [hxl], hij, by go_num, HN, HO4, by rw [← Nat.add_assoc]; exact HR4, HG4, HRL4⟩
          case measure => simp [intOf]; omega
      · obtain rfl : k = n := by omega
        have HN := Lib.hid (show O = some (xs, k0 + m) by rw [HS.out, HM.out.done])
        go_wp2_with fail
        go_ret
        rw [HN.out]
        exact ⟨_, vals, rfl, by rw [hxl]; exact HO.out, HRL.out, by rw [← Nat.add_assoc]; exact HRD.out, HG.out⟩
end Go.Proofs.YtocmjlnhcloccaaGreatDoor
