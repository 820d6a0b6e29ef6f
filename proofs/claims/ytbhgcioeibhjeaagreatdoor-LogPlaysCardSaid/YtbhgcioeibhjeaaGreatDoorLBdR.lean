/-
  parts that belong together.
-/
import Derived.Test.YtbhgcioeibhjeaaGreatDoorLAsk
import Derived.Test.YtbhgcioeibhjeaaGreatDoorKErr
import Derived.Test.YtbhgcioeibhjeaaGreatDoorLFnd
namespace Go.Proofs.YtbhgcioeibhjeaaGreatDoor
open Go.RowKit

/-- an error that wraps a number -/
def LErr (n : Int) (w : World) : Ending → World → Prop := fun e w' => ∃ b, e = .returned (.iface 144 (.pointer (some ⟨b, 0, none⟩))) ∧ w'.cell? ⟨b, 1, none⟩ = some (.int .i64 n) ∧ Below w.heap.size w w'
set_option maxRecDepth 100000 in
theorem isErr_neL (x : Value) (W : World) : (binOp .neq 86 (.iface 144 x) .nilIface).run Tryz.prog W = .ok (.bool true) W := rfl
theorem of_cell (s : ByteArray) (n : Int) (w : World) : (w.alloc (.cells #[.string s, .int .i64 n] 146)).cell? ⟨w.heap.size, 1, none⟩ = some (.int .i64 n) := by
  have hh := heap_alloc_at w (.cells #[.string s, .int .i64 n] 146)
  simp only [World.cell?]
  rw [hh]
  rfl
set_option maxRecDepth 100000 in
set_option maxHeartbeats 1000000 in
theorem lmayBe_bad (oa : Option Addr) (n cap : Nat) (w : World) (hn : 60000 < n) : Calls Tryz.prog 57 #[.slice oa n cap] w (LErr 3 w) := by
  have hOf := Of_any
  have hc := of_cell
  go_enter Tryz.func57, Tryz.ntmps57
  go_wp2_with (first | (go_at_call 67; refine (hOf _ _ _).mono ?_; rintro e w1 ⟨rfl, rfl⟩))
  go_ret
  exact ⟨_, rfl, of_cell _ _ _, (Below.refl _ w).alloc (Nat.le_refl _) _⟩
set_option maxRecDepth 100000 in
set_option maxHeartbeats 1000000 in
theorem lmayPut_bad (q p : Nat) (f e t : Int) (oa : Option Addr) (n cap : Nat) (w : World) (h : LogC w q p f e t) (hn : 60000 < n) : Calls Tryz.prog 49 #[.pointer (some ⟨q, 0, none⟩), .slice oa n cap] w (LErr 3 w) := by
  have HA := Lib.hid (lask_ok q p f e t w h)
  have HM := Lib.hid (lmayBe_bad oa n cap w hn)
  have hq : ∀ W, (binOp .neq 86 .nilIface .nilIface).run Tryz.prog W = .ok (.bool false) W := fun _ => rfl
  clear h
  go_enter Tryz.func49, Tryz.ntmps49
  go_wp2_with (first | (go_at_call 79; with_reducible refine HA.out.mono ?_; rintro x w1 ⟨rfl, rfl⟩) | (go_at_call 57; refine HM.out.mono ?_; rintro x w1 ⟨b, rfl, hb, hw⟩))
  go_ret
  exact ⟨b, rfl, hb, hw⟩
set_option maxRecDepth 100000 in
set_option maxHeartbeats 1000000 in
theorem Record_bad (oa : Option Addr) (n cap : Nat) (w : World) (hET : HasET w) (hn : 60000 < n) : Calls Tryz.prog 26 #[.slice oa n cap] w fun e w' => e = .returned (.tuple #[.slice none 0 0, .int .i64 3]) ∧ Below w.heap.size w w' := by
  have HM := Lib.hid (lmayBe_bad oa n cap w hn)
  have HE := Lib.hid (fun (w1 : World) (b : Nat) (hw : Below w.heap.size w w1) (hc : w1.cell? ⟨b, 1, none⟩ = some (.int .i64 3)) => errno_err b 3 w1 (hET.below hw hET.lt) hc)
  have hq := isErr_neL
  clear hET
  go_enter Tryz.func26, Tryz.ntmps26
  go_wp2_with (first | (go_at_call 57; refine HM.out.mono ?_; rintro e w1 ⟨b, rfl, hc, hbw⟩) | (go_at_call 40; refine (HE.out w1 b hbw hc).mono ?_; rintro e w2 ⟨rfl, hb2⟩))
  go_ret2
  exact ⟨rfl, hbw.trans (hb2.mono hbw.size)⟩
set_option maxRecDepth 100000 in
set_option maxHeartbeats 1000000 in
theorem lAppend_long (q p : Nat) (f e t : Int) (oa : Option Addr) (n cap : Nat) (w : World) (h : LogC w q p f e t) (hET : HasET w) (hn : 60000 < n) : Calls Tryz.prog 21 #[.pointer (some ⟨q, 0, none⟩), .slice oa n cap] w fun x w' => x = .returned (.tuple #[.int .i64 0, .int .i64 3]) ∧ Below w.heap.size w w' := by
  have HM := Lib.hid (lmayPut_bad q p f e t oa n cap w h hn)
  have HE := Lib.hid (fun (w1 : World) (b : Nat) (hw : Below w.heap.size w w1) (hc : w1.cell? ⟨b, 1, none⟩ = some (.int .i64 3)) => errno_err b 3 w1 (hET.below hw hET.lt) hc)
  have hq := isErr_neL
  clear hET h
  go_enter Tryz.func21, Tryz.ntmps21
  go_wp2_with (first | (go_at_call 49; refine HM.out.mono ?_; rintro e w1 ⟨b, rfl, hc, hbw⟩) | (go_at_call 40; refine (HE.out w1 b hbw hc).mono ?_; rintro e w2 ⟨rfl, hb2⟩))
  go_ret2
  exact ⟨rfl, hbw.trans (hb2.mono hbw.size)⟩
end Go.Proofs.YtbhgcioeibhjeaaGreatDoor
namespace Go.Proofs.YtbhgcioeibhjeaaGreatDoor
open Go.RowKit

/-- bytes of a piece that was found -/
def FoundV (W : World) (v : Value) (b : List UInt8) : Prop := BtAt W v b
theorem BtAt.form {w : World} {v : Value} {l : List UInt8} (h : BtAt w v l) : ∃ oa cap, v = .slice oa l.length cap := by
  obtain ⟨oa, cap, e, _⟩ := h
  exact ⟨oa, cap, e⟩
set_option maxRecDepth 100000 in
set_option maxHeartbeats 1000000 in
theorem begins_any (oa : Option Addr) (cap : Nat) (l : List UInt8) (p : Int) (w : World) (hv : BytesOf w (.slice oa l.length cap) l) (hl : l.length ≤ 100000000) :
    Calls Tryz.prog 54 #[.slice oa l.length cap, .int .i64 p] w fun e w' => e = .returned (.bool (findO l p).isSome) ∧ Below w.heap.size w w' := by
  have HF := Lib.hid (find_any oa cap l p w hv hl)
  clear hv
  cases hf : findO l p with
  | none =>
    rw [hf] at HF
    have HF := Lib.hid (show Calls Tryz.prog 83 #[.slice oa l.length cap, .int .i64 p] w fun e w' => e = .returned (.tuple #[.slice none 0 0, .bool false]) ∧ Below w.heap.size w w' from HF.out.mono (by
      rintro e w' ⟨h1, h2⟩
      exact ⟨h1, h2⟩))
    clear hf
    generalize l.length = n at *
    go_enter Tryz.func54, Tryz.ntmps54
    go_wp2_with (first | (go_at_call 83; with_reducible refine HF.out.mono ?_; rintro e w1 ⟨rfl, hb⟩; have HB := Lib.hid hb; clear hb))
    go_ret
    exact ⟨rfl, HB.out⟩
  | some b =>
    rw [hf] at HF
    have HF := Lib.hid (show Calls Tryz.prog 83 #[.slice oa l.length cap, .int .i64 p] w fun e w' => ∃ v, e = .returned (.tuple #[v, .bool true]) ∧ Below w.heap.size w w' from HF.out.mono (by
      rintro e w' ⟨⟨v, h1, _⟩, h2⟩
      exact ⟨v, h1, h2⟩))
    clear hf
    generalize l.length = n at *
    go_enter Tryz.func54, Tryz.ntmps54
    go_wp2_with (first | (go_at_call 83; with_reducible refine HF.out.mono ?_; rintro e w1 ⟨v, rfl, hb⟩; have HB := Lib.hid hb; clear hb))
    go_ret
    exact ⟨rfl, HB.out⟩
set_option maxRecDepth 100000 in
set_option maxHeartbeats 1000000 in
theorem lfind_yes {w W : World} {q p : Nat} {D : Dk} {e t : Int} {f : Nat} (h : LRun w W q p D f e t) (hf : f < 64) (at_ : Int) (b : List UInt8) (hb : findO (D.F f) at_ = some b) :
    Calls Tryz.prog 51 #[.pointer (some ⟨q, 0, none⟩), .int .i64 at_] W fun x W' => (∃ v, x = .returned (.tuple #[v, .nilIface]) ∧ BtAt W' v b) ∧ Below W.heap.size W W' := by
  have hfl := h.len f hf
  have HA := Lib.hid (lask_ok q p f e t W h.log)
  have HO := Lib.hid (loctets_ok h hf)
  have HF : Hid (∀ W1 oa cap, BytesOf W1 (.slice oa (D.F f).length cap) (D.F f) → Calls Tryz.prog 83 #[.slice oa (D.F f).length cap, .int .i64 at_] W1 fun x W' => (∃ v, x = .returned (.tuple #[v, .bool true]) ∧ BtAt W' v b) ∧ Below W1.heap.size W1 W') := Lib.hid fun W1 oa cap hv => by
    have h1 := find_any oa cap (D.F f) at_ W1 hv hfl
    rw [hb] at h1
    exact h1
  have hq : ∀ W, (binOp .neq 86 .nilIface .nilIface).run Tryz.prog W = .ok (.bool false) W := fun _ => rfl
  clear h hb
  generalize D.F f = lf at *
  go_enter Tryz.func51, Tryz.ntmps51
  go_wp2_with (first | (go_at_call 79; with_reducible refine HA.out.mono ?_; rintro x w1 ⟨rfl, rfl⟩) | (go_at_call 53; with_reducible refine HO.out.mono ?_; rintro x w2 ⟨v, rfl, hv, hw2⟩; obtain ⟨ob, cb, hvf⟩ := hv.form; subst hvf; have HF2 := Lib.hid (HF.out w2 ob cb hv); have HB2 := Lib.hid hw2; clear hv hw2) | (go_at_call 83; with_reducible refine HF2.out.mono ?_; rintro x w3 ⟨⟨v3, rfl, hv3⟩, hw3⟩; have H3 := Lib.hid (And.intro hv3 (HB2.out.trans (hw3.mono HB2.out.size))); clear hv3 hw3))
  go_ret2
  exact ⟨⟨_, rfl, H3.out.1⟩, H3.out.2⟩
set_option maxRecDepth 100000 in
set_option maxHeartbeats 1000000 in
theorem lfind_no {w W : World} {q p : Nat} {D : Dk} {e t : Int} {f : Nat} (h : LRun w W q p D f e t) (hf : f < 64) (at_ : Int) (hb : findO (D.F f) at_ = none) :
    Calls Tryz.prog 51 #[.pointer (some ⟨q, 0, none⟩), .int .i64 at_] W fun x W' => ∃ b, x = .returned (.tuple #[.slice none 0 0, .iface 144 (.pointer (some ⟨b, 0, none⟩))]) ∧ W'.cell? ⟨b, 1, none⟩ = some (.int .i64 4) ∧ Below W.heap.size W W' := by
  have hfl := h.len f hf
  have HA := Lib.hid (lask_ok q p f e t W h.log)
  have HO := Lib.hid (loctets_ok h hf)
  have HF : Hid (∀ W1 oa cap, BytesOf W1 (.slice oa (D.F f).length cap) (D.F f) → Calls Tryz.prog 83 #[.slice oa (D.F f).length cap, .int .i64 at_] W1 fun x W' => x = .returned (.tuple #[.slice none 0 0, .bool false]) ∧ Below W1.heap.size W1 W') := Lib.hid fun W1 oa cap hv => by
    have h1 := find_any oa cap (D.F f) at_ W1 hv hfl
    rw [hb] at h1
    exact h1
  have hq : ∀ W, (binOp .neq 86 .nilIface .nilIface).run Tryz.prog W = .ok (.bool false) W := fun _ => rfl
  have hOf := Of_any
  clear h hb
  generalize D.F f = lf at *
  go_enter Tryz.func51, Tryz.ntmps51
  go_wp2_with (first | (go_at_call 79; with_reducible refine HA.out.mono ?_; rintro x w1 ⟨rfl, rfl⟩) | (go_at_call 53; with_reducible refine HO.out.mono ?_; rintro x w2 ⟨v, rfl, hv, hw2⟩; obtain ⟨ob, cb, hvf⟩ := hv.form; subst hvf; have HF2 := Lib.hid (HF.out w2 ob cb hv); have HB2 := Lib.hid hw2; clear hv hw2) | (go_at_call 83; with_reducible refine HF2.out.mono ?_; rintro x w3 ⟨rfl, hw3⟩; have HB3 := Lib.hid (HB2.out.trans (hw3.mono HB2.out.size)); clear hw3) | (go_at_call 67; refine (hOf _ _ _).mono ?_; rintro e w4 ⟨rfl, rfl⟩))
  go_ret2
  exact ⟨_, rfl, of_cell _ _ _, HB3.out.alloc HB3.out.size _⟩
set_option maxRecDepth 100000 in
set_option maxHeartbeats 1000000 in
theorem lRead_yes {w W : World} {q p : Nat} {D : Dk} {e t : Int} {f : Nat} (h : LRun w W q p D f e t) (hf : f < 64) (i : Nat) (b : List UInt8) (hb : findO (D.F f) i = some b) :
    Calls Tryz.prog 22 #[.pointer (some ⟨q, 0, none⟩), .int .i64 i] W fun x W' => (∃ v, x = .returned (.tuple #[v, .int .i64 ((i + 8 + b.length : Nat) : Int), .int .i64 0]) ∧ BtAt W' v b) ∧ Below W.heap.size W W' := by
  have hfl := h.len f hf
  have HF := Lib.hid (lfind_yes h hf i b hb)
  have hin : i + 8 + b.length ≤ (D.F f).length := by
    obtain ⟨j, hj, hp⟩ := findO_piece hb
    obtain rfl : i = j := by omega
    exact (pieceO_len hp).2.1
  have HBh : Hid (∀ (V : World) (ob : Option Addr) (c : Nat), Calls Tryz.prog 45 #[.int .i64 i, .slice ob b.length c] V fun e w' => e = .returned (.int .i64 ((i + 8 + b.length : Nat) : Int)) ∧ V = w') := Lib.hid fun V ob c => behind_any i ob b.length c V (by omega) (by omega)
  have hq : ∀ W, (binOp .neq 86 .nilIface .nilIface).run Tryz.prog W = .ok (.bool false) W := fun _ => rfl
  clear h hb hin
  go_enter Tryz.func22, Tryz.ntmps22
  go_wp2_with (first | (go_at_call 51; with_reducible refine HF.out.mono ?_; rintro x w1 ⟨⟨v, rfl, hv⟩, hw⟩; obtain ⟨ob, cb, hvf⟩ := hv.form; subst hvf; have H1 := Lib.hid (And.intro hv hw); clear hv hw) | (go_at_call 45; with_reducible refine (HBh.out _ _ _).mono ?_; rintro x w2 ⟨rfl, rfl⟩))
  refine bodyPost_ret (v := .tuple #[.slice ob b.length cb, .int .i64 ((i + 8 + b.length : Nat) : Int), .int .i64 0]) (by simp [results, Tryz.results22, go_sem]) rfl ⟨⟨_, rfl, H1.out.1⟩, H1.out.2⟩
set_option maxRecDepth 100000 in
set_option maxHeartbeats 1000000 in
theorem lRead_no {w W : World} {q p : Nat} {D : Dk} {e t : Int} {f : Nat} (h : LRun w W q p D f e t) (hET : HasET w) (hf : f < 64) (i : Int) (hb : findO (D.F f) i = none) :
    Calls Tryz.prog 22 #[.pointer (some ⟨q, 0, none⟩), .int .i64 i] W fun x W' => x = .returned (.tuple #[.slice none 0 0, .int .i64 0, .int .i64 4]) ∧ Below W.heap.size W W' := by
  have hET2 := hET.below h.bel hET.lt
  have HF := Lib.hid (lfind_no h hf i hb)
  have HE := Lib.hid (fun (w1 : World) (b : Nat) (hw : Below W.heap.size W w1) (hc : w1.cell? ⟨b, 1, none⟩ = some (.int .i64 4)) => errno_err b 4 w1 (hET2.below hw hET2.lt) hc)
  have hq := isErr_neL
  clear h hb hET hET2
  go_enter Tryz.func22, Tryz.ntmps22
  go_wp2_with (first | (go_at_call 51; with_reducible refine HF.out.mono ?_; rintro x w1 ⟨b, rfl, hc, hbw⟩) | (go_at_call 40; refine (HE.out w1 b hbw hc).mono ?_; rintro e w2 ⟨rfl, hb2⟩))
  refine bodyPost_ret (v := .tuple #[.slice none 0 0, .int .i64 0, .int .i64 4]) (by simp [results, Tryz.results22, go_sem]) rfl ⟨rfl, hbw.trans (hb2.mono hbw.size)⟩
end Go.Proofs.YtbhgcioeibhjeaaGreatDoor
