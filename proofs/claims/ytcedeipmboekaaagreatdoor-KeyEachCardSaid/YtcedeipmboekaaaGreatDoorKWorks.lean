/-
  swingbridgelaw05.works, num, few; key.Behind, key.All.
-/
import Derived.Test.YtcedeipmboekaaaGreatDoorKDecs
import Derived.Test.YtcedeipmboekaaaGreatDoorKEncW
namespace Go.Proofs.YtcedeipmboekaaaGreatDoor
open Go.RowKit

theorem qlnum_any (n : Int) (w : World) : Calls Tryz.prog 12 #[.int .i64 n] w fun e w' => e = .returned (.int .i64 n) ∧ w = w' := by
  go_enter Tryz.func12, Tryz.ntmps12
  go_wp2_with fail
  go_ret
  exact ⟨rfl, rfl⟩
theorem enc_lit1 (v : Vl) (W : World) (hg : HasET W) (hN : InN v) : Calls Tryz.prog 10 #[.slice (some ⟨W.heap.size, 0, none⟩) 1 1] (W.alloc (.cells #[.int .i64 v.k, .int .i64 v.i, .int .u64 v.u, .string v.s] 42)) fun e w' => e = .returned (.tuple #[.string (encTx [v]), .int .i64 (encNo [v])]) ∧ Below W.heap.size W w' := by
  have hb : Below W.heap.size W (W.alloc (.cells #[.int .i64 v.k, .int .i64 v.i, .int .u64 v.u, .string v.s] 42)) := (Below.refl _ _).alloc (Nat.le_refl _) _
  refine (qEncode_any (some ⟨W.heap.size, 0, none⟩) 1 [v] _ (fun j hj => ?_) (fun x hx => by rw [List.mem_singleton.1 hx]; exact hN) (by simp) (hg.below hb hg.lt)).mono ?_
  · obtain rfl : j = 0 := by simpa using hj
    exact ⟨_, rfl, by simp [ValAt, Addr.add, go_sem]⟩
  · rintro e w' ⟨rfl, h⟩
    exact ⟨rfl, hb.trans (h.mono (by simp))⟩
theorem enc_lit2 (v x : Vl) (W : World) (hg : HasET W) (hN : InN v) (hN2 : InN x) : Calls Tryz.prog 10 #[.slice (some ⟨W.heap.size, 0, none⟩) 2 2] (W.alloc (.cells #[.int .i64 v.k, .int .i64 v.i, .int .u64 v.u, .string v.s, .int .i64 x.k, .int .i64 x.i, .int .u64 x.u, .string x.s] 42)) fun e w' => e = .returned (.tuple #[.string (encTx [v, x]), .int .i64 (encNo [v, x])]) ∧ Below W.heap.size W w' := by
  have hb : Below W.heap.size W (W.alloc (.cells #[.int .i64 v.k, .int .i64 v.i, .int .u64 v.u, .string v.s, .int .i64 x.k, .int .i64 x.i, .int .u64 x.u, .string x.s] 42)) := (Below.refl _ _).alloc (Nat.le_refl _) _
  refine (qEncode_any (some ⟨W.heap.size, 0, none⟩) 2 [v, x] _ (fun j hj => ?_) (fun y hy => ?_) (by simp) (hg.below hb hg.lt)).mono ?_
  · match j, hj with
    | 0, _ => exact ⟨_, rfl, by simp [ValAt, Addr.add, go_sem]⟩
    | 1, _ => exact ⟨_, rfl, by simp [ValAt, Addr.add, go_sem]⟩
  · simp only [List.mem_cons, List.not_mem_nil, or_false] at hy
    rcases hy with rfl | rfl
    · exact hN
    · exact hN2
  · rintro e w' ⟨rfl, h⟩
    exact ⟨rfl, hb.trans (h.mono (by simp))⟩
theorem e1 : encTx [val0, ⟨3, 1, 0, ⟨#[]⟩⟩] = ⟨#[0, 3, 1]⟩ ∧ encNo [val0, ⟨3, 1, 0, ⟨#[]⟩⟩] = 0 := by decide +kernel
theorem e2 : encTx [⟨1, -1, 0, ⟨#[]⟩⟩] = ⟨#[1, 127, 255, 255, 255, 255, 255, 255, 255]⟩ ∧ encNo [⟨1, -1, 0, ⟨#[]⟩⟩] = 0 := by decide +kernel
theorem e3 : encTx [⟨2, 0, 258, ⟨#[]⟩⟩] = ⟨#[2, 2, 1, 2]⟩ ∧ encNo [⟨2, 0, 258, ⟨#[]⟩⟩] = 0 := by decide +kernel
theorem e4 : encTx [⟨4, 0, 0, ⟨#[97, 98]⟩⟩] = ⟨#[4, 97, 98, 0, 0, 0, 0, 0, 0, 2]⟩ ∧ encNo [⟨4, 0, 0, ⟨#[97, 98]⟩⟩] = 0 := by decide +kernel
theorem e5 : decO ⟨#[3, 2]⟩ = none := by rfl
set_option maxRecDepth 100000 in
set_option maxHeartbeats 2000000 in
theorem qworks_true (w : World) (hg : HasET w) : Calls Tryz.prog 9 #[] w fun e w' => e = .returned (.bool true) ∧ Below w.heap.size w w' := by
  have HG := Lib.hid hg
  have hlt := hg.lt
  have C1 := enc_lit2 val0 ⟨3, 1, 0, ⟨#[]⟩⟩ w hg ⟨by decide, by decide, by decide, by decide⟩ ⟨by decide, by decide, by decide, by decide⟩
  rw [e1.1, e1.2] at C1
  have HC1 := Lib.hid C1
  have HC2 : Hid (∀ W, HasET W → Calls Tryz.prog 10 #[.slice (some ⟨W.heap.size, 0, none⟩) 1 1] (W.alloc (.cells #[.int .i64 1, .int .i64 (-1), .int .u64 0, .string ⟨#[]⟩] 42)) fun e w' => e = .returned (.tuple #[.string ⟨#[1, 127, 255, 255, 255, 255, 255, 255, 255]⟩, .int .i64 0]) ∧ Below W.heap.size W w') := Lib.hid fun W h => by
    have := enc_lit1 ⟨1, -1, 0, ⟨#[]⟩⟩ W h ⟨by decide, by decide, by decide, by decide⟩
    rw [e2.1, e2.2] at this
    exact this
  have HC3 : Hid (∀ W, HasET W → Calls Tryz.prog 10 #[.slice (some ⟨W.heap.size, 0, none⟩) 1 1] (W.alloc (.cells #[.int .i64 2, .int .i64 0, .int .u64 258, .string ⟨#[]⟩] 42)) fun e w' => e = .returned (.tuple #[.string ⟨#[2, 2, 1, 2]⟩, .int .i64 0]) ∧ Below W.heap.size W w') := Lib.hid fun W h => by
    have := enc_lit1 ⟨2, 0, 258, ⟨#[]⟩⟩ W h ⟨by decide, by decide, by decide, by decide⟩
    rw [e3.1, e3.2] at this
    exact this
  have HC4 : Hid (∀ W, HasET W → Calls Tryz.prog 10 #[.slice (some ⟨W.heap.size, 0, none⟩) 1 1] (W.alloc (.cells #[.int .i64 4, .int .i64 0, .int .u64 0, .string ⟨#[97, 98]⟩] 42)) fun e w' => e = .returned (.tuple #[.string ⟨#[4, 97, 98, 0, 0, 0, 0, 0, 0, 2]⟩, .int .i64 0]) ∧ Below W.heap.size W w') := Lib.hid fun W h => by
    have := enc_lit1 ⟨4, 0, 0, ⟨#[97, 98]⟩⟩ W h ⟨by decide, by decide, by decide, by decide⟩
    rw [e4.1, e4.2] at this
    exact this
  have HC5 : Hid (∀ W, Calls Tryz.prog 13 #[.string ⟨#[3, 2]⟩] W fun e w' => e = .returned (.tuple #[.slice none 0 0, .int .i64 150]) ∧ Below W.heap.size W w') := Lib.hid fun W => by
    have := qDecode_any ⟨#[3, 2]⟩ W (by decide)
    refine this.mono ?_
    rintro e w' ⟨h1, h2⟩
    rw [e5] at h1
    exact ⟨h1, h2⟩
  clear hg C1
  go_enter Tryz.func9, Tryz.ntmps9
  go_wp2_with fail
  refine HC1.out.mono ?_
  rintro e w1 ⟨rfl, hb1⟩
  have HB1 := Lib.hid hb1
  clear hb1
  go_wp2_with fail
  refine (HC2.out _ (HG.out.below HB1.out hlt)).mono ?_
  rintro e w2 ⟨rfl, hb2⟩
  have HB2 := Lib.hid (HB1.out.trans (hb2.mono HB1.out.size))
  clear hb2
  go_wp2_with fail
  refine (HC3.out _ (HG.out.below HB2.out hlt)).mono ?_
  rintro e w3 ⟨rfl, hb3⟩
  have HB3 := Lib.hid (HB2.out.trans (hb3.mono HB2.out.size))
  clear hb3
  go_wp2_with fail
  refine (HC4.out _ (HG.out.below HB3.out hlt)).mono ?_
  rintro e w4 ⟨rfl, hb4⟩
  have HB4 := Lib.hid (HB3.out.trans (hb4.mono HB3.out.size))
  clear hb4
  go_wp2_with fail
  refine (HC5.out _).mono ?_
  rintro e w5 ⟨rfl, hb5⟩
  have HB5 := Lib.hid (HB4.out.trans (hb5.mono HB4.out.size))
  clear hb5
  go_wp2_with (go_at_call 12; refine (qlnum_any _ _).mono ?_; rintro e w' ⟨rfl, rfl⟩)
  go_ret
  exact ⟨rfl, HB5.out⟩
/-- few -/
def fewK (l : List Vl) (many : Nat) : Bool := decide (l.length ≤ many) && l.all fun v => decide (v.s.size ≤ 300)
end Go.Proofs.YtcedeipmboekaaaGreatDoor
