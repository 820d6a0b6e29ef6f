/-
  disk: Read, Loose, Left; swingbridgelaw09.num, read.
-/
import Derived.Test.YtbhgcioeibhjeaaGreatDoorDCrs
namespace Go.Proofs.YtbhgcioeibhjeaaGreatDoor
open Go.RowKit

theorem eq_sl (a : Addr) (n c : Nat) (W : World) : (binOp .eql 43 (.slice (some a) n c) (.slice none 0 0)).run Tryz.prog W = .ok (.bool false) W := by kernel_rfl
theorem eq_slN (W : World) : (binOp .eql 43 (.slice none 0 0) (.slice none 0 0)).run Tryz.prog W = .ok (.bool true) W := by kernel_rfl
theorem bt_of_row {w : World} {base : Nat} {v : Value} {l : List UInt8} (h : w.ownsRow base 5 1 v l.length (cB l)) : BtAt w v l := by
  have h0 := h
  rcases h.2 with ⟨e0, h1⟩ | ⟨g, cap, cur, e0, _, hg, _, _, _, htk⟩
  · exact ⟨none, 0, by rw [e0, h1], fun j hj => by omega⟩
  · refine ⟨_, cap, e0, fun j hj => ⟨_, rfl, ?_⟩⟩
    have e : ((⟨g, 0, none⟩ : Addr).add j) = ⟨g, j, none⟩ := by
      unfold Addr.add
      split
      · simp_all
      · simp
    rw [e]
    have hc : (cB l)[j]? = some (.int .u8 (l[j].toNat : Int)) := by simp [cB, hj]
    rw [← htk, List.getElem?_take_of_lt (by omega), Array.getElem?_toList] at hc
    simp [World.cell?, hg, hc]
set_option maxRecDepth 100000 in
set_option maxHeartbeats 2000000 in
theorem clonB_any (v : Value) (l : List UInt8) (w : World) (h : SlAt w v l) (hl : l.length ≤ 100000000) :
    Calls Tryz.prog 61 #[v] w fun e w' => ∃ v', e = .returned v' ∧ BtAt w' v' l ∧ Below w.heap.size w w' := by
  rcases h with ⟨rfl, rfl⟩ | ⟨hne, g, cap, cur, rfl, hg, hc1, hc2, hc3, htk⟩
  · have hq := eq_slN
    go_enter Tryz.func61, Tryz.ntmps61
    go_wp2_with fail
    go_ret
    exact ⟨_, rfl, ⟨none, 0, rfl, fun j hj => absurd hj (Nat.not_lt_zero j)⟩, Below.refl _ _⟩
  · have hq := eq_sl
    obtain ⟨i0, hi0, hz0, hz1, hz2⟩ := info_parts infoB
    obtain ⟨w1, hw1⟩ : ∃ w1, w.alloc (.cells #[] 5) = w1 := ⟨_, rfl⟩
    have hb1 : Below w.heap.size w w1 := by rw [← hw1]; exact (Below.refl _ w).alloc (Nat.le_refl _) _
    have hn1 : w1.heap[w.heap.size]? = some (.cells #[] 5 (0, 0)) := by rw [← hw1]; exact heap_alloc_at w _
    have hg1 : w1.heap[g]? = some (.cells cur 5 (0, 0)) := (hb1.block g (Array.getElem?_eq_some_iff.1 hg).1).trans hg
    have hown : w1.ownsRow w.heap.size 5 1 (.slice (some ⟨w.heap.size, 0, none⟩) 0 0) 0 [] := ⟨rfl, .inr ⟨w.heap.size, 0, #[], rfl, Nat.le_refl _, hn1, Nat.le_refl _, Nat.zero_le _, rfl, rfl⟩⟩
    have hcells : ∀ j u, (cB l)[j]? = some u → w1.cell? ((⟨g, 0, none⟩ : Addr).add j) = some u := by
      intro j u hj
      have hjl : j < l.length := by rw [← cB_length]; exact (List.getElem?_eq_some_iff.1 hj).1
      rw [← htk, List.getElem?_take_of_lt hjl, Array.getElem?_toList] at hj
      have e : ((⟨g, 0, none⟩ : Addr).add j) = ⟨g, j, none⟩ := by
        unfold Addr.add
        split
        · simp_all
        · simp
      rw [e]
      simp [World.cell?, hg1, hj]
    have hone : ∀ u ∈ cB l, u.oneCell' = true := by
      intro u hu
      simp only [cB, List.mem_map] at hu
      obtain ⟨b, _, rfl⟩ := hu
      rfl
    obtain ⟨v', w2, hr, hrow, hgr, _⟩ := run_append_own_at (P := Tryz.prog) w1 w.heap.size 43 43 5 i0 (.int .u8 0) 1 1 Tryz.underlying43 hi0 hz0 hz1 hz2 rfl (by decide) (.slice (some ⟨w.heap.size, 0, none⟩) 0 0) 0 [] hown ⟨g, 0, none⟩ l.length cap (cB l) (by rw [cB_length]; simp) hcells hone (by unfold maxLen; omega) (by omega) hb1.size
    have H : Hid (BtAt w2 v' l ∧ Below w.heap.size w w2) := Lib.hid ⟨by
      rw [Nat.zero_add, List.nil_append] at hrow
      exact bt_of_row hrow, hb1.grown hgr hb1.size (fun k hk => by
        simp [Value.ownBlock] at hk
        omega)⟩
    clear hg hg1 hc1 hc2 hc3 htk hown hcells hone hrow hgr hb1 hn1 hne hl
    generalize l.length = n at *
    go_enter Tryz.func61, Tryz.ntmps61
    go_wp2_with (first | (at_builtin; refine wpList_app rfl _ _ _ _ rfl _ _ rfl rfl _ w2 hr ?_))
    go_ret
    exact ⟨_, rfl, H.out⟩
/-- what the law's read tells of a file -/
def readS (D : Dk) (f : Int) : List UInt8 := if f < 0 ∨ 64 ≤ f then [110, 111, 110, 101] else D.F f.toNat
theorem Dk.Inv.len {D : Dk} (h : D.Inv) (f : Nat) (hf : f < 64) : (D.F f).length ≤ 100000000 := by
  have h1 := len_le_sum D.F f hf
  have h2 := h.sum
  have h3 := h.room
  omega
set_option maxRecDepth 100000 in
set_option maxHeartbeats 2000000 in
theorem Read_bad {N : Nat} {w : World} {Φ : Nat → Prop} {p : Nat} {D : Dk} (h : DkAt N w Φ p D) (hET : HasET w) (f : Int) (hf : badFile f) :
    Calls Tryz.prog 29 #[.pointer (some ⟨p, 0, none⟩), .int .i64 f] w fun e w' => e = .returned (.tuple #[.slice none 0 0, .int .i64 4]) ∧ Below w.heap.size w w' := by
  obtain ⟨mf, ms, V, U, lv, B, h⟩ := h
  have HA := Lib.hid ((askFile_any p mf f none 0 [] w h.isDisk (nums_nil w) (by simp)).mono (fun e w' he => Told.err he (by rw [(fileE_nil f).2 hf]; decide)))
  rw [(fileE_nil f).2 hf] at HA
  have HE := Lib.hid (fun (w1 : World) (b : Nat) (n : Int) (hw : Below w.heap.size w w1) (hc : w1.cell? ⟨b, 1, none⟩ = some (.int .i64 n)) => errno_err b n w1 (hET.below hw hET.lt) hc)
  have hq := isErr_ne
  clear h hf hET
  go_enter Tryz.func29, Tryz.ntmps29
  go_wp2_with (first | (go_at_call 60; refine HA.out.mono ?_; rintro e w1 ⟨b, rfl, hb, hc, hbw⟩) | (go_at_call 40; refine (HE.out w1 b 4 hbw hc).mono ?_; rintro e w2 ⟨rfl, hb2⟩))
  go_ret2
  exact ⟨rfl, hbw.trans (hb2.mono hbw.size)⟩
set_option maxRecDepth 100000 in
set_option maxHeartbeats 2000000 in
theorem Read_ok {N : Nat} {w : World} {Φ : Nat → Prop} {p : Nat} {D : Dk} (h : DkAt N w Φ p D) (hi : D.Inv) (f : Nat) (hf : f < 64) :
    Calls Tryz.prog 29 #[.pointer (some ⟨p, 0, none⟩), .int .i64 f] w fun e w' => ∃ v, e = .returned (.tuple #[v, .int .i64 0]) ∧ BtAt w' v (D.F f) ∧ Below w.heap.size w w' := by
  obtain ⟨mf, ms, V, U, lv, B, h⟩ := h
  have hnb : ¬ badFile (f : Int) := by unfold badFile; omega
  have HA := Lib.hid (askFile_any p mf f none 0 [] w h.isDisk (nums_nil w) (by simp))
  rw [(fileE_nil f).1 hnb] at HA
  have HA := Lib.hid (HA.out.mono (fun e w' h => Told.ok h))
  have HW : Hid (∀ w1, Below w.heap.size w w1 → w1.cell? ⟨p, 0, none⟩ = some (.map (some mf)) ∧ (Instr.lookup 69 (.map (some mf)) (.int .i64 f) false).run Tryz.prog w1 = .ok (V f) w1 ∧ Calls Tryz.prog 61 #[V f] w1 fun e w' => ∃ v', e = .returned v' ∧ BtAt w' v' (D.F f) ∧ Below w1.heap.size w1 w') := Lib.hid fun w1 hb => by
    have h2 := h.keep hb.size (fun k hk => hb.block k (h.lt k hk).2)
    exact ⟨h2.isDisk, h2.ff.map.lookup Tryz.underlying69 Tryz.underlying3 (zeroB w1) f, clonB_any _ _ w1 (h2.ff.row f) (hi.len f hf)⟩
  have hq := isErr_eqn
  clear h hi hf hnb
  generalize V f = vf at *
  generalize D.F f = lf at *
  go_enter Tryz.func29, Tryz.ntmps29
  go_wp2_with (first | (go_at_call 60; refine HA.out.mono ?_; rintro e w1 ⟨rfl, hb1⟩; obtain ⟨hc0, hlk, hcl⟩ := HW.out w1 hb1; have HCL := Lib.hid hcl; clear hcl) | (go_at_call 61; refine HCL.out.mono ?_; rintro e w2 ⟨v', rfl, hbt, hb2⟩))
  go_ret2
  exact ⟨_, rfl, hbt, hb1.trans (hb2.mono hb1.size)⟩
set_option maxHeartbeats 1000000 in
theorem Loose_any {N : Nat} {w : World} {Φ : Nat → Prop} {p : Nat} {D : Dk} (h : DkAt N w Φ p D) :
    Calls Tryz.prog 20 #[.pointer (some ⟨p, 0, none⟩)] w fun e w' => e = .returned (.int .i64 D.L.length) ∧ w = w' := by
  obtain ⟨mf, ms, V, U, lv, B, h⟩ := h
  obtain ⟨oa, cap, rfl, hc, _⟩ := things_row h.row
  have hB : B.length = D.L.length := by rw [← h.lb, List.length_map]
  have c2 : w.cell? ⟨p, 2, none⟩ = some (.slice oa B.length cap) := by simp [World.cell?, h.p0]
  have HI := Lib.hid (isNone_ok p mf w h.isDisk)
  rw [hB] at c2
  clear h hB hc
  generalize D.L.length = n at *
  go_enter Tryz.func20, Tryz.ntmps20
  go_wp2_with (first | (go_at_call 47; refine HI.out.mono ?_; rintro e w1 ⟨rfl, rfl⟩))
  go_ret
  exact ⟨rfl, rfl⟩
set_option maxHeartbeats 1000000 in
theorem Left_any {N : Nat} {w : World} {Φ : Nat → Prop} {p : Nat} {D : Dk} (h : DkAt N w Φ p D) (hi : D.Inv) :
    Calls Tryz.prog 18 #[.pointer (some ⟨p, 0, none⟩)] w fun e w' => e = .returned (.int .i64 D.left) ∧ Below w.heap.size w w' := by
  obtain ⟨mf, ms, V, U, lv, B, h0⟩ := id h
  have HI := Lib.hid (isNone_ok p mf w h0.isDisk)
  have HL := Lib.hid (left_any h hi.ok)
  clear h h0 hi
  generalize D.left = dl at *
  go_enter Tryz.func18, Tryz.ntmps18
  go_wp2_with (first | (go_at_call 47; refine HI.out.mono ?_; rintro e w1 ⟨rfl, rfl⟩) | (go_at_call 48; refine HL.out.mono ?_; rintro e w1 ⟨rfl, hb⟩))
  go_ret
  exact ⟨rfl, hb⟩
end Go.Proofs.YtbhgcioeibhjeaaGreatDoor
