/-
  log: the octets of a log; walk.
-/
import Derived.Test.YtbhgcioeibhjeaaGreatDoorLApp
import Derived.Test.YtbhgcioeibhjeaaGreatDoorDApart
namespace Go.Proofs.YtbhgcioeibhjeaaGreatDoor
open Go.RowKit

theorem SlAt.of {w : World} {v : Value} {l : List UInt8} (h : SlAt w v l) : BytesOf w v l := by
  rcases h with ⟨rfl, rfl⟩ | ⟨_, g, cap, cur, rfl, hg, hc1, hc2, hc3, htk⟩
  · exact .inl ⟨rfl, rfl⟩
  · refine .inr ⟨_, cap, rfl, hc1, fun j hj => ?_⟩
    have e : ((⟨g, 0, none⟩ : Addr).add j) = ⟨g, j, none⟩ := by
      unfold Addr.add
      split
      · simp_all
      · simp
    have hc : (cB l)[j]? = some (.int .u8 (l[j].toNat : Int)) := by simp [cB, hj]
    rw [← htk, List.getElem?_take_of_lt (by omega), Array.getElem?_toList] at hc
    rw [e]
    simp [World.cell?, hg, hc]
set_option maxRecDepth 100000 in
set_option maxHeartbeats 2000000 in
theorem Read_new {N : Nat} {w : World} {Φ : Nat → Prop} {p : Nat} {D : Dk} (h : DkAt N w Φ p D) (hi : D.Inv) (f : Nat) (hf : f < 64) :
    Calls Tryz.prog 29 #[.pointer (some ⟨p, 0, none⟩), .int .i64 f] w fun e w' => ∃ v, e = .returned (.tuple #[v, .int .i64 0]) ∧ BytesOf w' v (D.F f) ∧ Below w.heap.size w w' ∧ ∀ g, v.ownBlock = some g → w.heap.size ≤ g := by
  obtain ⟨mf, ms, V, U, lv, B, h⟩ := h
  have hnb : ¬ badFile (f : Int) := by unfold badFile; omega
  have HA := Lib.hid (askFile_any p mf f none 0 [] w h.isDisk (nums_nil w) (by simp))
  rw [(fileE_nil f).1 hnb] at HA
  have HA := Lib.hid (HA.out.mono (fun e w' h => Told.ok h))
  have HW : Hid (∀ w1, Below w.heap.size w w1 → w1.cell? ⟨p, 0, none⟩ = some (.map (some mf)) ∧ (Instr.lookup 69 (.map (some mf)) (.int .i64 f) false).run Tryz.prog w1 = .ok (V f) w1 ∧ Calls Tryz.prog 61 #[V f] w1 fun e w' => ∃ v', e = .returned v' ∧ SlAt w' v' (D.F f) ∧ (∀ g, v'.ownBlock = some g → w1.heap.size ≤ g) ∧ Below w1.heap.size w1 w') := Lib.hid fun w1 hb => by
    have h2 := h.keep hb.size (fun k hk => hb.block k (h.lt k hk).2)
    have hfl : (D.F f).length ≤ 100000000 := by
      have h1 := len_le_sum D.F f hf
      have h2 := hi.sum
      have h3 := hi.room
      omega
    exact ⟨h2.isDisk, h2.ff.map.lookup Tryz.underlying69 Tryz.underlying3 (zeroB w1) f, clonS_any _ _ w1 (h2.ff.row f) hfl⟩
  have hq := isErr_eqn
  clear h hi hf hnb
  generalize V f = vf at *
  generalize D.F f = lf at *
  go_enter Tryz.func29, Tryz.ntmps29
  go_wp2_with (first | (go_at_call 60; refine HA.out.mono ?_; rintro e w1 ⟨rfl, hb1⟩; obtain ⟨hc0, hlk, hcl⟩ := HW.out w1 hb1; have HCL := Lib.hid hcl; clear hcl) | (go_at_call 61; refine HCL.out.mono ?_; rintro e w2 ⟨v', rfl, hbt, hown, hb2⟩; have HBT := Lib.hid (And.intro hbt.of hown); clear hbt hown))
  go_ret2
  exact ⟨_, rfl, HBT.out.1, hb1.trans (hb2.mono hb1.size), fun g hg => Nat.le_trans hb1.size (HBT.out.2 g hg)⟩
set_option maxRecDepth 100000 in
set_option maxHeartbeats 2000000 in
theorem Read_sl {N : Nat} {w : World} {Φ : Nat → Prop} {p : Nat} {D : Dk} (h : DkAt N w Φ p D) (hi : D.Inv) (f : Nat) (hf : f < 64) :
    Calls Tryz.prog 29 #[.pointer (some ⟨p, 0, none⟩), .int .i64 f] w fun e w' => ∃ v, e = .returned (.tuple #[v, .int .i64 0]) ∧ BytesOf w' v (D.F f) ∧ Below w.heap.size w w' := by
  refine (Read_new h hi f hf).mono ?_
  rintro e w' ⟨v, h1, h2, h3, _⟩
  exact ⟨v, h1, h2, h3⟩
set_option maxRecDepth 100000 in
set_option maxHeartbeats 2000000 in
theorem loctets_ok {w W : World} {q p : Nat} {D : Dk} {e t : Int} {f : Nat} (h : LRun w W q p D f e t) (hf : f < 64) :
    Calls Tryz.prog 53 #[.pointer (some ⟨q, 0, none⟩)] W fun x W' => ∃ v, x = .returned v ∧ BytesOf W' v (D.F f) ∧ Below W.heap.size W W' := by
  have HN := Lib.hid (lisNone_ok q p f e t W h.log)
  have hlog := h.log
  have HR : Hid (Calls Tryz.prog 29 #[.pointer (some ⟨p, 0, none⟩), .int .i64 f] W.drew fun x w' => ∃ v, x = .returned (.tuple #[v, .int .i64 0]) ∧ BytesOf w' v (D.F f) ∧ (LogC w' q p f e t ∧ Below W.heap.size W w')) := Lib.hid (by
    have h2 := h.below ((Below.refl _ W).drew)
    obtain ⟨Φ, k1, k2, k3, k4, k5, k6⟩ := h2
    refine (Read_sl k1 k3 f hf).mono ?_
    rintro x w' ⟨v, x0, hb, hw⟩
    exact ⟨v, x0, hb, (h.below (((Below.refl _ W).drew).trans hw)).log, ((Below.refl _ W).drew).trans hw⟩)
  obtain ⟨c0, c1, c2, c3⟩ := hlog.cells
  clear h hlog
  generalize D.F f = lf at *
  go_enter Tryz.func53, Tryz.ntmps53
  go_wp2_with (first | (go_at_call 56; with_reducible refine HN.out.mono ?_; rintro x w1 ⟨rfl, rfl⟩))
  go_region_held3 (fun X => X.cell? ⟨q, 0, none⟩ = some (.pointer (some ⟨p, 0, none⟩)) ∧ X.cell? ⟨q, 1, none⟩ = some (.int .i64 f)) (first | exact ⟨c0, c1⟩ | assumption)
    (first | (go_at_call 29; with_reducible refine HR.out.mono ?_; rintro x w3 ⟨v, rfl, hb3, hl3, hw3⟩; obtain ⟨d0, d1, d2, d3⟩ := hl3.cells; have hS3 := And.intro d0 d1; have H3 := Lib.hid (And.intro hb3 hw3); clear hb3 hw3 hl3))
  go_wp2_with fail
  go_ret
  exact ⟨_, rfl, H3.out⟩
set_option maxRecDepth 100000 in
set_option maxHeartbeats 1000000 in
theorem walk_any (i : Int) (fn : Value) (w : World) (hfn : fn.oneCell' = true) :
    Calls Tryz.prog 43 #[.int .i64 i, fn] w fun x w' => x = .returned (.func (.func 72) #[] #[.pointer (some ⟨w.heap.size, 0, none⟩), .pointer (some ⟨w.heap.size + 1, 0, none⟩)]) ∧ w'.cell? ⟨w.heap.size, 0, none⟩ = some (.int .i64 i) ∧ w'.cell? ⟨w.heap.size + 1, 0, none⟩ = some fn ∧ Below w.heap.size w w' := by
  have hmf : ∀ (fn : Fn) (first cap : Array Value) (w : World), (Instr.makeFunc fn first cap).run Tryz.prog w = .ok (.func fn first cap) w := fun _ _ _ _ => rfl
  have hcl : fn.cells = #[fn] := by
    cases fn <;> first | rfl | (simp [Value.oneCell'] at hfn)
  go_enter Tryz.func43, Tryz.ntmps43
  go_wp2_with fail
  go_ret
  refine ⟨rfl, ?_, ?_, ((Below.refl _ w).alloc (Nat.le_refl _) _).alloc (by simp) _⟩
  · have h := heap_alloc_at w (.cells #[.int .i64 i] 3)
    rw [World.cell?_of_block (a := ⟨w.heap.size, 0, none⟩) (Below.heap_alloc _ _ _ (by simp))]
    simp only [World.cell?]
    rw [h]
    rfl
  · have h := heap_alloc_at (w.alloc (.cells #[.int .i64 i] 3)) (.cells #[fn] 100)
    rw [World.size_alloc] at h
    simp only [World.cell?]
    first | (rw [h]; rfl) | simp [h]
end Go.Proofs.YtbhgcioeibhjeaaGreatDoor
