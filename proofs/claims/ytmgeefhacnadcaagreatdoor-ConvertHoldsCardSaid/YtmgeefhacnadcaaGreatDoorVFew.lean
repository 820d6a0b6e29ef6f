/-
  The small functions of convert's rows: num, of, bytes, column, short, does.
-/
import Derived.Test.YtmgeefhacnadcaaGreatDoorVTopE
namespace Go.Proofs.YtmgeefhacnadcaaGreatDoor
open Go.RowKit

theorem l6num_any (n : Int) (w : World) : Calls Tryz.prog 12 #[.int .i64 n] w fun e w' => e = .returned (.int .i64 n) ∧ w = w' := by
  go_enter Tryz.func12, Tryz.ntmps12
  go_wp2
  go_ret
  exact ⟨rfl, rfl⟩
set_option maxHeartbeats 400000 in
theorem l6of_any (n : Int) (w : World) : Calls Tryz.prog 24 #[.int .i64 n] w fun e w' => e = .returned (.agg #[.int .i64 1, .int .i64 n, .int .u64 0, .string ⟨#[]⟩]) ∧ Below w.heap.size w w' := by
  go_enter Tryz.func24, Tryz.ntmps24
  go_wp2
  go_returns
  exact ⟨rfl, by go_grown⟩
set_option maxHeartbeats 400000 in
theorem l6bytes_any (s : ByteArray) (w : World) : Calls Tryz.prog 25 #[.string s] w fun e w' => e = .returned (.agg #[.int .i64 4, .int .i64 0, .int .u64 0, .string s]) ∧ Below w.heap.size w w' := by
  go_enter Tryz.func25, Tryz.ntmps25
  go_wp2
  go_returns
  exact ⟨rfl, by go_grown⟩
set_option maxHeartbeats 400000 in
theorem l6column_any (t z : Int) (w : World) : Calls Tryz.prog 22 #[.int .i64 t, .int .i64 z] w fun e w' => e = .returned (.agg #[.string ⟨#[97]⟩, .int .i64 t, .int .i64 z, .bool false]) ∧ Below w.heap.size w w' := by
  go_enter Tryz.func22, Tryz.ntmps22
  go_wp2
  go_returns
  exact ⟨rfl, by go_grown⟩
set_option maxHeartbeats 400000 in
theorem l6short_any (c : Col) (w : World) : Calls Tryz.prog 8 #[.agg #[.string c.n, .int .i64 c.t, .int .i64 c.z, .bool c.u]] w fun e w' => e = .returned (.bool (decide ((c.n.size : Int) ≤ 40))) ∧ Below w.heap.size w w' := by
  go_enter Tryz.func8, Tryz.ntmps8
  go_wp2
  go_returns
  exact ⟨rfl, by go_grown⟩

theorem cvO_num (c d : Col) (v : Vl) : 0 ≤ (cvO c d v).1 ∧ (cvO c d v).1 ≤ 200 := by
  have h1 : 0 ≤ fitN c v ∧ fitN c v ≤ 200 := by
    have h2 : v.chk = 0 ∨ v.chk = 2 ∨ v.chk = 3 := by
      show chk v.k v.i v.u v.s = 0 ∨ chk v.k v.i v.u v.s = 2 ∨ chk v.k v.i v.u v.s = 3
      unfold chk
      repeat' split
      all_goals simp
    unfold fitN
    repeat' split
    all_goals omega
  unfold cvO
  repeat' split
  all_goals first | exact h1 | exact ⟨Int.le_refl 0, (by decide : (0 : Int) ≤ 200)⟩ | exact ⟨(by decide : (0 : Int) ≤ 161), (by decide : (161 : Int) ≤ 200)⟩ | exact ⟨(by decide : (0 : Int) ≤ 160), (by decide : (160 : Int) ≤ 200)⟩ | exact ⟨(by decide : (0 : Int) ≤ 2), (by decide : (2 : Int) ≤ 200)⟩
/-- what 'does' answers -/
def doesV (c d : Col) (v : Vl) : Vl := if (cvO c d v).1 ≠ 0 then ⟨2, 0, (cvO c d v).1, ⟨#[]⟩⟩ else (cvO c d v).2
set_option maxRecDepth 100000 in
set_option maxHeartbeats 4000000 in
theorem does_of (c d : Col) (v x : Vl) (n : Int) (h0 : 0 ≤ n) (h1 : n ≤ 200) (w : World) (hC : ∀ W, Below w.heap.size w W → Calls Tryz.prog 10 #[.agg #[.string c.n, .int .i64 c.t, .int .i64 c.z, .bool c.u], .agg #[.string d.n, .int .i64 d.t, .int .i64 d.z, .bool d.u], .agg #[.int .i64 v.k, .int .i64 v.i, .int .u64 v.u, .string v.s]] W fun e w' => e = .returned (.tuple #[.agg #[.int .i64 x.k, .int .i64 x.i, .int .u64 x.u, .string x.s], .int .i64 n]) ∧ Below W.heap.size W w') :
    Calls Tryz.prog 23 #[.agg #[.string c.n, .int .i64 c.t, .int .i64 c.z, .bool c.u], .agg #[.string d.n, .int .i64 d.t, .int .i64 d.z, .bool d.u], .agg #[.int .i64 v.k, .int .i64 v.i, .int .u64 v.u, .string v.s]] w fun e w' => e = .returned (if n ≠ 0 then .agg #[.int .i64 2, .int .i64 0, .int .u64 n, .string ⟨#[]⟩] else .agg #[.int .i64 x.k, .int .i64 x.i, .int .u64 x.u, .string x.s]) ∧ Below w.heap.size w w' := by
  have HC := Lib.hid hC
  have hmx : max 0 n = n := by omega
  have hwr : IntKind.u64.wrap n = n := wrapU h0 (by omega)
  clear hC
  go_enter Tryz.func23, Tryz.ntmps23
  go_upto_region 1 with fail
  obtain ⟨W1, hW1⟩ : ∃ W1, (((w.alloc (.cells #[.string c.n, .int .i64 c.t, .int .i64 c.z, .bool c.u] 24)).alloc (.cells #[.string d.n, .int .i64 d.t, .int .i64 d.z, .bool d.u] 24)).alloc (.cells #[.int .i64 v.k, .int .i64 v.i, .int .u64 v.u, .string v.s] 28)).alloc (.cells #[.int .i64 0, .int .i64 0, .int .u64 0, .string ⟨#[]⟩] 28) = W1 := ⟨_, rfl⟩
  have hb1 : Below w.heap.size w W1 := by rw [← hW1]; exact ((((Below.refl _ _).alloc (Nat.le_refl _) _).alloc (by simp) _).alloc (by simp; omega) _).alloc (by simp; omega) _
  have a0 : W1.cell? ⟨w.heap.size, 0, none⟩ = some (.string c.n) := by rw [← hW1]; simp [go_sem]
  have a1 : W1.cell? ⟨w.heap.size, 1, none⟩ = some (.int .i64 c.t) := by rw [← hW1]; simp [go_sem]
  have a2 : W1.cell? ⟨w.heap.size, 2, none⟩ = some (.int .i64 c.z) := by rw [← hW1]; simp [go_sem]
  have a3 : W1.cell? ⟨w.heap.size, 3, none⟩ = some (.bool c.u) := by rw [← hW1]; simp [go_sem]
  have b0 : W1.cell? ⟨w.heap.size + 1, 0, none⟩ = some (.string d.n) := by rw [← hW1]; simp [go_sem]
  have b1 : W1.cell? ⟨w.heap.size + 1, 1, none⟩ = some (.int .i64 d.t) := by rw [← hW1]; simp [go_sem]
  have b2 : W1.cell? ⟨w.heap.size + 1, 2, none⟩ = some (.int .i64 d.z) := by rw [← hW1]; simp [go_sem]
  have b3 : W1.cell? ⟨w.heap.size + 1, 3, none⟩ = some (.bool d.u) := by rw [← hW1]; simp [go_sem]
  have v0 : W1.cell? ⟨w.heap.size + 1 + 1, 0, none⟩ = some (.int .i64 v.k) := by rw [← hW1]; simp [go_sem]
  have v1 : W1.cell? ⟨w.heap.size + 1 + 1, 1, none⟩ = some (.int .i64 v.i) := by rw [← hW1]; simp [go_sem]
  have v2 : W1.cell? ⟨w.heap.size + 1 + 1, 2, none⟩ = some (.int .u64 v.u) := by rw [← hW1]; simp [go_sem]
  have v3 : W1.cell? ⟨w.heap.size + 1 + 1, 3, none⟩ = some (.string v.s) := by rw [← hW1]; simp [go_sem]
  have r0 : W1.cell? ⟨w.heap.size + 1 + 1 + 1, 0, none⟩ = some (.int .i64 0) := by rw [← hW1]; simp [go_sem]
  have r1 : W1.cell? ⟨w.heap.size + 1 + 1 + 1, 1, none⟩ = some (.int .i64 0) := by rw [← hW1]; simp [go_sem]
  have r2 : W1.cell? ⟨w.heap.size + 1 + 1 + 1, 2, none⟩ = some (.int .u64 0) := by rw [← hW1]; simp [go_sem]
  have r3 : W1.cell? ⟨w.heap.size + 1 + 1 + 1, 3, none⟩ = some (.string ⟨#[]⟩) := by rw [← hW1]; simp [go_sem]
  have fr0 : W1.frozen? ⟨w.heap.size + 1 + 1 + 1, 0, none⟩ = false := by rw [← hW1]; simp [go_sem]
  have fr1 : W1.frozen? ⟨w.heap.size + 1 + 1 + 1, 1, none⟩ = false := by rw [← hW1]; simp [go_sem]
  have fr2 : W1.frozen? ⟨w.heap.size + 1 + 1 + 1, 2, none⟩ = false := by rw [← hW1]; simp [go_sem]
  have fr3 : W1.frozen? ⟨w.heap.size + 1 + 1 + 1, 3, none⟩ = false := by rw [← hW1]; simp [go_sem]
  rw [hW1]
  have HB1 := Lib.hid hb1
  clear hW1 hb1
  have hy3 : w.heap.size + 1 + 1 + 1 < W1.heap.size := World.block_lt_of_cell? _ _ r0
  have hy2 : w.heap.size + 1 + 1 < W1.heap.size := by omega
  have hy1 : w.heap.size + 1 < W1.heap.size := by omega
  have hy0 : w.heap.size < W1.heap.size := by omega
  have HR := Lib.hid (held2 r0 r1 r2 r3 fr0 fr1 fr2 fr3)
  have HS : Hid (∀ W, Below W1.heap.size W1 W → W.cell? ⟨w.heap.size, 0, none⟩ = some (.string c.n) ∧ W.cell? ⟨w.heap.size, 1, none⟩ = some (.int .i64 c.t) ∧ W.cell? ⟨w.heap.size, 2, none⟩ = some (.int .i64 c.z) ∧ W.cell? ⟨w.heap.size, 3, none⟩ = some (.bool c.u) ∧ W.cell? ⟨w.heap.size + 1, 0, none⟩ = some (.string d.n) ∧ W.cell? ⟨w.heap.size + 1, 1, none⟩ = some (.int .i64 d.t) ∧ W.cell? ⟨w.heap.size + 1, 2, none⟩ = some (.int .i64 d.z) ∧ W.cell? ⟨w.heap.size + 1, 3, none⟩ = some (.bool d.u) ∧ W.cell? ⟨w.heap.size + 1 + 1, 0, none⟩ = some (.int .i64 v.k) ∧ W.cell? ⟨w.heap.size + 1 + 1, 1, none⟩ = some (.int .i64 v.i) ∧ W.cell? ⟨w.heap.size + 1 + 1, 2, none⟩ = some (.int .u64 v.u) ∧ W.cell? ⟨w.heap.size + 1 + 1, 3, none⟩ = some (.string v.s) ∧ Below W1.heap.size W1 W) := Lib.hid (fun W hb => ⟨keep_cell hb a0, keep_cell hb a1, keep_cell hb a2, keep_cell hb a3, keep_cell hb b0, keep_cell hb b1, keep_cell hb b2, keep_cell hb b3, keep_cell hb v0, keep_cell hb v1, keep_cell hb v2, keep_cell hb v3, hb⟩)
  clear r0 r1 r2 r3 fr0 fr1 fr2 fr3
  go_wp2_with fail
  refine (HC.out _ HB1.out).mono ?_
  rintro e w2 ⟨rfl, hb2⟩
  go_upto_region 2 with fail
  obtain ⟨W3, hW3⟩ : ∃ W3, w2.alloc (.cells #[.int .i64 x.k, .int .i64 x.i, .int .u64 x.u, .string x.s] 28) = W3 := ⟨_, rfl⟩
  have hb3 : Below w2.heap.size w2 W3 := by rw [← hW3]; exact (Below.refl _ _).alloc (Nat.le_refl _) _
  have q0 : W3.cell? ⟨w2.heap.size, 0, none⟩ = some (.int .i64 x.k) := by rw [← hW3]; simp [go_sem]
  have q1 : W3.cell? ⟨w2.heap.size, 1, none⟩ = some (.int .i64 x.i) := by rw [← hW3]; simp [go_sem]
  have q2 : W3.cell? ⟨w2.heap.size, 2, none⟩ = some (.int .u64 x.u) := by rw [← hW3]; simp [go_sem]
  have q3 : W3.cell? ⟨w2.heap.size, 3, none⟩ = some (.string x.s) := by rw [← hW3]; simp [go_sem]
  rw [hW3]
  have hbx := held_trans hb2 hb3
  obtain ⟨r0, r1, r2, r3, f0, f1, f2, f3⟩ := Held2.keep HR.out hbx
  have hwz := hbx.size
  have HBX := Lib.hid (HB1.out.trans (hbx.mono HB1.out.size))
  clear hW3 hb2 hb3 hbx HS HR HC a0 a1 a2 a3 b0 b1 b2 b3 v0 v1 v2 v3
  by_cases hn : n = 0
  · subst hn
    go_wp2_with (first | (go_at_call 12; refine (l6num_any _ _).mono ?_; rintro e w5 ⟨rfl, rfl⟩))
    refine bodyPost_ret (v := .agg #[.int .i64 x.k, .int .i64 x.i, .int .u64 x.u, .string x.s]) (by simp [results, Tryz.results23, go_sem, r0, r1, r2, r3]) rfl ⟨rfl, ?_⟩
    exact below_set4 HBX.out (by omega) _ _ _ _
  · have hnb : (n != 0) = true := by simpa using hn
    go_wp2_with (first | (go_at_call 12; refine (l6num_any _ _).mono ?_; rintro e w5 ⟨rfl, rfl⟩))
    refine bodyPost_ret (v := .agg #[.int .i64 2, .int .i64 0, .int .u64 n, .string ⟨#[]⟩]) (by simp [results, Tryz.results23, go_sem, r0, r1, r2, r3]) rfl ⟨rfl, ?_⟩
    exact below_set4 HBX.out (by omega) _ _ _ _
theorem does_any (c d : Col) (v : Vl) (w : World) (hE : Env w) (n1 : c.n.size ≤ 9223372036854775807) (n2 : d.n.size ≤ 9223372036854775807) (hv : v.ok) :
    Calls Tryz.prog 23 #[.agg #[.string c.n, .int .i64 c.t, .int .i64 c.z, .bool c.u], .agg #[.string d.n, .int .i64 d.t, .int .i64 d.z, .bool d.u], .agg #[.int .i64 v.k, .int .i64 v.i, .int .u64 v.u, .string v.s]] w fun e w' => e = .returned (.agg #[.int .i64 (doesV c d v).k, .int .i64 (doesV c d v).i, .int .u64 (doesV c d v).u, .string (doesV c d v).s]) ∧ Below w.heap.size w w' := by
  refine (does_of c d v _ _ (cvO_num c d v).1 (cvO_num c d v).2 w (fun W hb => Convert_any c d v W (hE.keep hb) n1 n2 hv)).mono ?_
  rintro e w' ⟨rfl, hb⟩
  refine ⟨?_, hb⟩
  unfold doesV
  by_cases h : (cvO c d v).1 ≠ 0
  · rw [if_pos h, if_pos h]
  · rw [if_neg h, if_neg h]
end Go.Proofs.YtmgeefhacnadcaaGreatDoor
