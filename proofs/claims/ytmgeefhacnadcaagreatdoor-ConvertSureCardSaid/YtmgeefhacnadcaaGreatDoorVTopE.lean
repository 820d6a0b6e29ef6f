/-
  convert.Convert: at an error; altogether.
-/
import Derived.Test.YtmgeefhacnadcaaGreatDoorVTop
namespace Go.Proofs.YtmgeefhacnadcaaGreatDoor
open Go.RowKit

set_option maxRecDepth 100000 in
set_option maxHeartbeats 8000000 in
theorem Convert_err (c d : Col) (v : Vl) (w : World) (hE : Env w) (n : Int) (hC : ∀ r es cl W, Below w.heap.size w W → W.heap[r]? = some (.map es cl) → IsWays es → Calls Tryz.prog 27 #[.map (some r), .agg #[.string c.n, .int .i64 c.t, .int .i64 c.z, .bool c.u], .agg #[.string d.n, .int .i64 d.t, .int .i64 d.z, .bool d.u], .agg #[.int .i64 v.k, .int .i64 v.i, .int .u64 v.u, .string v.s]] W fun e w' => ∃ b, e = .returned (.tuple #[.agg #[.int .i64 0, .int .i64 0, .int .u64 0, .string ⟨#[]⟩], .iface 147 (.pointer (some ⟨b, 0, none⟩))]) ∧ W.heap.size ≤ b ∧ w'.cell? ⟨b, 1, none⟩ = some (.int .i64 n) ∧ Below W.heap.size W w') :
    Calls Tryz.prog 10 #[.agg #[.string c.n, .int .i64 c.t, .int .i64 c.z, .bool c.u], .agg #[.string d.n, .int .i64 d.t, .int .i64 d.z, .bool d.u], .agg #[.int .i64 v.k, .int .i64 v.i, .int .u64 v.u, .string v.s]] w fun e w' => e = .returned (.tuple #[.agg #[.int .i64 0, .int .i64 0, .int .u64 0, .string ⟨#[]⟩], .int .i64 n]) ∧ Below w.heap.size w w' := by
  have HE := Lib.hid (fun W (hb : Below w.heap.size w W) => (hE.keep hb).et)
  have HC := Lib.hid hC
  clear hE hC
  go_enter Tryz.func10, Tryz.ntmps10
  go_upto_region 1 with fail
  obtain ⟨W1, hW1⟩ : ∃ W1, (((w.alloc (.cells #[.string c.n, .int .i64 c.t, .int .i64 c.z, .bool c.u] 24)).alloc (.cells #[.string d.n, .int .i64 d.t, .int .i64 d.z, .bool d.u] 24)).alloc (.cells #[.int .i64 v.k, .int .i64 v.i, .int .u64 v.u, .string v.s] 28)).alloc (.cells #[.int .i64 0, .int .i64 0, .int .u64 0, .string ⟨#[]⟩] 28) = W1 := ⟨_, rfl⟩
  have hb1 : Below w.heap.size w W1 := by rw [← hW1]; exact ((((Below.refl _ _).alloc (Nat.le_refl _) _).alloc (by simp) _).alloc (by simp; omega) _).alloc (by simp; omega) _
  have a0 : W1.cell? ⟨w.heap.size, 0, none⟩ = some (.string c.n) := by rw [← hW1]; simp [go_sem]
  have a1 : W1.cell? ⟨w.heap.size, 1, none⟩ = some (.int .i64 c.t) := by rw [← hW1]; simp [go_sem]
  have a2 : W1.cell? ⟨w.heap.size, 2, none⟩ = some (.int .i64 c.z) := by rw [← hW1]; simp [go_sem]
  have a3 : W1.cell? ⟨w.heap.size, 3, none⟩ = some (.bool c.u) := by rw [← hW1]; simp [go_sem]
  have b0 : W1.cell? ⟨w.heap.size + 1, 0, none⟩ = some (.string d.n) := by rw [← hW1]; simp [go_sem]
  have b1 : W1.cell? ⟨w.heap.size + 1, 1, none⟩ = some (.int .i64 d.t) := by rw [← hW1]; simp [go_sem]
  have b2 : W1.cell? ⟨w.heap.size + 1, 2, none⟩ = some (.int .i64 d.z) := by rw [← hW1]; simp [go_sem]
  have b3 : W1.cell? ⟨w.heap.size + 1, 3, none⟩ = some (.bool d.u) := by rw [← hW1]; simp [go_sem]
  have v0 : W1.cell? ⟨w.heap.size + 1 + 1, 0, none⟩ = some (.int .i64 v.k) := by rw [← hW1]; simp [go_sem]
  have v1 : W1.cell? ⟨w.heap.size + 1 + 1, 1, none⟩ = some (.int .i64 v.i) := by rw [← hW1]; simp [go_sem]
  have v2 : W1.cell? ⟨w.heap.size + 1 + 1, 2, none⟩ = some (.int .u64 v.u) := by rw [← hW1]; simp [go_sem]
  have v3 : W1.cell? ⟨w.heap.size + 1 + 1, 3, none⟩ = some (.string v.s) := by rw [← hW1]; simp [go_sem]
  have r0 : W1.cell? ⟨w.heap.size + 1 + 1 + 1, 0, none⟩ = some (.int .i64 0) := by rw [← hW1]; simp [go_sem]
  have r1 : W1.cell? ⟨w.heap.size + 1 + 1 + 1, 1, none⟩ = some (.int .i64 0) := by rw [← hW1]; simp [go_sem]
  have r2 : W1.cell? ⟨w.heap.size + 1 + 1 + 1, 2, none⟩ = some (.int .u64 0) := by rw [← hW1]; simp [go_sem]
  have r3 : W1.cell? ⟨w.heap.size + 1 + 1 + 1, 3, none⟩ = some (.string ⟨#[]⟩) := by rw [← hW1]; simp [go_sem]
  have fr0 : W1.frozen? ⟨w.heap.size + 1 + 1 + 1, 0, none⟩ = false := by rw [← hW1]; simp [go_sem]
  have fr1 : W1.frozen? ⟨w.heap.size + 1 + 1 + 1, 1, none⟩ = false := by rw [← hW1]; simp [go_sem]
  have fr2 : W1.frozen? ⟨w.heap.size + 1 + 1 + 1, 2, none⟩ = false := by rw [← hW1]; simp [go_sem]
  have fr3 : W1.frozen? ⟨w.heap.size + 1 + 1 + 1, 3, none⟩ = false := by rw [← hW1]; simp [go_sem]
  rw [hW1]
  have HB1 := Lib.hid hb1
  clear hW1 hb1
  have hy3 : w.heap.size + 1 + 1 + 1 < W1.heap.size := World.block_lt_of_cell? _ _ r0
  have hy2 : w.heap.size + 1 + 1 < W1.heap.size := by omega
  have hy1 : w.heap.size + 1 < W1.heap.size := by omega
  have hy0 : w.heap.size < W1.heap.size := by omega
  have HR := Lib.hid (And.intro r0 (And.intro r1 (And.intro r2 (And.intro r3 (And.intro fr0 (And.intro fr1 (And.intro fr2 (fr3))))))))
  have HS : Hid (∀ W, Below W1.heap.size W1 W → W.cell? ⟨w.heap.size, 0, none⟩ = some (.string c.n) ∧ W.cell? ⟨w.heap.size, 1, none⟩ = some (.int .i64 c.t) ∧ W.cell? ⟨w.heap.size, 2, none⟩ = some (.int .i64 c.z) ∧ W.cell? ⟨w.heap.size, 3, none⟩ = some (.bool c.u) ∧ W.cell? ⟨w.heap.size + 1, 0, none⟩ = some (.string d.n) ∧ W.cell? ⟨w.heap.size + 1, 1, none⟩ = some (.int .i64 d.t) ∧ W.cell? ⟨w.heap.size + 1, 2, none⟩ = some (.int .i64 d.z) ∧ W.cell? ⟨w.heap.size + 1, 3, none⟩ = some (.bool d.u) ∧ W.cell? ⟨w.heap.size + 1 + 1, 0, none⟩ = some (.int .i64 v.k) ∧ W.cell? ⟨w.heap.size + 1 + 1, 1, none⟩ = some (.int .i64 v.i) ∧ W.cell? ⟨w.heap.size + 1 + 1, 2, none⟩ = some (.int .u64 v.u) ∧ W.cell? ⟨w.heap.size + 1 + 1, 3, none⟩ = some (.string v.s) ∧ Below W1.heap.size W1 W) := Lib.hid (fun W hb => ⟨keep_cell hb a0, keep_cell hb a1, keep_cell hb a2, keep_cell hb a3, keep_cell hb b0, keep_cell hb b1, keep_cell hb b2, keep_cell hb b3, keep_cell hb v0, keep_cell hb v1, keep_cell hb v2, keep_cell hb v3, hb⟩)
  clear r0 r1 r2 r3 fr0 fr1 fr2 fr3
  go_cut [8, 9] (fun s8 s9 wx => ∃ q b, s8 = .pointer (some ⟨q, 0, none⟩) ∧ s9 = .iface 147 (.pointer (some ⟨b, 0, none⟩)) ∧ W1.heap.size ≤ q ∧ wx.cell? ⟨q, 0, none⟩ = some (.int .i64 0) ∧ wx.cell? ⟨q, 1, none⟩ = some (.int .i64 0) ∧ wx.cell? ⟨q, 2, none⟩ = some (.int .u64 0) ∧ wx.cell? ⟨q, 3, none⟩ = some (.string ⟨#[]⟩) ∧ wx.cell? ⟨b, 1, none⟩ = some (.int .i64 n) ∧ Below W1.heap.size W1 wx)
  case first =>
    go_region_held3 (fun w' => w'.cell? ⟨w.heap.size, 0, none⟩ = some (.string c.n) ∧ w'.cell? ⟨w.heap.size, 1, none⟩ = some (.int .i64 c.t) ∧ w'.cell? ⟨w.heap.size, 2, none⟩ = some (.int .i64 c.z) ∧ w'.cell? ⟨w.heap.size, 3, none⟩ = some (.bool c.u) ∧ w'.cell? ⟨w.heap.size + 1, 0, none⟩ = some (.string d.n) ∧ w'.cell? ⟨w.heap.size + 1, 1, none⟩ = some (.int .i64 d.t) ∧ w'.cell? ⟨w.heap.size + 1, 2, none⟩ = some (.int .i64 d.z) ∧ w'.cell? ⟨w.heap.size + 1, 3, none⟩ = some (.bool d.u) ∧ w'.cell? ⟨w.heap.size + 1 + 1, 0, none⟩ = some (.int .i64 v.k) ∧ w'.cell? ⟨w.heap.size + 1 + 1, 1, none⟩ = some (.int .i64 v.i) ∧ w'.cell? ⟨w.heap.size + 1 + 1, 2, none⟩ = some (.int .u64 v.u) ∧ w'.cell? ⟨w.heap.size + 1 + 1, 3, none⟩ = some (.string v.s) ∧ Below W1.heap.size W1 w') ((refine HS.out _ ?_; go_split_ands; first | (with_reducible exact below_set4 (by assumption) (by first | exact Nat.le_refl _ | omega | (simp; omega)) _ _ _ _) | (with_reducible exact Below.drew (Below.refl _ _)) | (with_reducible exact held_trans (by assumption) hb4) | (with_reducible exact held_trans (by assumption) hb3) | (with_reducible exact below_realloc (by assumption) (by omega)) | (with_reducible exact Below.alloc (by assumption) (Below.size (by assumption)) _) | (with_reducible exact Below.alloc (Below.refl _ _) (Nat.le_refl _) _) | (with_reducible exact Below.alloc (Below.drew (Below.refl _ _)) (Nat.le_refl _) _) | (with_reducible exact Below.drew (Below.alloc (Below.refl _ _) (Nat.le_refl _) _)) | (with_reducible exact Below.drew (by assumption))))
      (first | (go_at_call 26; refine (known_any _).mono ?_; rintro e w3 ⟨rfl, ⟨es, cl, hm, hw⟩, hb3⟩; (first | have HM : Hid (w3.heap[W1.heap.size]? = some (.map es cl)) := Lib.hid hm | (replace hm := (show w3.heap[(W1.alloc (.cells #[.int .i64 0, .int .i64 0, .int .u64 0, .string ⟨#[]⟩] 28)).heap.size]? = some (.map es cl) from hm); rw [World.size_alloc] at hm; have HM : Hid (w3.heap[W1.heap.size + 1]? = some (.map es cl)) := Lib.hid hm)); have HW := Lib.hid hw; clear hm hw; have hz3 := hb3.size; (try simp at hz3); (try (first | have P := zero4 (b := W1.heap.size) hb3 rfl | have P := zero4d (b := W1.heap.size) hb3 rfl))) | (go_at_call 27; refine (HC.out _ _ _ _ (HB1.out.trans (Below.mono (by go_split_ands; first | assumption | (exact Below.alloc (by assumption) (Below.size (by assumption)) _)) HB1.out.size)) (by first | with_reducible exact HM.out | exact heap_old HM.out _) HW.out).mono ?_; rintro e w4 ⟨b, rfl, hbz, hnb, hb4⟩; have hz4 := hb4.size; (try simp at hz4); (try simp at hbz); have HCB := Lib.hid hnb; clear hnb; (first | have P := Zero4.keep P hb4 | have P := zero4 (b := w3.heap.size) hb4 rfl | skip); (try (have P4 := P; obtain ⟨p0, p1, p2, p3, fp0, fp1, fp2, fp3, hpl⟩ := P))))
    all_goals go_wp2_with fail
    all_goals go_meet
    all_goals rename_i hh
    all_goals refine ⟨_, b, rfl, rfl, by omega, ?_⟩
    all_goals (first | refine ⟨by simp [go_sem], by simp [go_sem], by simp [go_sem], by simp [go_sem], ?_, hh.2.2.2.2.2.2.2.2.2.2.2.2⟩ | (obtain ⟨k0, k1, k2, k3⟩ := zero4_set P4 (.int .i64 0) (.int .i64 0) (.int .u64 0) (.string ⟨#[]⟩); refine ⟨k0, k1, k2, k3, ?_, hh.2.2.2.2.2.2.2.2.2.2.2.2⟩))
    all_goals (first | with_reducible exact (far4 (by omega) _ _ _ _).trans HCB.out | exact (World.cell?_alloc_lt _ _ _ (cell_lt HCB.out)).trans HCB.out)
  case rest =>
    obtain ⟨q, b, rfl, rfl, hq, e0, e1, e2, e3, hnb, hbx⟩ := hcut
    obtain ⟨g0, g1, g2, g3, h0, h1, h2, h3⟩ := HR.out
    have r0 := keep_cell hbx g0
    have r1 := keep_cell hbx g1
    have r2 := keep_cell hbx g2
    have r3 := keep_cell hbx g3
    have f0 := keep_frozen hbx hy3 h0
    have f1 := keep_frozen hbx hy3 h1
    have f2 := keep_frozen hbx hy3 h2
    have f3 := keep_frozen hbx hy3 h3
    have hez := HE.out wc (HB1.out.trans (hbx.mono HB1.out.size))
    have hwz := hbx.size
    have HEZ := Lib.hid hez
    have HBX := Lib.hid hbx
    have HNB := Lib.hid hnb
    clear g0 g1 g2 g3 h0 h1 h2 h3 hez hbx hnb HS HR HC HE a0 a1 a2 a3 b0 b1 b2 b3 v0 v1 v2 v3
    have hqr : q ≠ w.heap.size + 1 + 1 + 1 := by omega
    have hR := held2 r0 r1 r2 r3 f0 f1 f2 f3
    go_upto_region 2 with fail
    go_region_held3 (fun w' => w'.cell? ⟨q, 0, none⟩ = some (.int .i64 0) ∧ w'.cell? ⟨q, 1, none⟩ = some (.int .i64 0) ∧ w'.cell? ⟨q, 2, none⟩ = some (.int .u64 0) ∧ w'.cell? ⟨q, 3, none⟩ = some (.string ⟨#[]⟩)) (first | (with_reducible exact held_keep4 (by assumption) hb5) | (with_reducible exact held_set4 hqr (by assumption) _ _ _ _) | go_keep)
      ((go_at_call 28; refine (xerrno_err b n _ (by exact HEZ.out) (by exact HNB.out)).mono ?_; rintro e w5 ⟨rfl, hb5⟩; have R := Held2.keep hR (by first | exact hb5 | exact below_undrew hb5); obtain ⟨u0, u1, u2, u3, d0, d1, d2, d3⟩ := R))
    all_goals go_wp2_with fail
    all_goals refine bodyPost_ret (v := .tuple #[.agg #[.int .i64 0, .int .i64 0, .int .u64 0, .string ⟨#[]⟩], .int .i64 n]) (by simp [results, Tryz.results10, go_sem, u0, u1, u2, u3]) rfl ⟨rfl, ?_⟩
    all_goals repeat' first | exact (HB1.out.trans (HBX.out.mono HB1.out.size)).trans (Below.mono (by first | exact hb5 | exact below_undrew hb5) (by first | omega | (simp; omega))) | (refine Below.setCell ?_ (by simp; omega) _)
theorem Convert_any (c d : Col) (v : Vl) (w : World) (hE : Env w) (n1 : c.n.size ≤ 9223372036854775807) (n2 : d.n.size ≤ 9223372036854775807) (hv : v.ok) :
    Calls Tryz.prog 10 #[.agg #[.string c.n, .int .i64 c.t, .int .i64 c.z, .bool c.u], .agg #[.string d.n, .int .i64 d.t, .int .i64 d.z, .bool d.u], .agg #[.int .i64 v.k, .int .i64 v.i, .int .u64 v.u, .string v.s]] w fun e w' => e = .returned (.tuple #[.agg #[.int .i64 (cvO c d v).2.k, .int .i64 (cvO c d v).2.i, .int .u64 (cvO c d v).2.u, .string (cvO c d v).2.s], .int .i64 (cvO c d v).1]) ∧ Below w.heap.size w w' := by
  have hC := fun r es cl W (hb : Below w.heap.size w W) hm hw => wconvert_any c d v r es cl W (hE.keep hb) hm hw n1 n2 hv
  by_cases h : (cvO c d v).1 = 0
  · rw [h]
    refine Convert_good c d v w hE _ (fun r es cl W hb hm hw => (hC r es cl W hb hm hw).mono ?_)
    rintro e w' (⟨_, h1, h2⟩ | ⟨h1, _⟩)
    · exact ⟨h1, h2⟩
    · exact absurd h h1
  · have hz : (cvO c d v).2 = v0N := by
      unfold cvO at h ⊢
      repeat' split
      all_goals first | rfl | skip
      all_goals simp_all
    rw [hz]
    refine Convert_err c d v w hE _ (fun r es cl W hb hm hw => (hC r es cl W hb hm hw).mono ?_)
    rintro e w' (⟨h1, _⟩ | ⟨_, _, h2⟩)
    · exact absurd h1 h
    · exact h2
end Go.Proofs.YtmgeefhacnadcaaGreatDoor
