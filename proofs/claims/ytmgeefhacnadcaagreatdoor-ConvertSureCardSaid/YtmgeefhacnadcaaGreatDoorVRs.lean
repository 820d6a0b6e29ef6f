/-
  swingbridgeref06.Way, right, digits, Sure.
-/
import Derived.Test.YtmgeefhacnadcaaGreatDoorVConv
import Derived.Test.YtmgeefhacnadcaaGreatDoorSSch
import Derived.Test.YtmgeefhacnadcaaGreatDoorVSur
import Derived.Test.YtmgeefhacnadcaaGreatDoorBelowQ
namespace Go.Proofs.YtmgeefhacnadcaaGreatDoor
open Go.RowKit

/-- is there a way? -/
def wayR (a b : Int) : Bool := decide ((1 ≤ a ∧ a ≤ 4) ∧ (1 ≤ b ∧ b ≤ 4)) && wayB a b
theorem wayR_out {a b : Int} (h : ¬ ((1 ≤ a ∧ a ≤ 4) ∧ (1 ≤ b ∧ b ≤ 4))) : wayR a b = false := by unfold wayR; rw [decide_eq_false h]; rfl
theorem four_cases {a : Int} (h : 1 ≤ a ∧ a ≤ 4) : a = 1 ∨ a = 2 ∨ a = 3 ∨ a = 4 := by omega
set_option maxRecDepth 100000 in
set_option maxHeartbeats 4000000 in
theorem r6Way_any (a b : Int) (w : World) : Calls Tryz.prog 16 #[.int .i64 a, .int .i64 b] w fun e w' => e = .returned (.bool (wayR a b)) ∧ w = w' := by
  by_cases h1 : a < 1
  · have e1 : decide (a < 1) = true := decide_eq_true h1
    have HR := Lib.hid (wayR_out (a := a) (b := b) (by omega))
    go_enter Tryz.func16, Tryz.ntmps16
    go_wp2
    go_ret
    exact ⟨by rw [HR.out]; rfl, rfl⟩
  have e1 : decide (a < 1) = false := decide_eq_false h1
  by_cases h2 : 4 < a
  · have e2 : decide (4 < a) = true := decide_eq_true h2
    have HR := Lib.hid (wayR_out (a := a) (b := b) (by omega))
    go_enter Tryz.func16, Tryz.ntmps16
    go_wp2
    go_ret
    exact ⟨by rw [HR.out]; rfl, rfl⟩
  have e2 : decide (4 < a) = false := decide_eq_false h2
  by_cases h3 : b < 1
  · have e3 : decide (b < 1) = true := decide_eq_true h3
    have HR := Lib.hid (wayR_out (a := a) (b := b) (by omega))
    go_enter Tryz.func16, Tryz.ntmps16
    go_wp2
    go_ret
    exact ⟨by rw [HR.out]; rfl, rfl⟩
  have e3 : decide (b < 1) = false := decide_eq_false h3
  by_cases h4 : 4 < b
  · have e4 : decide (4 < b) = true := decide_eq_true h4
    have HR := Lib.hid (wayR_out (a := a) (b := b) (by omega))
    go_enter Tryz.func16, Tryz.ntmps16
    go_wp2
    go_ret
    exact ⟨by rw [HR.out]; rfl, rfl⟩
  have ha := four_cases (a := a) (by omega)
  have hb := four_cases (a := b) (by omega)
  clear h1 h2 h3 h4 e1 e2 e3
  rcases ha with rfl | rfl | rfl | rfl <;> rcases hb with rfl | rfl | rfl | rfl
  all_goals
    go_enter Tryz.func16, Tryz.ntmps16
    go_wp2
    go_ret
    exact ⟨rfl, rfl⟩
set_option maxRecDepth 100000 in
set_option maxHeartbeats 4000000 in
theorem xWay_any (a b : Int) (w : World) : Calls Tryz.prog 15 #[.int .i64 a, .int .i64 b] w fun e w' => e = .returned (.bool (wayR a b)) ∧ Below w.heap.size w w' := by
  go_enter Tryz.func15, Tryz.ntmps15
  go_wp2_with fail
  refine (known_any _).mono ?_
  rintro e w3 ⟨rfl, ⟨es, cl, hm, hw⟩, hb3⟩
  by_cases h : wayR a b = true
  · have HR := Lib.hid h
    have h' : (decide ((1 ≤ a ∧ a ≤ 4) ∧ (1 ≤ b ∧ b ≤ 4)) && wayB a b) = true := h
    simp only [Bool.and_eq_true, decide_eq_true_eq] at h'
    obtain ⟨f, g, hx⟩ := ways_in (four_cases h'.1.1) (four_cases h'.1.2) h'.2
    have hl := ways_found hx hm hw
    have HB := Lib.hid hb3
    clear h h' hx hm hw hb3
    go_wp2_with fail
    go_ret
    exact ⟨by rw [HR.out]; rfl, HB.out.alloc HB.out.size _⟩
  · have HR := Lib.hid (show wayR a b = false by simpa using h)
    have hx : ∀ x ∈ waysL, ¬ (a = x.1 ∧ b = x.2.1) := by
      intro x hx hab
      apply h
      have key : ∀ x ∈ waysL, wayR x.1 x.2.1 = true := by decide +kernel
      have := key x hx
      rw [← hab.1, ← hab.2] at this
      exact this
    have hl := ways_none hx hm hw
    have HB := Lib.hid hb3
    clear h hx hm hw hb3
    go_wp2_with fail
    go_ret
    exact ⟨by rw [HR.out]; rfl, HB.out.alloc HB.out.size _⟩
end Go.Proofs.YtmgeefhacnadcaaGreatDoor
namespace Go.Proofs.YtmgeefhacnadcaaGreatDoor
open Go.RowKit

theorem schOk2 (c d : Col) (hd : colOk d = true) (hu : d.u = false) : schOk ⟨[c, d], [1], []⟩ = (colOk c && !isN d.n c) := by
  have e1 : colsTo [c, d] 2 = (colOk c && !isN d.n c) := by
    rw [colsTo_succ [c, d] 1 d (by simp) rfl, colsTo_succ [c, d] 0 c (by simp) rfl, hd]
    have f1 : firstC [c, d] c.n = 0 := by simp [firstC, firstFrom, isN]
    rw [f1]
    cases h : isN d.n c
    · have f2 : firstC [c, d] d.n = 1 := by simp [firstC, firstFrom, isN] at h ⊢; simp [h]
      rw [f2]
      simp [colsTo]
    · have f2 : firstC [c, d] d.n = 0 := by simp [firstC, firstFrom, isN] at h ⊢; simp [h]
      rw [f2]
      simp [colsTo]
  unfold schOk
  show (_ && (colsTo [c, d] 2 && _)) = _
  rw [e1]
  have e2 : setsTo ⟨[c, d], [1], []⟩ (1 + 0) = true := by
    have e3 : loopTo [c, d] true [1] 1 = true := by
      show (!(true && d.u) && !dupB [1] 0 && true) = true
      rw [hu]
      decide
    show ((((decide (1 ≤ 1)) && (decide (1 ≤ 4))) && (inAll 2 [1] && loopTo [c, d] true [1] 1)) && true) = true
    rw [e3]
    rfl
  show ((decide (1 ≤ 2) && (decide (2 ≤ 8) && decide (0 ≤ 3))) && ((colOk c && !isN d.n c) && setsTo ⟨[c, d], [1], []⟩ (1 + 0))) = _
  rw [e2]
  simp
/-- the name that the second column bears, and the other one -/
def zN : ByteArray := ⟨#[122, 122, 122, 122, 122, 122, 122, 122, 122, 122, 122, 122, 122, 122, 122, 122, 122, 122, 122, 122, 122, 122, 122, 122]⟩
theorem zN_list : zN.toList = [122, 122, 122, 122, 122, 122, 122, 122, 122, 122, 122, 122, 122, 122, 122, 122, 122, 122, 122, 122, 122, 122, 122, 122] := by
  rw [ByteArray.toList_eq]
  rfl
theorem right_is (c : Col) : (schOk ⟨[c, ⟨zN, 3, 0, false⟩], [1], []⟩ || (isN zN c && schOk ⟨[c, ⟨⟨#[121]⟩, 3, 0, false⟩], [1], []⟩)) = colOk c := by
  rw [schOk2 c ⟨zN, 3, 0, false⟩ (by decide +kernel) rfl, schOk2 c ⟨⟨#[121]⟩, 3, 0, false⟩ (by decide +kernel) rfl]
  show ((colOk c && !isN zN c) || (isN zN c && (colOk c && !isN ⟨#[121]⟩ c))) = colOk c
  cases h1 : isN zN c
  · simp
  · have h2 : isN ⟨#[121]⟩ c = false := by
      unfold isN at h1 ⊢
      rw [beq_iff_eq.1 h1]
      decide +kernel
    rw [h2]
    simp
def pR (b : Nat) : SchV := ⟨some ⟨b, 0, none⟩, 2, some ⟨b + 1, 0, none⟩, 1, none, 0⟩
theorem schR {w : World} {b : Nat} {c d : Col} (h : w.heap[b]? = some (.cells #[.string c.n, .int .i64 c.t, .int .i64 c.z, .bool c.u, .string d.n, .int .i64 d.t, .int .i64 d.z, .bool d.u] 24)) (h' : w.cell? ⟨b + 1, 0, none⟩ = some (.int .i64 1)) : SchIn w (pR b) ⟨[c, d], [1], []⟩ := by
  refine ⟨fun j hj => ?_, fun j hj => ?_, fun j hj => absurd hj (Nat.not_lt_zero j), Nat.le_refl _⟩
  · match j, hj with
    | 0, _ => exact ⟨_, rfl, ⟨by simp [World.cell?, Addr.add, h], by simp [World.cell?, Addr.add, h], by simp [World.cell?, Addr.add, h], by simp [World.cell?, Addr.add, h]⟩⟩
    | 1, _ => exact ⟨_, rfl, ⟨by simp [World.cell?, Addr.add, h], by simp [World.cell?, Addr.add, h], by simp [World.cell?, Addr.add, h], by simp [World.cell?, Addr.add, h]⟩⟩
  · match j, hj with
    | 0, _ => exact ⟨_, rfl, by unfold Addr.add; exact h'⟩
theorem right_of (c d : Col) (n1 : c.n.size ≤ 9223372036854775807) (n2 : d.n.size ≤ 9223372036854775807) (b : Nat) (w : World) (hS : SchIn w (pR b) ⟨[c, d], [1], []⟩) :
    Calls Tryz.prog 61 #[.agg #[.slice (some ⟨b, 0, none⟩) 2 2, .slice (some ⟨b + 1, 0, none⟩) 1 1, .slice none 0 0]] w fun e w' => e = .returned (.bool (schOk ⟨[c, d], [1], []⟩)) ∧ Below w.heap.size w w' :=
  rRight_any (pR b) ⟨[c, d], [1], []⟩ w (fun x hx => by
    rcases List.mem_cons.1 hx with rfl | hx
    · exact n1
    · rcases List.mem_cons.1 hx with rfl | hx
      · exact n2
      · cases hx) (by simp) (by simp) (by simp) (fun l hl => by cases hl) hS
theorem cells_second (w : World) (A B C : Obj) : (((w.alloc A).alloc B).alloc C).heap[w.heap.size + 1]? = some B := by
  rw [← World.size_alloc w A]
  exact heap_old (heap_alloc_at _ _) _
set_option maxRecDepth 100000 in
set_option maxHeartbeats 4000000 in
theorem r6right_any (c : Col) (w : World) (n1 : c.n.size ≤ 9223372036854775807) : Calls Tryz.prog 29 #[.agg #[.string c.n, .int .i64 c.t, .int .i64 c.z, .bool c.u]] w fun e w' => e = .returned (.bool (colOk c)) ∧ Below w.heap.size w w' := by
  have HR := Lib.hid (right_is c)
  have H1 := Lib.hid (right_of c ⟨zN, 3, 0, false⟩ n1 (by decide +kernel))
  have H2 := Lib.hid (right_of c ⟨⟨#[121]⟩, 3, 0, false⟩ n1 (by decide +kernel))
  generalize schOk ⟨[c, ⟨zN, 3, 0, false⟩], [1], []⟩ = s1 at HR H1
  generalize schOk ⟨[c, ⟨⟨#[121]⟩, 3, 0, false⟩], [1], []⟩ = s2 at HR H2
  go_enter Tryz.func29, Tryz.ntmps29
  go_wp2_with fail
  refine (H1.out _ _ (schR (cells_second _ _ _ _) (by simp [go_sem]))).mono ?_
  rintro e w2 ⟨rfl, hb2⟩
  have a0 := keep_cell (a := ⟨w.heap.size, 0, none⟩) (v := .string c.n) hb2 (by simp [go_sem])
  have a1 := keep_cell (a := ⟨w.heap.size, 1, none⟩) (v := .int .i64 c.t) hb2 (by simp [go_sem])
  have a2 := keep_cell (a := ⟨w.heap.size, 2, none⟩) (v := .int .i64 c.z) hb2 (by simp [go_sem])
  have a3 := keep_cell (a := ⟨w.heap.size, 3, none⟩) (v := .bool c.u) hb2 (by simp [go_sem])
  have hb3 : Below w.heap.size w w2 := ((((Below.refl _ _).alloc (Nat.le_refl _) _).alloc (by simp) _).alloc (by simp; omega) _).trans (hb2.mono (by simp; omega))
  have HB := Lib.hid hb3
  have hlt : w.heap.size < w2.heap.size := World.block_lt_of_cell? _ _ a0
  clear hb2 hb3 H1
  cases s1
  · go_wp2_with fail
    · have he : c.n.toList = [122, 122, 122, 122, 122, 122, 122, 122, 122, 122, 122, 122, 122, 122, 122, 122, 122, 122, 122, 122, 122, 122, 122, 122] := by assumption
      have hz : isN zN c = true := by unfold isN; rw [he, zN_list]; decide
      refine (H2.out _ _ (schR (heap_old (heap_alloc_at _ _) _) (by simp [go_sem]))).mono ?_
      rintro e w3 ⟨rfl, hb3⟩
      go_wp2_with fail
      go_ret
      exact ⟨by rw [← HR.out, hz]; rfl, HB.out.trans ((((Below.refl _ w2).alloc (Nat.le_refl _) _).alloc (by simp) _).trans (hb3.mono (by simp; omega)) |>.mono HB.out.size)⟩
    · have he : ¬ c.n.toList = [122, 122, 122, 122, 122, 122, 122, 122, 122, 122, 122, 122, 122, 122, 122, 122, 122, 122, 122, 122, 122, 122, 122, 122] := by assumption
      have hz : isN zN c = false := by unfold isN; rw [zN_list]; simpa using he
      go_ret
      exact ⟨by rw [← HR.out, hz]; rfl, HB.out⟩
  · go_wp2_with fail
    go_ret
    exact ⟨by rw [← HR.out]; rfl, HB.out⟩
end Go.Proofs.YtmgeefhacnadcaaGreatDoor
namespace Go.Proofs.YtmgeefhacnadcaaGreatDoor
open Go.RowKit

set_option maxRecDepth 100000 in
set_option maxHeartbeats 4000000 in
theorem r6digits_one (cn : ByteArray) (cz : Int) (cu : Bool) (w : World) (hz : numSz cz = true) : Calls Tryz.prog 34 #[.agg #[.string cn, .int .i64 1, .int .i64 cz, .bool cu]] w fun e w' => e = .returned (.int .i64 (digN 1 cz)) ∧ Below w.heap.size w w' := by
  rcases numSz_cases hz with rfl | rfl | rfl | rfl
  all_goals
    go_enter Tryz.func34, Tryz.ntmps34
    go_wp2_with fail
    go_ret
    exact ⟨rfl, ((Below.refl _ _).alloc (Nat.le_refl _) _).alloc (by simp) _⟩
set_option maxRecDepth 100000 in
set_option maxHeartbeats 4000000 in
theorem r6digits_two (cn : ByteArray) (ct cz : Int) (cu : Bool) (w : World) (ht : ct ≠ 1) (hz : numSz cz = true) : Calls Tryz.prog 34 #[.agg #[.string cn, .int .i64 ct, .int .i64 cz, .bool cu]] w fun e w' => e = .returned (.int .i64 (digN 2 cz)) ∧ Below w.heap.size w w' := by
  have hb : (ct == 1) = false := by simpa using ht
  rcases numSz_cases hz with rfl | rfl | rfl | rfl
  all_goals
    go_enter Tryz.func34, Tryz.ntmps34
    go_wp2_with fail
    go_ret
    exact ⟨rfl, ((Below.refl _ _).alloc (Nat.le_refl _) _).alloc (by simp) _⟩
end Go.Proofs.YtmgeefhacnadcaaGreatDoor
namespace Go.Proofs.YtmgeefhacnadcaaGreatDoor
open Go.RowKit

set_option maxRecDepth 100000 in
set_option maxHeartbeats 4000000 in
theorem r6Sure_bad1 (cn : ByteArray) (ct cz : Int) (cu : Bool) (dn : ByteArray) (dt dz : Int) (du : Bool) (w : World) (n1 : cn.size ≤ 9223372036854775807) (h1 : colOk ⟨cn, ct, cz, cu⟩ = false) :
    Calls Tryz.prog 14 #[.agg #[.string cn, .int .i64 ct, .int .i64 cz, .bool cu], .agg #[.string dn, .int .i64 dt, .int .i64 dz, .bool du]] w fun e w' => e = .returned (.tuple #[.bool (false), .int .i64 2]) ∧ Below w.heap.size w w' := by
  have HRC : Hid (∀ W, Calls Tryz.prog 29 #[.agg #[.string cn, .int .i64 ct, .int .i64 cz, .bool cu]] W fun e w' => e = .returned (.bool false) ∧ Below W.heap.size W w') := Lib.hid (fun W => by have h := r6right_any ⟨cn, ct, cz, cu⟩ W n1; rw [h1] at h; exact h)
  clear h1 n1
  go_enter Tryz.func14, Tryz.ntmps14
  go_upto_region 1 with fail
  obtain ⟨W1, hW1⟩ : ∃ W1, (w.alloc (.cells #[.string cn, .int .i64 ct, .int .i64 cz, .bool cu] 24)).alloc (.cells #[.string dn, .int .i64 dt, .int .i64 dz, .bool du] 24) = W1 := ⟨_, rfl⟩
  have hB : Below w.heap.size w W1 := by rw [← hW1]; exact ((Below.refl _ _).alloc (Nat.le_refl _) _).alloc (by simp) _
  have a0 : W1.cell? ⟨w.heap.size, 0, none⟩ = some (.string cn) := by rw [← hW1]; simp [go_sem]
  have a1 : W1.cell? ⟨w.heap.size, 1, none⟩ = some (.int .i64 ct) := by rw [← hW1]; simp [go_sem]
  have a2 : W1.cell? ⟨w.heap.size, 2, none⟩ = some (.int .i64 cz) := by rw [← hW1]; simp [go_sem]
  have a3 : W1.cell? ⟨w.heap.size, 3, none⟩ = some (.bool cu) := by rw [← hW1]; simp [go_sem]
  have b0 : W1.cell? ⟨w.heap.size + 1, 0, none⟩ = some (.string dn) := by rw [← hW1]; simp [go_sem]
  have b1 : W1.cell? ⟨w.heap.size + 1, 1, none⟩ = some (.int .i64 dt) := by rw [← hW1]; simp [go_sem]
  have b2 : W1.cell? ⟨w.heap.size + 1, 2, none⟩ = some (.int .i64 dz) := by rw [← hW1]; simp [go_sem]
  have b3 : W1.cell? ⟨w.heap.size + 1, 3, none⟩ = some (.bool du) := by rw [← hW1]; simp [go_sem]
  rw [hW1]
  clear hW1
  go_wp2_with (first | (go_at_call 29; (with_reducible refine (HRC.out _).mono ?_); rintro e w2 ⟨rfl, hb⟩; replace a0 := keep_cell hb a0; replace a1 := keep_cell hb a1; replace a2 := keep_cell hb a2; replace a3 := keep_cell hb a3; replace b0 := keep_cell hb b0; replace b1 := keep_cell hb b1; replace b2 := keep_cell hb b2; replace b3 := keep_cell hb b3; replace hB := held_trans hB hb; clear hb))
  go_ret2
  exact ⟨rfl, hB⟩
set_option maxRecDepth 100000 in
set_option maxHeartbeats 4000000 in
theorem r6Sure_bad2 (cn : ByteArray) (ct cz : Int) (cu : Bool) (dn : ByteArray) (dt dz : Int) (du : Bool) (w : World) (n1 : cn.size ≤ 9223372036854775807) (n2 : dn.size ≤ 9223372036854775807) (h1 : colOk ⟨cn, ct, cz, cu⟩ = true) (h2 : colOk ⟨dn, dt, dz, du⟩ = false) :
    Calls Tryz.prog 14 #[.agg #[.string cn, .int .i64 ct, .int .i64 cz, .bool cu], .agg #[.string dn, .int .i64 dt, .int .i64 dz, .bool du]] w fun e w' => e = .returned (.tuple #[.bool (false), .int .i64 2]) ∧ Below w.heap.size w w' := by
  have HRC : Hid (∀ W, Calls Tryz.prog 29 #[.agg #[.string cn, .int .i64 ct, .int .i64 cz, .bool cu]] W fun e w' => e = .returned (.bool true) ∧ Below W.heap.size W w') := Lib.hid (fun W => by have h := r6right_any ⟨cn, ct, cz, cu⟩ W n1; rw [h1] at h; exact h)
  have HRD : Hid (∀ W, Calls Tryz.prog 29 #[.agg #[.string dn, .int .i64 dt, .int .i64 dz, .bool du]] W fun e w' => e = .returned (.bool false) ∧ Below W.heap.size W w') := Lib.hid (fun W => by have h := r6right_any ⟨dn, dt, dz, du⟩ W n2; rw [h2] at h; exact h)
  clear h1 h2 n1 n2
  go_enter Tryz.func14, Tryz.ntmps14
  go_upto_region 1 with fail
  obtain ⟨W1, hW1⟩ : ∃ W1, (w.alloc (.cells #[.string cn, .int .i64 ct, .int .i64 cz, .bool cu] 24)).alloc (.cells #[.string dn, .int .i64 dt, .int .i64 dz, .bool du] 24) = W1 := ⟨_, rfl⟩
  have hB : Below w.heap.size w W1 := by rw [← hW1]; exact ((Below.refl _ _).alloc (Nat.le_refl _) _).alloc (by simp) _
  have a0 : W1.cell? ⟨w.heap.size, 0, none⟩ = some (.string cn) := by rw [← hW1]; simp [go_sem]
  have a1 : W1.cell? ⟨w.heap.size, 1, none⟩ = some (.int .i64 ct) := by rw [← hW1]; simp [go_sem]
  have a2 : W1.cell? ⟨w.heap.size, 2, none⟩ = some (.int .i64 cz) := by rw [← hW1]; simp [go_sem]
  have a3 : W1.cell? ⟨w.heap.size, 3, none⟩ = some (.bool cu) := by rw [← hW1]; simp [go_sem]
  have b0 : W1.cell? ⟨w.heap.size + 1, 0, none⟩ = some (.string dn) := by rw [← hW1]; simp [go_sem]
  have b1 : W1.cell? ⟨w.heap.size + 1, 1, none⟩ = some (.int .i64 dt) := by rw [← hW1]; simp [go_sem]
  have b2 : W1.cell? ⟨w.heap.size + 1, 2, none⟩ = some (.int .i64 dz) := by rw [← hW1]; simp [go_sem]
  have b3 : W1.cell? ⟨w.heap.size + 1, 3, none⟩ = some (.bool du) := by rw [← hW1]; simp [go_sem]
  rw [hW1]
  clear hW1
  go_wp2_with (first | (go_at_call 29; (with_reducible refine (HRC.out _).mono ?_); rintro e w2 ⟨rfl, hb⟩; replace a0 := keep_cell hb a0; replace a1 := keep_cell hb a1; replace a2 := keep_cell hb a2; replace a3 := keep_cell hb a3; replace b0 := keep_cell hb b0; replace b1 := keep_cell hb b1; replace b2 := keep_cell hb b2; replace b3 := keep_cell hb b3; replace hB := held_trans hB hb; clear hb) | (go_at_call 29; (with_reducible refine (HRD.out _).mono ?_); rintro e w2 ⟨rfl, hb⟩; replace a0 := keep_cell hb a0; replace a1 := keep_cell hb a1; replace a2 := keep_cell hb a2; replace a3 := keep_cell hb a3; replace b0 := keep_cell hb b0; replace b1 := keep_cell hb b1; replace b2 := keep_cell hb b2; replace b3 := keep_cell hb b3; replace hB := held_trans hB hb; clear hb))
  go_ret2
  exact ⟨rfl, hB⟩
set_option maxRecDepth 100000 in
set_option maxHeartbeats 4000000 in
theorem r6Sure_ok11 (cn : ByteArray) (cz : Int) (cu : Bool) (dn : ByteArray) (dz : Int) (du : Bool) (w : World) (n1 : cn.size ≤ 9223372036854775807) (n2 : dn.size ≤ 9223372036854775807) (h1 : colOk ⟨cn, 1, cz, cu⟩ = true) (h2 : colOk ⟨dn, 1, dz, du⟩ = true) :
    Calls Tryz.prog 14 #[.agg #[.string cn, .int .i64 1, .int .i64 cz, .bool cu], .agg #[.string dn, .int .i64 1, .int .i64 dz, .bool du]] w fun e w' => e = .returned (.tuple #[.bool ((du || !cu) && decide (cz ≤ dz)), .int .i64 0]) ∧ Below w.heap.size w w' := by
  have HRC : Hid (∀ W, Calls Tryz.prog 29 #[.agg #[.string cn, .int .i64 1, .int .i64 cz, .bool cu]] W fun e w' => e = .returned (.bool true) ∧ Below W.heap.size W w') := Lib.hid (fun W => by have h := r6right_any ⟨cn, 1, cz, cu⟩ W n1; rw [h1] at h; exact h)
  have HRD : Hid (∀ W, Calls Tryz.prog 29 #[.agg #[.string dn, .int .i64 1, .int .i64 dz, .bool du]] W fun e w' => e = .returned (.bool true) ∧ Below W.heap.size W w') := Lib.hid (fun W => by have h := r6right_any ⟨dn, 1, dz, du⟩ W n2; rw [h2] at h; exact h)
  clear h1 h2 n1 n2
  have hwy : wayR 1 1 = true := by decide
  go_enter Tryz.func14, Tryz.ntmps14
  go_upto_region 1 with fail
  obtain ⟨W1, hW1⟩ : ∃ W1, (w.alloc (.cells #[.string cn, .int .i64 1, .int .i64 cz, .bool cu] 24)).alloc (.cells #[.string dn, .int .i64 1, .int .i64 dz, .bool du] 24) = W1 := ⟨_, rfl⟩
  have hB : Below w.heap.size w W1 := by rw [← hW1]; exact ((Below.refl _ _).alloc (Nat.le_refl _) _).alloc (by simp) _
  have a0 : W1.cell? ⟨w.heap.size, 0, none⟩ = some (.string cn) := by rw [← hW1]; simp [go_sem]
  have a1 : W1.cell? ⟨w.heap.size, 1, none⟩ = some (.int .i64 1) := by rw [← hW1]; simp [go_sem]
  have a2 : W1.cell? ⟨w.heap.size, 2, none⟩ = some (.int .i64 cz) := by rw [← hW1]; simp [go_sem]
  have a3 : W1.cell? ⟨w.heap.size, 3, none⟩ = some (.bool cu) := by rw [← hW1]; simp [go_sem]
  have b0 : W1.cell? ⟨w.heap.size + 1, 0, none⟩ = some (.string dn) := by rw [← hW1]; simp [go_sem]
  have b1 : W1.cell? ⟨w.heap.size + 1, 1, none⟩ = some (.int .i64 1) := by rw [← hW1]; simp [go_sem]
  have b2 : W1.cell? ⟨w.heap.size + 1, 2, none⟩ = some (.int .i64 dz) := by rw [← hW1]; simp [go_sem]
  have b3 : W1.cell? ⟨w.heap.size + 1, 3, none⟩ = some (.bool du) := by rw [← hW1]; simp [go_sem]
  rw [hW1]
  clear hW1
  cases cu <;> cases du
  all_goals
    go_wp2_with (first | (go_at_call 29; (with_reducible refine (HRC.out _).mono ?_); rintro e w2 ⟨rfl, hb⟩; replace a0 := keep_cell hb a0; replace a1 := keep_cell hb a1; replace a2 := keep_cell hb a2; replace a3 := keep_cell hb a3; replace b0 := keep_cell hb b0; replace b1 := keep_cell hb b1; replace b2 := keep_cell hb b2; replace b3 := keep_cell hb b3; replace hB := held_trans hB hb; clear hb) | (go_at_call 29; (with_reducible refine (HRD.out _).mono ?_); rintro e w2 ⟨rfl, hb⟩; replace a0 := keep_cell hb a0; replace a1 := keep_cell hb a1; replace a2 := keep_cell hb a2; replace a3 := keep_cell hb a3; replace b0 := keep_cell hb b0; replace b1 := keep_cell hb b1; replace b2 := keep_cell hb b2; replace b3 := keep_cell hb b3; replace hB := held_trans hB hb; clear hb))
    go_quiet (fail)
    have hb : Below w2.heap.size w2 (w2.drewN nq) := ⟨rfl, rfl, rfl, Nat.le_refl _, fun _ _ => rfl⟩
    replace a0 := keep_cell hb a0; replace a1 := keep_cell hb a1; replace a2 := keep_cell hb a2; replace a3 := keep_cell hb a3; replace b0 := keep_cell hb b0; replace b1 := keep_cell hb b1; replace b2 := keep_cell hb b2; replace b3 := keep_cell hb b3; replace hB := held_trans hB hb; clear hb
    go_wp2_with (first | (go_at_call 16; refine (r6Way_any _ _ _).mono ?_; rintro e w2 ⟨rfl, rfl⟩))
    go_ret2
    exact ⟨by first | rfl | simp, hB⟩
set_option maxRecDepth 100000 in
set_option maxHeartbeats 4000000 in
theorem r6Sure_ok12 (cn : ByteArray) (cz : Int) (cu : Bool) (dn : ByteArray) (dz : Int) (du : Bool) (w : World) (n1 : cn.size ≤ 9223372036854775807) (n2 : dn.size ≤ 9223372036854775807) (h1 : colOk ⟨cn, 1, cz, cu⟩ = true) (h2 : colOk ⟨dn, 2, dz, du⟩ = true) :
    Calls Tryz.prog 14 #[.agg #[.string cn, .int .i64 1, .int .i64 cz, .bool cu], .agg #[.string dn, .int .i64 2, .int .i64 dz, .bool du]] w fun e w' => e = .returned (.tuple #[.bool (false), .int .i64 0]) ∧ Below w.heap.size w w' := by
  have HRC : Hid (∀ W, Calls Tryz.prog 29 #[.agg #[.string cn, .int .i64 1, .int .i64 cz, .bool cu]] W fun e w' => e = .returned (.bool true) ∧ Below W.heap.size W w') := Lib.hid (fun W => by have h := r6right_any ⟨cn, 1, cz, cu⟩ W n1; rw [h1] at h; exact h)
  have HRD : Hid (∀ W, Calls Tryz.prog 29 #[.agg #[.string dn, .int .i64 2, .int .i64 dz, .bool du]] W fun e w' => e = .returned (.bool true) ∧ Below W.heap.size W w') := Lib.hid (fun W => by have h := r6right_any ⟨dn, 2, dz, du⟩ W n2; rw [h2] at h; exact h)
  clear h1 h2 n1 n2
  have hwy : wayR 1 2 = true := by decide
  go_enter Tryz.func14, Tryz.ntmps14
  go_upto_region 1 with fail
  obtain ⟨W1, hW1⟩ : ∃ W1, (w.alloc (.cells #[.string cn, .int .i64 1, .int .i64 cz, .bool cu] 24)).alloc (.cells #[.string dn, .int .i64 2, .int .i64 dz, .bool du] 24) = W1 := ⟨_, rfl⟩
  have hB : Below w.heap.size w W1 := by rw [← hW1]; exact ((Below.refl _ _).alloc (Nat.le_refl _) _).alloc (by simp) _
  have a0 : W1.cell? ⟨w.heap.size, 0, none⟩ = some (.string cn) := by rw [← hW1]; simp [go_sem]
  have a1 : W1.cell? ⟨w.heap.size, 1, none⟩ = some (.int .i64 1) := by rw [← hW1]; simp [go_sem]
  have a2 : W1.cell? ⟨w.heap.size, 2, none⟩ = some (.int .i64 cz) := by rw [← hW1]; simp [go_sem]
  have a3 : W1.cell? ⟨w.heap.size, 3, none⟩ = some (.bool cu) := by rw [← hW1]; simp [go_sem]
  have b0 : W1.cell? ⟨w.heap.size + 1, 0, none⟩ = some (.string dn) := by rw [← hW1]; simp [go_sem]
  have b1 : W1.cell? ⟨w.heap.size + 1, 1, none⟩ = some (.int .i64 2) := by rw [← hW1]; simp [go_sem]
  have b2 : W1.cell? ⟨w.heap.size + 1, 2, none⟩ = some (.int .i64 dz) := by rw [← hW1]; simp [go_sem]
  have b3 : W1.cell? ⟨w.heap.size + 1, 3, none⟩ = some (.bool du) := by rw [← hW1]; simp [go_sem]
  rw [hW1]
  clear hW1
  cases cu <;> cases du
  all_goals
    go_wp2_with (first | (go_at_call 29; (with_reducible refine (HRC.out _).mono ?_); rintro e w2 ⟨rfl, hb⟩; replace a0 := keep_cell hb a0; replace a1 := keep_cell hb a1; replace a2 := keep_cell hb a2; replace a3 := keep_cell hb a3; replace b0 := keep_cell hb b0; replace b1 := keep_cell hb b1; replace b2 := keep_cell hb b2; replace b3 := keep_cell hb b3; replace hB := held_trans hB hb; clear hb) | (go_at_call 29; (with_reducible refine (HRD.out _).mono ?_); rintro e w2 ⟨rfl, hb⟩; replace a0 := keep_cell hb a0; replace a1 := keep_cell hb a1; replace a2 := keep_cell hb a2; replace a3 := keep_cell hb a3; replace b0 := keep_cell hb b0; replace b1 := keep_cell hb b1; replace b2 := keep_cell hb b2; replace b3 := keep_cell hb b3; replace hB := held_trans hB hb; clear hb))
    go_quiet (fail)
    have hb : Below w2.heap.size w2 (w2.drewN nq) := ⟨rfl, rfl, rfl, Nat.le_refl _, fun _ _ => rfl⟩
    replace a0 := keep_cell hb a0; replace a1 := keep_cell hb a1; replace a2 := keep_cell hb a2; replace a3 := keep_cell hb a3; replace b0 := keep_cell hb b0; replace b1 := keep_cell hb b1; replace b2 := keep_cell hb b2; replace b3 := keep_cell hb b3; replace hB := held_trans hB hb; clear hb
    go_wp2_with (first | (go_at_call 16; refine (r6Way_any _ _ _).mono ?_; rintro e w2 ⟨rfl, rfl⟩))
    go_ret2
    exact ⟨by first | rfl | simp, hB⟩
set_option maxRecDepth 100000 in
set_option maxHeartbeats 4000000 in
theorem r6Sure_ok13 (cn : ByteArray) (cz : Int) (cu : Bool) (dn : ByteArray) (dz : Int) (du : Bool) (w : World) (n1 : cn.size ≤ 9223372036854775807) (n2 : dn.size ≤ 9223372036854775807) (h1 : colOk ⟨cn, 1, cz, cu⟩ = true) (h2 : colOk ⟨dn, 3, dz, du⟩ = true) :
    Calls Tryz.prog 14 #[.agg #[.string cn, .int .i64 1, .int .i64 cz, .bool cu], .agg #[.string dn, .int .i64 3, .int .i64 dz, .bool du]] w fun e w' => e = .returned (.tuple #[.bool (false), .int .i64 0]) ∧ Below w.heap.size w w' := by
  have HRC : Hid (∀ W, Calls Tryz.prog 29 #[.agg #[.string cn, .int .i64 1, .int .i64 cz, .bool cu]] W fun e w' => e = .returned (.bool true) ∧ Below W.heap.size W w') := Lib.hid (fun W => by have h := r6right_any ⟨cn, 1, cz, cu⟩ W n1; rw [h1] at h; exact h)
  have HRD : Hid (∀ W, Calls Tryz.prog 29 #[.agg #[.string dn, .int .i64 3, .int .i64 dz, .bool du]] W fun e w' => e = .returned (.bool true) ∧ Below W.heap.size W w') := Lib.hid (fun W => by have h := r6right_any ⟨dn, 3, dz, du⟩ W n2; rw [h2] at h; exact h)
  clear h1 h2 n1 n2
  have hwy : wayR 1 3 = true := by decide
  go_enter Tryz.func14, Tryz.ntmps14
  go_upto_region 1 with fail
  obtain ⟨W1, hW1⟩ : ∃ W1, (w.alloc (.cells #[.string cn, .int .i64 1, .int .i64 cz, .bool cu] 24)).alloc (.cells #[.string dn, .int .i64 3, .int .i64 dz, .bool du] 24) = W1 := ⟨_, rfl⟩
  have hB : Below w.heap.size w W1 := by rw [← hW1]; exact ((Below.refl _ _).alloc (Nat.le_refl _) _).alloc (by simp) _
  have a0 : W1.cell? ⟨w.heap.size, 0, none⟩ = some (.string cn) := by rw [← hW1]; simp [go_sem]
  have a1 : W1.cell? ⟨w.heap.size, 1, none⟩ = some (.int .i64 1) := by rw [← hW1]; simp [go_sem]
  have a2 : W1.cell? ⟨w.heap.size, 2, none⟩ = some (.int .i64 cz) := by rw [← hW1]; simp [go_sem]
  have a3 : W1.cell? ⟨w.heap.size, 3, none⟩ = some (.bool cu) := by rw [← hW1]; simp [go_sem]
  have b0 : W1.cell? ⟨w.heap.size + 1, 0, none⟩ = some (.string dn) := by rw [← hW1]; simp [go_sem]
  have b1 : W1.cell? ⟨w.heap.size + 1, 1, none⟩ = some (.int .i64 3) := by rw [← hW1]; simp [go_sem]
  have b2 : W1.cell? ⟨w.heap.size + 1, 2, none⟩ = some (.int .i64 dz) := by rw [← hW1]; simp [go_sem]
  have b3 : W1.cell? ⟨w.heap.size + 1, 3, none⟩ = some (.bool du) := by rw [← hW1]; simp [go_sem]
  rw [hW1]
  clear hW1
  cases cu <;> cases du
  all_goals
    go_wp2_with (first | (go_at_call 29; (with_reducible refine (HRC.out _).mono ?_); rintro e w2 ⟨rfl, hb⟩; replace a0 := keep_cell hb a0; replace a1 := keep_cell hb a1; replace a2 := keep_cell hb a2; replace a3 := keep_cell hb a3; replace b0 := keep_cell hb b0; replace b1 := keep_cell hb b1; replace b2 := keep_cell hb b2; replace b3 := keep_cell hb b3; replace hB := held_trans hB hb; clear hb) | (go_at_call 29; (with_reducible refine (HRD.out _).mono ?_); rintro e w2 ⟨rfl, hb⟩; replace a0 := keep_cell hb a0; replace a1 := keep_cell hb a1; replace a2 := keep_cell hb a2; replace a3 := keep_cell hb a3; replace b0 := keep_cell hb b0; replace b1 := keep_cell hb b1; replace b2 := keep_cell hb b2; replace b3 := keep_cell hb b3; replace hB := held_trans hB hb; clear hb))
    go_quiet (fail)
    have hb : Below w2.heap.size w2 (w2.drewN nq) := ⟨rfl, rfl, rfl, Nat.le_refl _, fun _ _ => rfl⟩
    replace a0 := keep_cell hb a0; replace a1 := keep_cell hb a1; replace a2 := keep_cell hb a2; replace a3 := keep_cell hb a3; replace b0 := keep_cell hb b0; replace b1 := keep_cell hb b1; replace b2 := keep_cell hb b2; replace b3 := keep_cell hb b3; replace hB := held_trans hB hb; clear hb
    go_wp2_with (first | (go_at_call 16; refine (r6Way_any _ _ _).mono ?_; rintro e w2 ⟨rfl, rfl⟩))
    go_ret2
    exact ⟨by first | rfl | simp, hB⟩
set_option maxRecDepth 100000 in
set_option maxHeartbeats 4000000 in
theorem r6Sure_ok14 (cn : ByteArray) (cz : Int) (cu : Bool) (dn : ByteArray) (dz : Int) (du : Bool) (w : World) (n1 : cn.size ≤ 9223372036854775807) (n2 : dn.size ≤ 9223372036854775807) (h1 : colOk ⟨cn, 1, cz, cu⟩ = true) (h2 : colOk ⟨dn, 4, dz, du⟩ = true) (hz : numSz cz = true) :
    Calls Tryz.prog 14 #[.agg #[.string cn, .int .i64 1, .int .i64 cz, .bool cu], .agg #[.string dn, .int .i64 4, .int .i64 dz, .bool du]] w fun e w' => e = .returned (.tuple #[.bool ((du || !cu) && decide (digN 1 cz ≤ dz)), .int .i64 0]) ∧ Below w.heap.size w w' := by
  have HRC : Hid (∀ W, Calls Tryz.prog 29 #[.agg #[.string cn, .int .i64 1, .int .i64 cz, .bool cu]] W fun e w' => e = .returned (.bool true) ∧ Below W.heap.size W w') := Lib.hid (fun W => by have h := r6right_any ⟨cn, 1, cz, cu⟩ W n1; rw [h1] at h; exact h)
  have HRD : Hid (∀ W, Calls Tryz.prog 29 #[.agg #[.string dn, .int .i64 4, .int .i64 dz, .bool du]] W fun e w' => e = .returned (.bool true) ∧ Below W.heap.size W w') := Lib.hid (fun W => by have h := r6right_any ⟨dn, 4, dz, du⟩ W n2; rw [h2] at h; exact h)
  clear h1 h2 n1 n2
  have hwy : wayR 1 4 = true := by decide
  go_enter Tryz.func14, Tryz.ntmps14
  go_upto_region 1 with fail
  obtain ⟨W1, hW1⟩ : ∃ W1, (w.alloc (.cells #[.string cn, .int .i64 1, .int .i64 cz, .bool cu] 24)).alloc (.cells #[.string dn, .int .i64 4, .int .i64 dz, .bool du] 24) = W1 := ⟨_, rfl⟩
  have hB : Below w.heap.size w W1 := by rw [← hW1]; exact ((Below.refl _ _).alloc (Nat.le_refl _) _).alloc (by simp) _
  have a0 : W1.cell? ⟨w.heap.size, 0, none⟩ = some (.string cn) := by rw [← hW1]; simp [go_sem]
  have a1 : W1.cell? ⟨w.heap.size, 1, none⟩ = some (.int .i64 1) := by rw [← hW1]; simp [go_sem]
  have a2 : W1.cell? ⟨w.heap.size, 2, none⟩ = some (.int .i64 cz) := by rw [← hW1]; simp [go_sem]
  have a3 : W1.cell? ⟨w.heap.size, 3, none⟩ = some (.bool cu) := by rw [← hW1]; simp [go_sem]
  have b0 : W1.cell? ⟨w.heap.size + 1, 0, none⟩ = some (.string dn) := by rw [← hW1]; simp [go_sem]
  have b1 : W1.cell? ⟨w.heap.size + 1, 1, none⟩ = some (.int .i64 4) := by rw [← hW1]; simp [go_sem]
  have b2 : W1.cell? ⟨w.heap.size + 1, 2, none⟩ = some (.int .i64 dz) := by rw [← hW1]; simp [go_sem]
  have b3 : W1.cell? ⟨w.heap.size + 1, 3, none⟩ = some (.bool du) := by rw [← hW1]; simp [go_sem]
  rw [hW1]
  clear hW1
  cases cu <;> cases du
  · go_wp2_with (first | (go_at_call 29; (with_reducible refine (HRC.out _).mono ?_); rintro e w2 ⟨rfl, hb⟩; replace a0 := keep_cell hb a0; replace a1 := keep_cell hb a1; replace a2 := keep_cell hb a2; replace a3 := keep_cell hb a3; replace b0 := keep_cell hb b0; replace b1 := keep_cell hb b1; replace b2 := keep_cell hb b2; replace b3 := keep_cell hb b3; replace hB := held_trans hB hb; clear hb) | (go_at_call 29; (with_reducible refine (HRD.out _).mono ?_); rintro e w2 ⟨rfl, hb⟩; replace a0 := keep_cell hb a0; replace a1 := keep_cell hb a1; replace a2 := keep_cell hb a2; replace a3 := keep_cell hb a3; replace b0 := keep_cell hb b0; replace b1 := keep_cell hb b1; replace b2 := keep_cell hb b2; replace b3 := keep_cell hb b3; replace hB := held_trans hB hb; clear hb))
    go_quiet (fail)
    have hb : Below w2.heap.size w2 (w2.drewN nq) := ⟨rfl, rfl, rfl, Nat.le_refl _, fun _ _ => rfl⟩
    replace a0 := keep_cell hb a0; replace a1 := keep_cell hb a1; replace a2 := keep_cell hb a2; replace a3 := keep_cell hb a3; replace b0 := keep_cell hb b0; replace b1 := keep_cell hb b1; replace b2 := keep_cell hb b2; replace b3 := keep_cell hb b3; replace hB := held_trans hB hb; clear hb
    go_wp2_with (first | (go_at_call 16; refine (r6Way_any _ _ _).mono ?_; rintro e w2 ⟨rfl, rfl⟩))
    replace a0 := fun p => later_cell a0 p; replace a1 := fun p => later_cell a1 p; replace a2 := fun p => later_cell a2 p; replace a3 := fun p => later_cell a3 p; replace b0 := fun p => later_cell b0 p; replace b1 := fun p => later_cell b1 p; replace b2 := fun p => later_cell b2 p; replace b3 := fun p => later_cell b3 p
    refine wp_region_later (by kernel_rfl) (by kernel_rfl) ?_
    repeat (go_big_quiet_step ((first | (go_at_call 34; exact Calls.later (r6digits_one _ _ _ _ hz)))))
    refine wpQuiet_nil ?_
    rintro w3 ⟨⟨W3, hb3⟩, rfl⟩
    go_wp2_with fail
    go_ret2
    exact ⟨by first | rfl | simp, held_trans hB hb3⟩
  · go_wp2_with (first | (go_at_call 29; (with_reducible refine (HRC.out _).mono ?_); rintro e w2 ⟨rfl, hb⟩; replace a0 := keep_cell hb a0; replace a1 := keep_cell hb a1; replace a2 := keep_cell hb a2; replace a3 := keep_cell hb a3; replace b0 := keep_cell hb b0; replace b1 := keep_cell hb b1; replace b2 := keep_cell hb b2; replace b3 := keep_cell hb b3; replace hB := held_trans hB hb; clear hb) | (go_at_call 29; (with_reducible refine (HRD.out _).mono ?_); rintro e w2 ⟨rfl, hb⟩; replace a0 := keep_cell hb a0; replace a1 := keep_cell hb a1; replace a2 := keep_cell hb a2; replace a3 := keep_cell hb a3; replace b0 := keep_cell hb b0; replace b1 := keep_cell hb b1; replace b2 := keep_cell hb b2; replace b3 := keep_cell hb b3; replace hB := held_trans hB hb; clear hb))
    go_quiet (fail)
    have hb : Below w2.heap.size w2 (w2.drewN nq) := ⟨rfl, rfl, rfl, Nat.le_refl _, fun _ _ => rfl⟩
    replace a0 := keep_cell hb a0; replace a1 := keep_cell hb a1; replace a2 := keep_cell hb a2; replace a3 := keep_cell hb a3; replace b0 := keep_cell hb b0; replace b1 := keep_cell hb b1; replace b2 := keep_cell hb b2; replace b3 := keep_cell hb b3; replace hB := held_trans hB hb; clear hb
    go_wp2_with (first | (go_at_call 16; refine (r6Way_any _ _ _).mono ?_; rintro e w2 ⟨rfl, rfl⟩))
    replace a0 := fun p => later_cell a0 p; replace a1 := fun p => later_cell a1 p; replace a2 := fun p => later_cell a2 p; replace a3 := fun p => later_cell a3 p; replace b0 := fun p => later_cell b0 p; replace b1 := fun p => later_cell b1 p; replace b2 := fun p => later_cell b2 p; replace b3 := fun p => later_cell b3 p
    refine wp_region_later (by kernel_rfl) (by kernel_rfl) ?_
    repeat (go_big_quiet_step ((first | (go_at_call 34; exact Calls.later (r6digits_one _ _ _ _ hz)))))
    refine wpQuiet_nil ?_
    rintro w3 ⟨⟨W3, hb3⟩, rfl⟩
    go_wp2_with fail
    go_ret2
    exact ⟨by first | rfl | simp, held_trans hB hb3⟩
  · go_wp2_with (first | (go_at_call 29; (with_reducible refine (HRC.out _).mono ?_); rintro e w2 ⟨rfl, hb⟩; replace a0 := keep_cell hb a0; replace a1 := keep_cell hb a1; replace a2 := keep_cell hb a2; replace a3 := keep_cell hb a3; replace b0 := keep_cell hb b0; replace b1 := keep_cell hb b1; replace b2 := keep_cell hb b2; replace b3 := keep_cell hb b3; replace hB := held_trans hB hb; clear hb) | (go_at_call 29; (with_reducible refine (HRD.out _).mono ?_); rintro e w2 ⟨rfl, hb⟩; replace a0 := keep_cell hb a0; replace a1 := keep_cell hb a1; replace a2 := keep_cell hb a2; replace a3 := keep_cell hb a3; replace b0 := keep_cell hb b0; replace b1 := keep_cell hb b1; replace b2 := keep_cell hb b2; replace b3 := keep_cell hb b3; replace hB := held_trans hB hb; clear hb))
    go_quiet (fail)
    have hb : Below w2.heap.size w2 (w2.drewN nq) := ⟨rfl, rfl, rfl, Nat.le_refl _, fun _ _ => rfl⟩
    replace a0 := keep_cell hb a0; replace a1 := keep_cell hb a1; replace a2 := keep_cell hb a2; replace a3 := keep_cell hb a3; replace b0 := keep_cell hb b0; replace b1 := keep_cell hb b1; replace b2 := keep_cell hb b2; replace b3 := keep_cell hb b3; replace hB := held_trans hB hb; clear hb
    go_wp2_with (first | (go_at_call 16; refine (r6Way_any _ _ _).mono ?_; rintro e w2 ⟨rfl, rfl⟩))
    go_ret2
    exact ⟨by first | rfl | simp, hB⟩
  · go_wp2_with (first | (go_at_call 29; (with_reducible refine (HRC.out _).mono ?_); rintro e w2 ⟨rfl, hb⟩; replace a0 := keep_cell hb a0; replace a1 := keep_cell hb a1; replace a2 := keep_cell hb a2; replace a3 := keep_cell hb a3; replace b0 := keep_cell hb b0; replace b1 := keep_cell hb b1; replace b2 := keep_cell hb b2; replace b3 := keep_cell hb b3; replace hB := held_trans hB hb; clear hb) | (go_at_call 29; (with_reducible refine (HRD.out _).mono ?_); rintro e w2 ⟨rfl, hb⟩; replace a0 := keep_cell hb a0; replace a1 := keep_cell hb a1; replace a2 := keep_cell hb a2; replace a3 := keep_cell hb a3; replace b0 := keep_cell hb b0; replace b1 := keep_cell hb b1; replace b2 := keep_cell hb b2; replace b3 := keep_cell hb b3; replace hB := held_trans hB hb; clear hb))
    go_quiet (fail)
    have hb : Below w2.heap.size w2 (w2.drewN nq) := ⟨rfl, rfl, rfl, Nat.le_refl _, fun _ _ => rfl⟩
    replace a0 := keep_cell hb a0; replace a1 := keep_cell hb a1; replace a2 := keep_cell hb a2; replace a3 := keep_cell hb a3; replace b0 := keep_cell hb b0; replace b1 := keep_cell hb b1; replace b2 := keep_cell hb b2; replace b3 := keep_cell hb b3; replace hB := held_trans hB hb; clear hb
    go_wp2_with (first | (go_at_call 16; refine (r6Way_any _ _ _).mono ?_; rintro e w2 ⟨rfl, rfl⟩))
    replace a0 := fun p => later_cell a0 p; replace a1 := fun p => later_cell a1 p; replace a2 := fun p => later_cell a2 p; replace a3 := fun p => later_cell a3 p; replace b0 := fun p => later_cell b0 p; replace b1 := fun p => later_cell b1 p; replace b2 := fun p => later_cell b2 p; replace b3 := fun p => later_cell b3 p
    refine wp_region_later (by kernel_rfl) (by kernel_rfl) ?_
    repeat (go_big_quiet_step ((first | (go_at_call 34; exact Calls.later (r6digits_one _ _ _ _ hz)))))
    refine wpQuiet_nil ?_
    rintro w3 ⟨⟨W3, hb3⟩, rfl⟩
    go_wp2_with fail
    go_ret2
    exact ⟨by first | rfl | simp, held_trans hB hb3⟩
set_option maxRecDepth 100000 in
set_option maxHeartbeats 4000000 in
theorem r6Sure_ok21 (cn : ByteArray) (cz : Int) (cu : Bool) (dn : ByteArray) (dz : Int) (du : Bool) (w : World) (n1 : cn.size ≤ 9223372036854775807) (n2 : dn.size ≤ 9223372036854775807) (h1 : colOk ⟨cn, 2, cz, cu⟩ = true) (h2 : colOk ⟨dn, 1, dz, du⟩ = true) :
    Calls Tryz.prog 14 #[.agg #[.string cn, .int .i64 2, .int .i64 cz, .bool cu], .agg #[.string dn, .int .i64 1, .int .i64 dz, .bool du]] w fun e w' => e = .returned (.tuple #[.bool ((du || !cu) && decide (cz < dz)), .int .i64 0]) ∧ Below w.heap.size w w' := by
  have HRC : Hid (∀ W, Calls Tryz.prog 29 #[.agg #[.string cn, .int .i64 2, .int .i64 cz, .bool cu]] W fun e w' => e = .returned (.bool true) ∧ Below W.heap.size W w') := Lib.hid (fun W => by have h := r6right_any ⟨cn, 2, cz, cu⟩ W n1; rw [h1] at h; exact h)
  have HRD : Hid (∀ W, Calls Tryz.prog 29 #[.agg #[.string dn, .int .i64 1, .int .i64 dz, .bool du]] W fun e w' => e = .returned (.bool true) ∧ Below W.heap.size W w') := Lib.hid (fun W => by have h := r6right_any ⟨dn, 1, dz, du⟩ W n2; rw [h2] at h; exact h)
  clear h1 h2 n1 n2
  have hwy : wayR 2 1 = true := by decide
  go_enter Tryz.func14, Tryz.ntmps14
  go_upto_region 1 with fail
  obtain ⟨W1, hW1⟩ : ∃ W1, (w.alloc (.cells #[.string cn, .int .i64 2, .int .i64 cz, .bool cu] 24)).alloc (.cells #[.string dn, .int .i64 1, .int .i64 dz, .bool du] 24) = W1 := ⟨_, rfl⟩
  have hB : Below w.heap.size w W1 := by rw [← hW1]; exact ((Below.refl _ _).alloc (Nat.le_refl _) _).alloc (by simp) _
  have a0 : W1.cell? ⟨w.heap.size, 0, none⟩ = some (.string cn) := by rw [← hW1]; simp [go_sem]
  have a1 : W1.cell? ⟨w.heap.size, 1, none⟩ = some (.int .i64 2) := by rw [← hW1]; simp [go_sem]
  have a2 : W1.cell? ⟨w.heap.size, 2, none⟩ = some (.int .i64 cz) := by rw [← hW1]; simp [go_sem]
  have a3 : W1.cell? ⟨w.heap.size, 3, none⟩ = some (.bool cu) := by rw [← hW1]; simp [go_sem]
  have b0 : W1.cell? ⟨w.heap.size + 1, 0, none⟩ = some (.string dn) := by rw [← hW1]; simp [go_sem]
  have b1 : W1.cell? ⟨w.heap.size + 1, 1, none⟩ = some (.int .i64 1) := by rw [← hW1]; simp [go_sem]
  have b2 : W1.cell? ⟨w.heap.size + 1, 2, none⟩ = some (.int .i64 dz) := by rw [← hW1]; simp [go_sem]
  have b3 : W1.cell? ⟨w.heap.size + 1, 3, none⟩ = some (.bool du) := by rw [← hW1]; simp [go_sem]
  rw [hW1]
  clear hW1
  cases cu <;> cases du
  all_goals
    go_wp2_with (first | (go_at_call 29; (with_reducible refine (HRC.out _).mono ?_); rintro e w2 ⟨rfl, hb⟩; replace a0 := keep_cell hb a0; replace a1 := keep_cell hb a1; replace a2 := keep_cell hb a2; replace a3 := keep_cell hb a3; replace b0 := keep_cell hb b0; replace b1 := keep_cell hb b1; replace b2 := keep_cell hb b2; replace b3 := keep_cell hb b3; replace hB := held_trans hB hb; clear hb) | (go_at_call 29; (with_reducible refine (HRD.out _).mono ?_); rintro e w2 ⟨rfl, hb⟩; replace a0 := keep_cell hb a0; replace a1 := keep_cell hb a1; replace a2 := keep_cell hb a2; replace a3 := keep_cell hb a3; replace b0 := keep_cell hb b0; replace b1 := keep_cell hb b1; replace b2 := keep_cell hb b2; replace b3 := keep_cell hb b3; replace hB := held_trans hB hb; clear hb))
    go_quiet (fail)
    have hb : Below w2.heap.size w2 (w2.drewN nq) := ⟨rfl, rfl, rfl, Nat.le_refl _, fun _ _ => rfl⟩
    replace a0 := keep_cell hb a0; replace a1 := keep_cell hb a1; replace a2 := keep_cell hb a2; replace a3 := keep_cell hb a3; replace b0 := keep_cell hb b0; replace b1 := keep_cell hb b1; replace b2 := keep_cell hb b2; replace b3 := keep_cell hb b3; replace hB := held_trans hB hb; clear hb
    go_wp2_with (first | (go_at_call 16; refine (r6Way_any _ _ _).mono ?_; rintro e w2 ⟨rfl, rfl⟩))
    go_ret2
    exact ⟨by first | rfl | simp, hB⟩
set_option maxRecDepth 100000 in
set_option maxHeartbeats 4000000 in
theorem r6Sure_ok22 (cn : ByteArray) (cz : Int) (cu : Bool) (dn : ByteArray) (dz : Int) (du : Bool) (w : World) (n1 : cn.size ≤ 9223372036854775807) (n2 : dn.size ≤ 9223372036854775807) (h1 : colOk ⟨cn, 2, cz, cu⟩ = true) (h2 : colOk ⟨dn, 2, dz, du⟩ = true) :
    Calls Tryz.prog 14 #[.agg #[.string cn, .int .i64 2, .int .i64 cz, .bool cu], .agg #[.string dn, .int .i64 2, .int .i64 dz, .bool du]] w fun e w' => e = .returned (.tuple #[.bool ((du || !cu) && decide (cz ≤ dz)), .int .i64 0]) ∧ Below w.heap.size w w' := by
  have HRC : Hid (∀ W, Calls Tryz.prog 29 #[.agg #[.string cn, .int .i64 2, .int .i64 cz, .bool cu]] W fun e w' => e = .returned (.bool true) ∧ Below W.heap.size W w') := Lib.hid (fun W => by have h := r6right_any ⟨cn, 2, cz, cu⟩ W n1; rw [h1] at h; exact h)
  have HRD : Hid (∀ W, Calls Tryz.prog 29 #[.agg #[.string dn, .int .i64 2, .int .i64 dz, .bool du]] W fun e w' => e = .returned (.bool true) ∧ Below W.heap.size W w') := Lib.hid (fun W => by have h := r6right_any ⟨dn, 2, dz, du⟩ W n2; rw [h2] at h; exact h)
  clear h1 h2 n1 n2
  have hwy : wayR 2 2 = true := by decide
  go_enter Tryz.func14, Tryz.ntmps14
  go_upto_region 1 with fail
  obtain ⟨W1, hW1⟩ : ∃ W1, (w.alloc (.cells #[.string cn, .int .i64 2, .int .i64 cz, .bool cu] 24)).alloc (.cells #[.string dn, .int .i64 2, .int .i64 dz, .bool du] 24) = W1 := ⟨_, rfl⟩
  have hB : Below w.heap.size w W1 := by rw [← hW1]; exact ((Below.refl _ _).alloc (Nat.le_refl _) _).alloc (by simp) _
  have a0 : W1.cell? ⟨w.heap.size, 0, none⟩ = some (.string cn) := by rw [← hW1]; simp [go_sem]
  have a1 : W1.cell? ⟨w.heap.size, 1, none⟩ = some (.int .i64 2) := by rw [← hW1]; simp [go_sem]
  have a2 : W1.cell? ⟨w.heap.size, 2, none⟩ = some (.int .i64 cz) := by rw [← hW1]; simp [go_sem]
  have a3 : W1.cell? ⟨w.heap.size, 3, none⟩ = some (.bool cu) := by rw [← hW1]; simp [go_sem]
  have b0 : W1.cell? ⟨w.heap.size + 1, 0, none⟩ = some (.string dn) := by rw [← hW1]; simp [go_sem]
  have b1 : W1.cell? ⟨w.heap.size + 1, 1, none⟩ = some (.int .i64 2) := by rw [← hW1]; simp [go_sem]
  have b2 : W1.cell? ⟨w.heap.size + 1, 2, none⟩ = some (.int .i64 dz) := by rw [← hW1]; simp [go_sem]
  have b3 : W1.cell? ⟨w.heap.size + 1, 3, none⟩ = some (.bool du) := by rw [← hW1]; simp [go_sem]
  rw [hW1]
  clear hW1
  cases cu <;> cases du
  all_goals
    go_wp2_with (first | (go_at_call 29; (with_reducible refine (HRC.out _).mono ?_); rintro e w2 ⟨rfl, hb⟩; replace a0 := keep_cell hb a0; replace a1 := keep_cell hb a1; replace a2 := keep_cell hb a2; replace a3 := keep_cell hb a3; replace b0 := keep_cell hb b0; replace b1 := keep_cell hb b1; replace b2 := keep_cell hb b2; replace b3 := keep_cell hb b3; replace hB := held_trans hB hb; clear hb) | (go_at_call 29; (with_reducible refine (HRD.out _).mono ?_); rintro e w2 ⟨rfl, hb⟩; replace a0 := keep_cell hb a0; replace a1 := keep_cell hb a1; replace a2 := keep_cell hb a2; replace a3 := keep_cell hb a3; replace b0 := keep_cell hb b0; replace b1 := keep_cell hb b1; replace b2 := keep_cell hb b2; replace b3 := keep_cell hb b3; replace hB := held_trans hB hb; clear hb))
    go_quiet (fail)
    have hb : Below w2.heap.size w2 (w2.drewN nq) := ⟨rfl, rfl, rfl, Nat.le_refl _, fun _ _ => rfl⟩
    replace a0 := keep_cell hb a0; replace a1 := keep_cell hb a1; replace a2 := keep_cell hb a2; replace a3 := keep_cell hb a3; replace b0 := keep_cell hb b0; replace b1 := keep_cell hb b1; replace b2 := keep_cell hb b2; replace b3 := keep_cell hb b3; replace hB := held_trans hB hb; clear hb
    go_wp2_with (first | (go_at_call 16; refine (r6Way_any _ _ _).mono ?_; rintro e w2 ⟨rfl, rfl⟩))
    go_ret2
    exact ⟨by first | rfl | simp, hB⟩
set_option maxRecDepth 100000 in
set_option maxHeartbeats 4000000 in
theorem r6Sure_ok23 (cn : ByteArray) (cz : Int) (cu : Bool) (dn : ByteArray) (dz : Int) (du : Bool) (w : World) (n1 : cn.size ≤ 9223372036854775807) (n2 : dn.size ≤ 9223372036854775807) (h1 : colOk ⟨cn, 2, cz, cu⟩ = true) (h2 : colOk ⟨dn, 3, dz, du⟩ = true) :
    Calls Tryz.prog 14 #[.agg #[.string cn, .int .i64 2, .int .i64 cz, .bool cu], .agg #[.string dn, .int .i64 3, .int .i64 dz, .bool du]] w fun e w' => e = .returned (.tuple #[.bool (false), .int .i64 0]) ∧ Below w.heap.size w w' := by
  have HRC : Hid (∀ W, Calls Tryz.prog 29 #[.agg #[.string cn, .int .i64 2, .int .i64 cz, .bool cu]] W fun e w' => e = .returned (.bool true) ∧ Below W.heap.size W w') := Lib.hid (fun W => by have h := r6right_any ⟨cn, 2, cz, cu⟩ W n1; rw [h1] at h; exact h)
  have HRD : Hid (∀ W, Calls Tryz.prog 29 #[.agg #[.string dn, .int .i64 3, .int .i64 dz, .bool du]] W fun e w' => e = .returned (.bool true) ∧ Below W.heap.size W w') := Lib.hid (fun W => by have h := r6right_any ⟨dn, 3, dz, du⟩ W n2; rw [h2] at h; exact h)
  clear h1 h2 n1 n2
  have hwy : wayR 2 3 = true := by decide
  go_enter Tryz.func14, Tryz.ntmps14
  go_upto_region 1 with fail
  obtain ⟨W1, hW1⟩ : ∃ W1, (w.alloc (.cells #[.string cn, .int .i64 2, .int .i64 cz, .bool cu] 24)).alloc (.cells #[.string dn, .int .i64 3, .int .i64 dz, .bool du] 24) = W1 := ⟨_, rfl⟩
  have hB : Below w.heap.size w W1 := by rw [← hW1]; exact ((Below.refl _ _).alloc (Nat.le_refl _) _).alloc (by simp) _
  have a0 : W1.cell? ⟨w.heap.size, 0, none⟩ = some (.string cn) := by rw [← hW1]; simp [go_sem]
  have a1 : W1.cell? ⟨w.heap.size, 1, none⟩ = some (.int .i64 2) := by rw [← hW1]; simp [go_sem]
  have a2 : W1.cell? ⟨w.heap.size, 2, none⟩ = some (.int .i64 cz) := by rw [← hW1]; simp [go_sem]
  have a3 : W1.cell? ⟨w.heap.size, 3, none⟩ = some (.bool cu) := by rw [← hW1]; simp [go_sem]
  have b0 : W1.cell? ⟨w.heap.size + 1, 0, none⟩ = some (.string dn) := by rw [← hW1]; simp [go_sem]
  have b1 : W1.cell? ⟨w.heap.size + 1, 1, none⟩ = some (.int .i64 3) := by rw [← hW1]; simp [go_sem]
  have b2 : W1.cell? ⟨w.heap.size + 1, 2, none⟩ = some (.int .i64 dz) := by rw [← hW1]; simp [go_sem]
  have b3 : W1.cell? ⟨w.heap.size + 1, 3, none⟩ = some (.bool du) := by rw [← hW1]; simp [go_sem]
  rw [hW1]
  clear hW1
  cases cu <;> cases du
  all_goals
    go_wp2_with (first | (go_at_call 29; (with_reducible refine (HRC.out _).mono ?_); rintro e w2 ⟨rfl, hb⟩; replace a0 := keep_cell hb a0; replace a1 := keep_cell hb a1; replace a2 := keep_cell hb a2; replace a3 := keep_cell hb a3; replace b0 := keep_cell hb b0; replace b1 := keep_cell hb b1; replace b2 := keep_cell hb b2; replace b3 := keep_cell hb b3; replace hB := held_trans hB hb; clear hb) | (go_at_call 29; (with_reducible refine (HRD.out _).mono ?_); rintro e w2 ⟨rfl, hb⟩; replace a0 := keep_cell hb a0; replace a1 := keep_cell hb a1; replace a2 := keep_cell hb a2; replace a3 := keep_cell hb a3; replace b0 := keep_cell hb b0; replace b1 := keep_cell hb b1; replace b2 := keep_cell hb b2; replace b3 := keep_cell hb b3; replace hB := held_trans hB hb; clear hb))
    go_quiet (fail)
    have hb : Below w2.heap.size w2 (w2.drewN nq) := ⟨rfl, rfl, rfl, Nat.le_refl _, fun _ _ => rfl⟩
    replace a0 := keep_cell hb a0; replace a1 := keep_cell hb a1; replace a2 := keep_cell hb a2; replace a3 := keep_cell hb a3; replace b0 := keep_cell hb b0; replace b1 := keep_cell hb b1; replace b2 := keep_cell hb b2; replace b3 := keep_cell hb b3; replace hB := held_trans hB hb; clear hb
    go_wp2_with (first | (go_at_call 16; refine (r6Way_any _ _ _).mono ?_; rintro e w2 ⟨rfl, rfl⟩))
    go_ret2
    exact ⟨by first | rfl | simp, hB⟩
set_option maxRecDepth 100000 in
set_option maxHeartbeats 4000000 in
theorem r6Sure_ok24 (cn : ByteArray) (cz : Int) (cu : Bool) (dn : ByteArray) (dz : Int) (du : Bool) (w : World) (n1 : cn.size ≤ 9223372036854775807) (n2 : dn.size ≤ 9223372036854775807) (h1 : colOk ⟨cn, 2, cz, cu⟩ = true) (h2 : colOk ⟨dn, 4, dz, du⟩ = true) (hz : numSz cz = true) :
    Calls Tryz.prog 14 #[.agg #[.string cn, .int .i64 2, .int .i64 cz, .bool cu], .agg #[.string dn, .int .i64 4, .int .i64 dz, .bool du]] w fun e w' => e = .returned (.tuple #[.bool ((du || !cu) && decide (digN 2 cz ≤ dz)), .int .i64 0]) ∧ Below w.heap.size w w' := by
  have HRC : Hid (∀ W, Calls Tryz.prog 29 #[.agg #[.string cn, .int .i64 2, .int .i64 cz, .bool cu]] W fun e w' => e = .returned (.bool true) ∧ Below W.heap.size W w') := Lib.hid (fun W => by have h := r6right_any ⟨cn, 2, cz, cu⟩ W n1; rw [h1] at h; exact h)
  have HRD : Hid (∀ W, Calls Tryz.prog 29 #[.agg #[.string dn, .int .i64 4, .int .i64 dz, .bool du]] W fun e w' => e = .returned (.bool true) ∧ Below W.heap.size W w') := Lib.hid (fun W => by have h := r6right_any ⟨dn, 4, dz, du⟩ W n2; rw [h2] at h; exact h)
  clear h1 h2 n1 n2
  have hwy : wayR 2 4 = true := by decide
  go_enter Tryz.func14, Tryz.ntmps14
  go_upto_region 1 with fail
  obtain ⟨W1, hW1⟩ : ∃ W1, (w.alloc (.cells #[.string cn, .int .i64 2, .int .i64 cz, .bool cu] 24)).alloc (.cells #[.string dn, .int .i64 4, .int .i64 dz, .bool du] 24) = W1 := ⟨_, rfl⟩
  have hB : Below w.heap.size w W1 := by rw [← hW1]; exact ((Below.refl _ _).alloc (Nat.le_refl _) _).alloc (by simp) _
  have a0 : W1.cell? ⟨w.heap.size, 0, none⟩ = some (.string cn) := by rw [← hW1]; simp [go_sem]
  have a1 : W1.cell? ⟨w.heap.size, 1, none⟩ = some (.int .i64 2) := by rw [← hW1]; simp [go_sem]
  have a2 : W1.cell? ⟨w.heap.size, 2, none⟩ = some (.int .i64 cz) := by rw [← hW1]; simp [go_sem]
  have a3 : W1.cell? ⟨w.heap.size, 3, none⟩ = some (.bool cu) := by rw [← hW1]; simp [go_sem]
  have b0 : W1.cell? ⟨w.heap.size + 1, 0, none⟩ = some (.string dn) := by rw [← hW1]; simp [go_sem]
  have b1 : W1.cell? ⟨w.heap.size + 1, 1, none⟩ = some (.int .i64 4) := by rw [← hW1]; simp [go_sem]
  have b2 : W1.cell? ⟨w.heap.size + 1, 2, none⟩ = some (.int .i64 dz) := by rw [← hW1]; simp [go_sem]
  have b3 : W1.cell? ⟨w.heap.size + 1, 3, none⟩ = some (.bool du) := by rw [← hW1]; simp [go_sem]
  rw [hW1]
  clear hW1
  cases cu <;> cases du
  · go_wp2_with (first | (go_at_call 29; (with_reducible refine (HRC.out _).mono ?_); rintro e w2 ⟨rfl, hb⟩; replace a0 := keep_cell hb a0; replace a1 := keep_cell hb a1; replace a2 := keep_cell hb a2; replace a3 := keep_cell hb a3; replace b0 := keep_cell hb b0; replace b1 := keep_cell hb b1; replace b2 := keep_cell hb b2; replace b3 := keep_cell hb b3; replace hB := held_trans hB hb; clear hb) | (go_at_call 29; (with_reducible refine (HRD.out _).mono ?_); rintro e w2 ⟨rfl, hb⟩; replace a0 := keep_cell hb a0; replace a1 := keep_cell hb a1; replace a2 := keep_cell hb a2; replace a3 := keep_cell hb a3; replace b0 := keep_cell hb b0; replace b1 := keep_cell hb b1; replace b2 := keep_cell hb b2; replace b3 := keep_cell hb b3; replace hB := held_trans hB hb; clear hb))
    go_quiet (fail)
    have hb : Below w2.heap.size w2 (w2.drewN nq) := ⟨rfl, rfl, rfl, Nat.le_refl _, fun _ _ => rfl⟩
    replace a0 := keep_cell hb a0; replace a1 := keep_cell hb a1; replace a2 := keep_cell hb a2; replace a3 := keep_cell hb a3; replace b0 := keep_cell hb b0; replace b1 := keep_cell hb b1; replace b2 := keep_cell hb b2; replace b3 := keep_cell hb b3; replace hB := held_trans hB hb; clear hb
    go_wp2_with (first | (go_at_call 16; refine (r6Way_any _ _ _).mono ?_; rintro e w2 ⟨rfl, rfl⟩))
    replace a0 := fun p => later_cell a0 p; replace a1 := fun p => later_cell a1 p; replace a2 := fun p => later_cell a2 p; replace a3 := fun p => later_cell a3 p; replace b0 := fun p => later_cell b0 p; replace b1 := fun p => later_cell b1 p; replace b2 := fun p => later_cell b2 p; replace b3 := fun p => later_cell b3 p
    refine wp_region_later (by kernel_rfl) (by kernel_rfl) ?_
    repeat (go_big_quiet_step ((first | (go_at_call 34; exact Calls.later (r6digits_two _ _ _ _ _ (by decide) hz)))))
    refine wpQuiet_nil ?_
    rintro w3 ⟨⟨W3, hb3⟩, rfl⟩
    go_wp2_with fail
    go_ret2
    exact ⟨by first | rfl | simp, held_trans hB hb3⟩
  · go_wp2_with (first | (go_at_call 29; (with_reducible refine (HRC.out _).mono ?_); rintro e w2 ⟨rfl, hb⟩; replace a0 := keep_cell hb a0; replace a1 := keep_cell hb a1; replace a2 := keep_cell hb a2; replace a3 := keep_cell hb a3; replace b0 := keep_cell hb b0; replace b1 := keep_cell hb b1; replace b2 := keep_cell hb b2; replace b3 := keep_cell hb b3; replace hB := held_trans hB hb; clear hb) | (go_at_call 29; (with_reducible refine (HRD.out _).mono ?_); rintro e w2 ⟨rfl, hb⟩; replace a0 := keep_cell hb a0; replace a1 := keep_cell hb a1; replace a2 := keep_cell hb a2; replace a3 := keep_cell hb a3; replace b0 := keep_cell hb b0; replace b1 := keep_cell hb b1; replace b2 := keep_cell hb b2; replace b3 := keep_cell hb b3; replace hB := held_trans hB hb; clear hb))
    go_quiet (fail)
    have hb : Below w2.heap.size w2 (w2.drewN nq) := ⟨rfl, rfl, rfl, Nat.le_refl _, fun _ _ => rfl⟩
    replace a0 := keep_cell hb a0; replace a1 := keep_cell hb a1; replace a2 := keep_cell hb a2; replace a3 := keep_cell hb a3; replace b0 := keep_cell hb b0; replace b1 := keep_cell hb b1; replace b2 := keep_cell hb b2; replace b3 := keep_cell hb b3; replace hB := held_trans hB hb; clear hb
    go_wp2_with (first | (go_at_call 16; refine (r6Way_any _ _ _).mono ?_; rintro e w2 ⟨rfl, rfl⟩))
    replace a0 := fun p => later_cell a0 p; replace a1 := fun p => later_cell a1 p; replace a2 := fun p => later_cell a2 p; replace a3 := fun p => later_cell a3 p; replace b0 := fun p => later_cell b0 p; replace b1 := fun p => later_cell b1 p; replace b2 := fun p => later_cell b2 p; replace b3 := fun p => later_cell b3 p
    refine wp_region_later (by kernel_rfl) (by kernel_rfl) ?_
    repeat (go_big_quiet_step ((first | (go_at_call 34; exact Calls.later (r6digits_two _ _ _ _ _ (by decide) hz)))))
    refine wpQuiet_nil ?_
    rintro w3 ⟨⟨W3, hb3⟩, rfl⟩
    go_wp2_with fail
    go_ret2
    exact ⟨by first | rfl | simp, held_trans hB hb3⟩
  · go_wp2_with (first | (go_at_call 29; (with_reducible refine (HRC.out _).mono ?_); rintro e w2 ⟨rfl, hb⟩; replace a0 := keep_cell hb a0; replace a1 := keep_cell hb a1; replace a2 := keep_cell hb a2; replace a3 := keep_cell hb a3; replace b0 := keep_cell hb b0; replace b1 := keep_cell hb b1; replace b2 := keep_cell hb b2; replace b3 := keep_cell hb b3; replace hB := held_trans hB hb; clear hb) | (go_at_call 29; (with_reducible refine (HRD.out _).mono ?_); rintro e w2 ⟨rfl, hb⟩; replace a0 := keep_cell hb a0; replace a1 := keep_cell hb a1; replace a2 := keep_cell hb a2; replace a3 := keep_cell hb a3; replace b0 := keep_cell hb b0; replace b1 := keep_cell hb b1; replace b2 := keep_cell hb b2; replace b3 := keep_cell hb b3; replace hB := held_trans hB hb; clear hb))
    go_quiet (fail)
    have hb : Below w2.heap.size w2 (w2.drewN nq) := ⟨rfl, rfl, rfl, Nat.le_refl _, fun _ _ => rfl⟩
    replace a0 := keep_cell hb a0; replace a1 := keep_cell hb a1; replace a2 := keep_cell hb a2; replace a3 := keep_cell hb a3; replace b0 := keep_cell hb b0; replace b1 := keep_cell hb b1; replace b2 := keep_cell hb b2; replace b3 := keep_cell hb b3; replace hB := held_trans hB hb; clear hb
    go_wp2_with (first | (go_at_call 16; refine (r6Way_any _ _ _).mono ?_; rintro e w2 ⟨rfl, rfl⟩))
    go_ret2
    exact ⟨by first | rfl | simp, hB⟩
  · go_wp2_with (first | (go_at_call 29; (with_reducible refine (HRC.out _).mono ?_); rintro e w2 ⟨rfl, hb⟩; replace a0 := keep_cell hb a0; replace a1 := keep_cell hb a1; replace a2 := keep_cell hb a2; replace a3 := keep_cell hb a3; replace b0 := keep_cell hb b0; replace b1 := keep_cell hb b1; replace b2 := keep_cell hb b2; replace b3 := keep_cell hb b3; replace hB := held_trans hB hb; clear hb) | (go_at_call 29; (with_reducible refine (HRD.out _).mono ?_); rintro e w2 ⟨rfl, hb⟩; replace a0 := keep_cell hb a0; replace a1 := keep_cell hb a1; replace a2 := keep_cell hb a2; replace a3 := keep_cell hb a3; replace b0 := keep_cell hb b0; replace b1 := keep_cell hb b1; replace b2 := keep_cell hb b2; replace b3 := keep_cell hb b3; replace hB := held_trans hB hb; clear hb))
    go_quiet (fail)
    have hb : Below w2.heap.size w2 (w2.drewN nq) := ⟨rfl, rfl, rfl, Nat.le_refl _, fun _ _ => rfl⟩
    replace a0 := keep_cell hb a0; replace a1 := keep_cell hb a1; replace a2 := keep_cell hb a2; replace a3 := keep_cell hb a3; replace b0 := keep_cell hb b0; replace b1 := keep_cell hb b1; replace b2 := keep_cell hb b2; replace b3 := keep_cell hb b3; replace hB := held_trans hB hb; clear hb
    go_wp2_with (first | (go_at_call 16; refine (r6Way_any _ _ _).mono ?_; rintro e w2 ⟨rfl, rfl⟩))
    replace a0 := fun p => later_cell a0 p; replace a1 := fun p => later_cell a1 p; replace a2 := fun p => later_cell a2 p; replace a3 := fun p => later_cell a3 p; replace b0 := fun p => later_cell b0 p; replace b1 := fun p => later_cell b1 p; replace b2 := fun p => later_cell b2 p; replace b3 := fun p => later_cell b3 p
    refine wp_region_later (by kernel_rfl) (by kernel_rfl) ?_
    repeat (go_big_quiet_step ((first | (go_at_call 34; exact Calls.later (r6digits_two _ _ _ _ _ (by decide) hz)))))
    refine wpQuiet_nil ?_
    rintro w3 ⟨⟨W3, hb3⟩, rfl⟩
    go_wp2_with fail
    go_ret2
    exact ⟨by first | rfl | simp, held_trans hB hb3⟩
set_option maxRecDepth 100000 in
set_option maxHeartbeats 4000000 in
theorem r6Sure_ok31 (cn : ByteArray) (cz : Int) (cu : Bool) (dn : ByteArray) (dz : Int) (du : Bool) (w : World) (n1 : cn.size ≤ 9223372036854775807) (n2 : dn.size ≤ 9223372036854775807) (h1 : colOk ⟨cn, 3, cz, cu⟩ = true) (h2 : colOk ⟨dn, 1, dz, du⟩ = true) :
    Calls Tryz.prog 14 #[.agg #[.string cn, .int .i64 3, .int .i64 cz, .bool cu], .agg #[.string dn, .int .i64 1, .int .i64 dz, .bool du]] w fun e w' => e = .returned (.tuple #[.bool ((du || !cu) && true), .int .i64 0]) ∧ Below w.heap.size w w' := by
  have HRC : Hid (∀ W, Calls Tryz.prog 29 #[.agg #[.string cn, .int .i64 3, .int .i64 cz, .bool cu]] W fun e w' => e = .returned (.bool true) ∧ Below W.heap.size W w') := Lib.hid (fun W => by have h := r6right_any ⟨cn, 3, cz, cu⟩ W n1; rw [h1] at h; exact h)
  have HRD : Hid (∀ W, Calls Tryz.prog 29 #[.agg #[.string dn, .int .i64 1, .int .i64 dz, .bool du]] W fun e w' => e = .returned (.bool true) ∧ Below W.heap.size W w') := Lib.hid (fun W => by have h := r6right_any ⟨dn, 1, dz, du⟩ W n2; rw [h2] at h; exact h)
  clear h1 h2 n1 n2
  have hwy : wayR 3 1 = true := by decide
  go_enter Tryz.func14, Tryz.ntmps14
  go_upto_region 1 with fail
  obtain ⟨W1, hW1⟩ : ∃ W1, (w.alloc (.cells #[.string cn, .int .i64 3, .int .i64 cz, .bool cu] 24)).alloc (.cells #[.string dn, .int .i64 1, .int .i64 dz, .bool du] 24) = W1 := ⟨_, rfl⟩
  have hB : Below w.heap.size w W1 := by rw [← hW1]; exact ((Below.refl _ _).alloc (Nat.le_refl _) _).alloc (by simp) _
  have a0 : W1.cell? ⟨w.heap.size, 0, none⟩ = some (.string cn) := by rw [← hW1]; simp [go_sem]
  have a1 : W1.cell? ⟨w.heap.size, 1, none⟩ = some (.int .i64 3) := by rw [← hW1]; simp [go_sem]
  have a2 : W1.cell? ⟨w.heap.size, 2, none⟩ = some (.int .i64 cz) := by rw [← hW1]; simp [go_sem]
  have a3 : W1.cell? ⟨w.heap.size, 3, none⟩ = some (.bool cu) := by rw [← hW1]; simp [go_sem]
  have b0 : W1.cell? ⟨w.heap.size + 1, 0, none⟩ = some (.string dn) := by rw [← hW1]; simp [go_sem]
  have b1 : W1.cell? ⟨w.heap.size + 1, 1, none⟩ = some (.int .i64 1) := by rw [← hW1]; simp [go_sem]
  have b2 : W1.cell? ⟨w.heap.size + 1, 2, none⟩ = some (.int .i64 dz) := by rw [← hW1]; simp [go_sem]
  have b3 : W1.cell? ⟨w.heap.size + 1, 3, none⟩ = some (.bool du) := by rw [← hW1]; simp [go_sem]
  rw [hW1]
  clear hW1
  cases cu <;> cases du
  all_goals
    go_wp2_with (first | (go_at_call 29; (with_reducible refine (HRC.out _).mono ?_); rintro e w2 ⟨rfl, hb⟩; replace a0 := keep_cell hb a0; replace a1 := keep_cell hb a1; replace a2 := keep_cell hb a2; replace a3 := keep_cell hb a3; replace b0 := keep_cell hb b0; replace b1 := keep_cell hb b1; replace b2 := keep_cell hb b2; replace b3 := keep_cell hb b3; replace hB := held_trans hB hb; clear hb) | (go_at_call 29; (with_reducible refine (HRD.out _).mono ?_); rintro e w2 ⟨rfl, hb⟩; replace a0 := keep_cell hb a0; replace a1 := keep_cell hb a1; replace a2 := keep_cell hb a2; replace a3 := keep_cell hb a3; replace b0 := keep_cell hb b0; replace b1 := keep_cell hb b1; replace b2 := keep_cell hb b2; replace b3 := keep_cell hb b3; replace hB := held_trans hB hb; clear hb))
    go_quiet (fail)
    have hb : Below w2.heap.size w2 (w2.drewN nq) := ⟨rfl, rfl, rfl, Nat.le_refl _, fun _ _ => rfl⟩
    replace a0 := keep_cell hb a0; replace a1 := keep_cell hb a1; replace a2 := keep_cell hb a2; replace a3 := keep_cell hb a3; replace b0 := keep_cell hb b0; replace b1 := keep_cell hb b1; replace b2 := keep_cell hb b2; replace b3 := keep_cell hb b3; replace hB := held_trans hB hb; clear hb
    go_wp2_with (first | (go_at_call 16; refine (r6Way_any _ _ _).mono ?_; rintro e w2 ⟨rfl, rfl⟩))
    go_ret2
    exact ⟨by first | rfl | simp, hB⟩
set_option maxRecDepth 100000 in
set_option maxHeartbeats 4000000 in
theorem r6Sure_ok32 (cn : ByteArray) (cz : Int) (cu : Bool) (dn : ByteArray) (dz : Int) (du : Bool) (w : World) (n1 : cn.size ≤ 9223372036854775807) (n2 : dn.size ≤ 9223372036854775807) (h1 : colOk ⟨cn, 3, cz, cu⟩ = true) (h2 : colOk ⟨dn, 2, dz, du⟩ = true) :
    Calls Tryz.prog 14 #[.agg #[.string cn, .int .i64 3, .int .i64 cz, .bool cu], .agg #[.string dn, .int .i64 2, .int .i64 dz, .bool du]] w fun e w' => e = .returned (.tuple #[.bool ((du || !cu) && true), .int .i64 0]) ∧ Below w.heap.size w w' := by
  have HRC : Hid (∀ W, Calls Tryz.prog 29 #[.agg #[.string cn, .int .i64 3, .int .i64 cz, .bool cu]] W fun e w' => e = .returned (.bool true) ∧ Below W.heap.size W w') := Lib.hid (fun W => by have h := r6right_any ⟨cn, 3, cz, cu⟩ W n1; rw [h1] at h; exact h)
  have HRD : Hid (∀ W, Calls Tryz.prog 29 #[.agg #[.string dn, .int .i64 2, .int .i64 dz, .bool du]] W fun e w' => e = .returned (.bool true) ∧ Below W.heap.size W w') := Lib.hid (fun W => by have h := r6right_any ⟨dn, 2, dz, du⟩ W n2; rw [h2] at h; exact h)
  clear h1 h2 n1 n2
  have hwy : wayR 3 2 = true := by decide
  go_enter Tryz.func14, Tryz.ntmps14
  go_upto_region 1 with fail
  obtain ⟨W1, hW1⟩ : ∃ W1, (w.alloc (.cells #[.string cn, .int .i64 3, .int .i64 cz, .bool cu] 24)).alloc (.cells #[.string dn, .int .i64 2, .int .i64 dz, .bool du] 24) = W1 := ⟨_, rfl⟩
  have hB : Below w.heap.size w W1 := by rw [← hW1]; exact ((Below.refl _ _).alloc (Nat.le_refl _) _).alloc (by simp) _
  have a0 : W1.cell? ⟨w.heap.size, 0, none⟩ = some (.string cn) := by rw [← hW1]; simp [go_sem]
  have a1 : W1.cell? ⟨w.heap.size, 1, none⟩ = some (.int .i64 3) := by rw [← hW1]; simp [go_sem]
  have a2 : W1.cell? ⟨w.heap.size, 2, none⟩ = some (.int .i64 cz) := by rw [← hW1]; simp [go_sem]
  have a3 : W1.cell? ⟨w.heap.size, 3, none⟩ = some (.bool cu) := by rw [← hW1]; simp [go_sem]
  have b0 : W1.cell? ⟨w.heap.size + 1, 0, none⟩ = some (.string dn) := by rw [← hW1]; simp [go_sem]
  have b1 : W1.cell? ⟨w.heap.size + 1, 1, none⟩ = some (.int .i64 2) := by rw [← hW1]; simp [go_sem]
  have b2 : W1.cell? ⟨w.heap.size + 1, 2, none⟩ = some (.int .i64 dz) := by rw [← hW1]; simp [go_sem]
  have b3 : W1.cell? ⟨w.heap.size + 1, 3, none⟩ = some (.bool du) := by rw [← hW1]; simp [go_sem]
  rw [hW1]
  clear hW1
  cases cu <;> cases du
  all_goals
    go_wp2_with (first | (go_at_call 29; (with_reducible refine (HRC.out _).mono ?_); rintro e w2 ⟨rfl, hb⟩; replace a0 := keep_cell hb a0; replace a1 := keep_cell hb a1; replace a2 := keep_cell hb a2; replace a3 := keep_cell hb a3; replace b0 := keep_cell hb b0; replace b1 := keep_cell hb b1; replace b2 := keep_cell hb b2; replace b3 := keep_cell hb b3; replace hB := held_trans hB hb; clear hb) | (go_at_call 29; (with_reducible refine (HRD.out _).mono ?_); rintro e w2 ⟨rfl, hb⟩; replace a0 := keep_cell hb a0; replace a1 := keep_cell hb a1; replace a2 := keep_cell hb a2; replace a3 := keep_cell hb a3; replace b0 := keep_cell hb b0; replace b1 := keep_cell hb b1; replace b2 := keep_cell hb b2; replace b3 := keep_cell hb b3; replace hB := held_trans hB hb; clear hb))
    go_quiet (fail)
    have hb : Below w2.heap.size w2 (w2.drewN nq) := ⟨rfl, rfl, rfl, Nat.le_refl _, fun _ _ => rfl⟩
    replace a0 := keep_cell hb a0; replace a1 := keep_cell hb a1; replace a2 := keep_cell hb a2; replace a3 := keep_cell hb a3; replace b0 := keep_cell hb b0; replace b1 := keep_cell hb b1; replace b2 := keep_cell hb b2; replace b3 := keep_cell hb b3; replace hB := held_trans hB hb; clear hb
    go_wp2_with (first | (go_at_call 16; refine (r6Way_any _ _ _).mono ?_; rintro e w2 ⟨rfl, rfl⟩))
    go_ret2
    exact ⟨by first | rfl | simp, hB⟩
set_option maxRecDepth 100000 in
set_option maxHeartbeats 4000000 in
theorem r6Sure_ok33 (cn : ByteArray) (cz : Int) (cu : Bool) (dn : ByteArray) (dz : Int) (du : Bool) (w : World) (n1 : cn.size ≤ 9223372036854775807) (n2 : dn.size ≤ 9223372036854775807) (h1 : colOk ⟨cn, 3, cz, cu⟩ = true) (h2 : colOk ⟨dn, 3, dz, du⟩ = true) :
    Calls Tryz.prog 14 #[.agg #[.string cn, .int .i64 3, .int .i64 cz, .bool cu], .agg #[.string dn, .int .i64 3, .int .i64 dz, .bool du]] w fun e w' => e = .returned (.tuple #[.bool ((du || !cu) && decide (cz ≤ dz)), .int .i64 0]) ∧ Below w.heap.size w w' := by
  have HRC : Hid (∀ W, Calls Tryz.prog 29 #[.agg #[.string cn, .int .i64 3, .int .i64 cz, .bool cu]] W fun e w' => e = .returned (.bool true) ∧ Below W.heap.size W w') := Lib.hid (fun W => by have h := r6right_any ⟨cn, 3, cz, cu⟩ W n1; rw [h1] at h; exact h)
  have HRD : Hid (∀ W, Calls Tryz.prog 29 #[.agg #[.string dn, .int .i64 3, .int .i64 dz, .bool du]] W fun e w' => e = .returned (.bool true) ∧ Below W.heap.size W w') := Lib.hid (fun W => by have h := r6right_any ⟨dn, 3, dz, du⟩ W n2; rw [h2] at h; exact h)
  clear h1 h2 n1 n2
  have hwy : wayR 3 3 = true := by decide
  go_enter Tryz.func14, Tryz.ntmps14
  go_upto_region 1 with fail
  obtain ⟨W1, hW1⟩ : ∃ W1, (w.alloc (.cells #[.string cn, .int .i64 3, .int .i64 cz, .bool cu] 24)).alloc (.cells #[.string dn, .int .i64 3, .int .i64 dz, .bool du] 24) = W1 := ⟨_, rfl⟩
  have hB : Below w.heap.size w W1 := by rw [← hW1]; exact ((Below.refl _ _).alloc (Nat.le_refl _) _).alloc (by simp) _
  have a0 : W1.cell? ⟨w.heap.size, 0, none⟩ = some (.string cn) := by rw [← hW1]; simp [go_sem]
  have a1 : W1.cell? ⟨w.heap.size, 1, none⟩ = some (.int .i64 3) := by rw [← hW1]; simp [go_sem]
  have a2 : W1.cell? ⟨w.heap.size, 2, none⟩ = some (.int .i64 cz) := by rw [← hW1]; simp [go_sem]
  have a3 : W1.cell? ⟨w.heap.size, 3, none⟩ = some (.bool cu) := by rw [← hW1]; simp [go_sem]
  have b0 : W1.cell? ⟨w.heap.size + 1, 0, none⟩ = some (.string dn) := by rw [← hW1]; simp [go_sem]
  have b1 : W1.cell? ⟨w.heap.size + 1, 1, none⟩ = some (.int .i64 3) := by rw [← hW1]; simp [go_sem]
  have b2 : W1.cell? ⟨w.heap.size + 1, 2, none⟩ = some (.int .i64 dz) := by rw [← hW1]; simp [go_sem]
  have b3 : W1.cell? ⟨w.heap.size + 1, 3, none⟩ = some (.bool du) := by rw [← hW1]; simp [go_sem]
  rw [hW1]
  clear hW1
  cases cu <;> cases du
  all_goals
    go_wp2_with (first | (go_at_call 29; (with_reducible refine (HRC.out _).mono ?_); rintro e w2 ⟨rfl, hb⟩; replace a0 := keep_cell hb a0; replace a1 := keep_cell hb a1; replace a2 := keep_cell hb a2; replace a3 := keep_cell hb a3; replace b0 := keep_cell hb b0; replace b1 := keep_cell hb b1; replace b2 := keep_cell hb b2; replace b3 := keep_cell hb b3; replace hB := held_trans hB hb; clear hb) | (go_at_call 29; (with_reducible refine (HRD.out _).mono ?_); rintro e w2 ⟨rfl, hb⟩; replace a0 := keep_cell hb a0; replace a1 := keep_cell hb a1; replace a2 := keep_cell hb a2; replace a3 := keep_cell hb a3; replace b0 := keep_cell hb b0; replace b1 := keep_cell hb b1; replace b2 := keep_cell hb b2; replace b3 := keep_cell hb b3; replace hB := held_trans hB hb; clear hb))
    go_quiet (fail)
    have hb : Below w2.heap.size w2 (w2.drewN nq) := ⟨rfl, rfl, rfl, Nat.le_refl _, fun _ _ => rfl⟩
    replace a0 := keep_cell hb a0; replace a1 := keep_cell hb a1; replace a2 := keep_cell hb a2; replace a3 := keep_cell hb a3; replace b0 := keep_cell hb b0; replace b1 := keep_cell hb b1; replace b2 := keep_cell hb b2; replace b3 := keep_cell hb b3; replace hB := held_trans hB hb; clear hb
    go_wp2_with (first | (go_at_call 16; refine (r6Way_any _ _ _).mono ?_; rintro e w2 ⟨rfl, rfl⟩))
    go_ret2
    exact ⟨by first | rfl | simp, hB⟩
set_option maxRecDepth 100000 in
set_option maxHeartbeats 4000000 in
theorem r6Sure_ok34 (cn : ByteArray) (cz : Int) (cu : Bool) (dn : ByteArray) (dz : Int) (du : Bool) (w : World) (n1 : cn.size ≤ 9223372036854775807) (n2 : dn.size ≤ 9223372036854775807) (h1 : colOk ⟨cn, 3, cz, cu⟩ = true) (h2 : colOk ⟨dn, 4, dz, du⟩ = true) :
    Calls Tryz.prog 14 #[.agg #[.string cn, .int .i64 3, .int .i64 cz, .bool cu], .agg #[.string dn, .int .i64 4, .int .i64 dz, .bool du]] w fun e w' => e = .returned (.tuple #[.bool (false), .int .i64 0]) ∧ Below w.heap.size w w' := by
  have HRC : Hid (∀ W, Calls Tryz.prog 29 #[.agg #[.string cn, .int .i64 3, .int .i64 cz, .bool cu]] W fun e w' => e = .returned (.bool true) ∧ Below W.heap.size W w') := Lib.hid (fun W => by have h := r6right_any ⟨cn, 3, cz, cu⟩ W n1; rw [h1] at h; exact h)
  have HRD : Hid (∀ W, Calls Tryz.prog 29 #[.agg #[.string dn, .int .i64 4, .int .i64 dz, .bool du]] W fun e w' => e = .returned (.bool true) ∧ Below W.heap.size W w') := Lib.hid (fun W => by have h := r6right_any ⟨dn, 4, dz, du⟩ W n2; rw [h2] at h; exact h)
  clear h1 h2 n1 n2
  have hwy : wayR 3 4 = false := by decide
  go_enter Tryz.func14, Tryz.ntmps14
  go_upto_region 1 with fail
  obtain ⟨W1, hW1⟩ : ∃ W1, (w.alloc (.cells #[.string cn, .int .i64 3, .int .i64 cz, .bool cu] 24)).alloc (.cells #[.string dn, .int .i64 4, .int .i64 dz, .bool du] 24) = W1 := ⟨_, rfl⟩
  have hB : Below w.heap.size w W1 := by rw [← hW1]; exact ((Below.refl _ _).alloc (Nat.le_refl _) _).alloc (by simp) _
  have a0 : W1.cell? ⟨w.heap.size, 0, none⟩ = some (.string cn) := by rw [← hW1]; simp [go_sem]
  have a1 : W1.cell? ⟨w.heap.size, 1, none⟩ = some (.int .i64 3) := by rw [← hW1]; simp [go_sem]
  have a2 : W1.cell? ⟨w.heap.size, 2, none⟩ = some (.int .i64 cz) := by rw [← hW1]; simp [go_sem]
  have a3 : W1.cell? ⟨w.heap.size, 3, none⟩ = some (.bool cu) := by rw [← hW1]; simp [go_sem]
  have b0 : W1.cell? ⟨w.heap.size + 1, 0, none⟩ = some (.string dn) := by rw [← hW1]; simp [go_sem]
  have b1 : W1.cell? ⟨w.heap.size + 1, 1, none⟩ = some (.int .i64 4) := by rw [← hW1]; simp [go_sem]
  have b2 : W1.cell? ⟨w.heap.size + 1, 2, none⟩ = some (.int .i64 dz) := by rw [← hW1]; simp [go_sem]
  have b3 : W1.cell? ⟨w.heap.size + 1, 3, none⟩ = some (.bool du) := by rw [← hW1]; simp [go_sem]
  rw [hW1]
  clear hW1
  cases cu <;> cases du
  all_goals
    go_wp2_with (first | (go_at_call 29; (with_reducible refine (HRC.out _).mono ?_); rintro e w2 ⟨rfl, hb⟩; replace a0 := keep_cell hb a0; replace a1 := keep_cell hb a1; replace a2 := keep_cell hb a2; replace a3 := keep_cell hb a3; replace b0 := keep_cell hb b0; replace b1 := keep_cell hb b1; replace b2 := keep_cell hb b2; replace b3 := keep_cell hb b3; replace hB := held_trans hB hb; clear hb) | (go_at_call 29; (with_reducible refine (HRD.out _).mono ?_); rintro e w2 ⟨rfl, hb⟩; replace a0 := keep_cell hb a0; replace a1 := keep_cell hb a1; replace a2 := keep_cell hb a2; replace a3 := keep_cell hb a3; replace b0 := keep_cell hb b0; replace b1 := keep_cell hb b1; replace b2 := keep_cell hb b2; replace b3 := keep_cell hb b3; replace hB := held_trans hB hb; clear hb))
    go_quiet (fail)
    have hb : Below w2.heap.size w2 (w2.drewN nq) := ⟨rfl, rfl, rfl, Nat.le_refl _, fun _ _ => rfl⟩
    replace a0 := keep_cell hb a0; replace a1 := keep_cell hb a1; replace a2 := keep_cell hb a2; replace a3 := keep_cell hb a3; replace b0 := keep_cell hb b0; replace b1 := keep_cell hb b1; replace b2 := keep_cell hb b2; replace b3 := keep_cell hb b3; replace hB := held_trans hB hb; clear hb
    go_wp2_with (first | (go_at_call 16; refine (r6Way_any _ _ _).mono ?_; rintro e w2 ⟨rfl, rfl⟩))
    go_ret2
    exact ⟨by first | rfl | simp, hB⟩
set_option maxRecDepth 100000 in
set_option maxHeartbeats 4000000 in
theorem r6Sure_ok41 (cn : ByteArray) (cz : Int) (cu : Bool) (dn : ByteArray) (dz : Int) (du : Bool) (w : World) (n1 : cn.size ≤ 9223372036854775807) (n2 : dn.size ≤ 9223372036854775807) (h1 : colOk ⟨cn, 4, cz, cu⟩ = true) (h2 : colOk ⟨dn, 1, dz, du⟩ = true) :
    Calls Tryz.prog 14 #[.agg #[.string cn, .int .i64 4, .int .i64 cz, .bool cu], .agg #[.string dn, .int .i64 1, .int .i64 dz, .bool du]] w fun e w' => e = .returned (.tuple #[.bool (false), .int .i64 0]) ∧ Below w.heap.size w w' := by
  have HRC : Hid (∀ W, Calls Tryz.prog 29 #[.agg #[.string cn, .int .i64 4, .int .i64 cz, .bool cu]] W fun e w' => e = .returned (.bool true) ∧ Below W.heap.size W w') := Lib.hid (fun W => by have h := r6right_any ⟨cn, 4, cz, cu⟩ W n1; rw [h1] at h; exact h)
  have HRD : Hid (∀ W, Calls Tryz.prog 29 #[.agg #[.string dn, .int .i64 1, .int .i64 dz, .bool du]] W fun e w' => e = .returned (.bool true) ∧ Below W.heap.size W w') := Lib.hid (fun W => by have h := r6right_any ⟨dn, 1, dz, du⟩ W n2; rw [h2] at h; exact h)
  clear h1 h2 n1 n2
  have hwy : wayR 4 1 = true := by decide
  go_enter Tryz.func14, Tryz.ntmps14
  go_upto_region 1 with fail
  obtain ⟨W1, hW1⟩ : ∃ W1, (w.alloc (.cells #[.string cn, .int .i64 4, .int .i64 cz, .bool cu] 24)).alloc (.cells #[.string dn, .int .i64 1, .int .i64 dz, .bool du] 24) = W1 := ⟨_, rfl⟩
  have hB : Below w.heap.size w W1 := by rw [← hW1]; exact ((Below.refl _ _).alloc (Nat.le_refl _) _).alloc (by simp) _
  have a0 : W1.cell? ⟨w.heap.size, 0, none⟩ = some (.string cn) := by rw [← hW1]; simp [go_sem]
  have a1 : W1.cell? ⟨w.heap.size, 1, none⟩ = some (.int .i64 4) := by rw [← hW1]; simp [go_sem]
  have a2 : W1.cell? ⟨w.heap.size, 2, none⟩ = some (.int .i64 cz) := by rw [← hW1]; simp [go_sem]
  have a3 : W1.cell? ⟨w.heap.size, 3, none⟩ = some (.bool cu) := by rw [← hW1]; simp [go_sem]
  have b0 : W1.cell? ⟨w.heap.size + 1, 0, none⟩ = some (.string dn) := by rw [← hW1]; simp [go_sem]
  have b1 : W1.cell? ⟨w.heap.size + 1, 1, none⟩ = some (.int .i64 1) := by rw [← hW1]; simp [go_sem]
  have b2 : W1.cell? ⟨w.heap.size + 1, 2, none⟩ = some (.int .i64 dz) := by rw [← hW1]; simp [go_sem]
  have b3 : W1.cell? ⟨w.heap.size + 1, 3, none⟩ = some (.bool du) := by rw [← hW1]; simp [go_sem]
  rw [hW1]
  clear hW1
  cases cu <;> cases du
  all_goals
    go_wp2_with (first | (go_at_call 29; (with_reducible refine (HRC.out _).mono ?_); rintro e w2 ⟨rfl, hb⟩; replace a0 := keep_cell hb a0; replace a1 := keep_cell hb a1; replace a2 := keep_cell hb a2; replace a3 := keep_cell hb a3; replace b0 := keep_cell hb b0; replace b1 := keep_cell hb b1; replace b2 := keep_cell hb b2; replace b3 := keep_cell hb b3; replace hB := held_trans hB hb; clear hb) | (go_at_call 29; (with_reducible refine (HRD.out _).mono ?_); rintro e w2 ⟨rfl, hb⟩; replace a0 := keep_cell hb a0; replace a1 := keep_cell hb a1; replace a2 := keep_cell hb a2; replace a3 := keep_cell hb a3; replace b0 := keep_cell hb b0; replace b1 := keep_cell hb b1; replace b2 := keep_cell hb b2; replace b3 := keep_cell hb b3; replace hB := held_trans hB hb; clear hb))
    go_quiet (fail)
    have hb : Below w2.heap.size w2 (w2.drewN nq) := ⟨rfl, rfl, rfl, Nat.le_refl _, fun _ _ => rfl⟩
    replace a0 := keep_cell hb a0; replace a1 := keep_cell hb a1; replace a2 := keep_cell hb a2; replace a3 := keep_cell hb a3; replace b0 := keep_cell hb b0; replace b1 := keep_cell hb b1; replace b2 := keep_cell hb b2; replace b3 := keep_cell hb b3; replace hB := held_trans hB hb; clear hb
    go_wp2_with (first | (go_at_call 16; refine (r6Way_any _ _ _).mono ?_; rintro e w2 ⟨rfl, rfl⟩))
    go_ret2
    exact ⟨by first | rfl | simp, hB⟩
set_option maxRecDepth 100000 in
set_option maxHeartbeats 4000000 in
theorem r6Sure_ok42 (cn : ByteArray) (cz : Int) (cu : Bool) (dn : ByteArray) (dz : Int) (du : Bool) (w : World) (n1 : cn.size ≤ 9223372036854775807) (n2 : dn.size ≤ 9223372036854775807) (h1 : colOk ⟨cn, 4, cz, cu⟩ = true) (h2 : colOk ⟨dn, 2, dz, du⟩ = true) :
    Calls Tryz.prog 14 #[.agg #[.string cn, .int .i64 4, .int .i64 cz, .bool cu], .agg #[.string dn, .int .i64 2, .int .i64 dz, .bool du]] w fun e w' => e = .returned (.tuple #[.bool (false), .int .i64 0]) ∧ Below w.heap.size w w' := by
  have HRC : Hid (∀ W, Calls Tryz.prog 29 #[.agg #[.string cn, .int .i64 4, .int .i64 cz, .bool cu]] W fun e w' => e = .returned (.bool true) ∧ Below W.heap.size W w') := Lib.hid (fun W => by have h := r6right_any ⟨cn, 4, cz, cu⟩ W n1; rw [h1] at h; exact h)
  have HRD : Hid (∀ W, Calls Tryz.prog 29 #[.agg #[.string dn, .int .i64 2, .int .i64 dz, .bool du]] W fun e w' => e = .returned (.bool true) ∧ Below W.heap.size W w') := Lib.hid (fun W => by have h := r6right_any ⟨dn, 2, dz, du⟩ W n2; rw [h2] at h; exact h)
  clear h1 h2 n1 n2
  have hwy : wayR 4 2 = true := by decide
  go_enter Tryz.func14, Tryz.ntmps14
  go_upto_region 1 with fail
  obtain ⟨W1, hW1⟩ : ∃ W1, (w.alloc (.cells #[.string cn, .int .i64 4, .int .i64 cz, .bool cu] 24)).alloc (.cells #[.string dn, .int .i64 2, .int .i64 dz, .bool du] 24) = W1 := ⟨_, rfl⟩
  have hB : Below w.heap.size w W1 := by rw [← hW1]; exact ((Below.refl _ _).alloc (Nat.le_refl _) _).alloc (by simp) _
  have a0 : W1.cell? ⟨w.heap.size, 0, none⟩ = some (.string cn) := by rw [← hW1]; simp [go_sem]
  have a1 : W1.cell? ⟨w.heap.size, 1, none⟩ = some (.int .i64 4) := by rw [← hW1]; simp [go_sem]
  have a2 : W1.cell? ⟨w.heap.size, 2, none⟩ = some (.int .i64 cz) := by rw [← hW1]; simp [go_sem]
  have a3 : W1.cell? ⟨w.heap.size, 3, none⟩ = some (.bool cu) := by rw [← hW1]; simp [go_sem]
  have b0 : W1.cell? ⟨w.heap.size + 1, 0, none⟩ = some (.string dn) := by rw [← hW1]; simp [go_sem]
  have b1 : W1.cell? ⟨w.heap.size + 1, 1, none⟩ = some (.int .i64 2) := by rw [← hW1]; simp [go_sem]
  have b2 : W1.cell? ⟨w.heap.size + 1, 2, none⟩ = some (.int .i64 dz) := by rw [← hW1]; simp [go_sem]
  have b3 : W1.cell? ⟨w.heap.size + 1, 3, none⟩ = some (.bool du) := by rw [← hW1]; simp [go_sem]
  rw [hW1]
  clear hW1
  cases cu <;> cases du
  all_goals
    go_wp2_with (first | (go_at_call 29; (with_reducible refine (HRC.out _).mono ?_); rintro e w2 ⟨rfl, hb⟩; replace a0 := keep_cell hb a0; replace a1 := keep_cell hb a1; replace a2 := keep_cell hb a2; replace a3 := keep_cell hb a3; replace b0 := keep_cell hb b0; replace b1 := keep_cell hb b1; replace b2 := keep_cell hb b2; replace b3 := keep_cell hb b3; replace hB := held_trans hB hb; clear hb) | (go_at_call 29; (with_reducible refine (HRD.out _).mono ?_); rintro e w2 ⟨rfl, hb⟩; replace a0 := keep_cell hb a0; replace a1 := keep_cell hb a1; replace a2 := keep_cell hb a2; replace a3 := keep_cell hb a3; replace b0 := keep_cell hb b0; replace b1 := keep_cell hb b1; replace b2 := keep_cell hb b2; replace b3 := keep_cell hb b3; replace hB := held_trans hB hb; clear hb))
    go_quiet (fail)
    have hb : Below w2.heap.size w2 (w2.drewN nq) := ⟨rfl, rfl, rfl, Nat.le_refl _, fun _ _ => rfl⟩
    replace a0 := keep_cell hb a0; replace a1 := keep_cell hb a1; replace a2 := keep_cell hb a2; replace a3 := keep_cell hb a3; replace b0 := keep_cell hb b0; replace b1 := keep_cell hb b1; replace b2 := keep_cell hb b2; replace b3 := keep_cell hb b3; replace hB := held_trans hB hb; clear hb
    go_wp2_with (first | (go_at_call 16; refine (r6Way_any _ _ _).mono ?_; rintro e w2 ⟨rfl, rfl⟩))
    go_ret2
    exact ⟨by first | rfl | simp, hB⟩
set_option maxRecDepth 100000 in
set_option maxHeartbeats 4000000 in
theorem r6Sure_ok43 (cn : ByteArray) (cz : Int) (cu : Bool) (dn : ByteArray) (dz : Int) (du : Bool) (w : World) (n1 : cn.size ≤ 9223372036854775807) (n2 : dn.size ≤ 9223372036854775807) (h1 : colOk ⟨cn, 4, cz, cu⟩ = true) (h2 : colOk ⟨dn, 3, dz, du⟩ = true) :
    Calls Tryz.prog 14 #[.agg #[.string cn, .int .i64 4, .int .i64 cz, .bool cu], .agg #[.string dn, .int .i64 3, .int .i64 dz, .bool du]] w fun e w' => e = .returned (.tuple #[.bool (false), .int .i64 0]) ∧ Below w.heap.size w w' := by
  have HRC : Hid (∀ W, Calls Tryz.prog 29 #[.agg #[.string cn, .int .i64 4, .int .i64 cz, .bool cu]] W fun e w' => e = .returned (.bool true) ∧ Below W.heap.size W w') := Lib.hid (fun W => by have h := r6right_any ⟨cn, 4, cz, cu⟩ W n1; rw [h1] at h; exact h)
  have HRD : Hid (∀ W, Calls Tryz.prog 29 #[.agg #[.string dn, .int .i64 3, .int .i64 dz, .bool du]] W fun e w' => e = .returned (.bool true) ∧ Below W.heap.size W w') := Lib.hid (fun W => by have h := r6right_any ⟨dn, 3, dz, du⟩ W n2; rw [h2] at h; exact h)
  clear h1 h2 n1 n2
  have hwy : wayR 4 3 = false := by decide
  go_enter Tryz.func14, Tryz.ntmps14
  go_upto_region 1 with fail
  obtain ⟨W1, hW1⟩ : ∃ W1, (w.alloc (.cells #[.string cn, .int .i64 4, .int .i64 cz, .bool cu] 24)).alloc (.cells #[.string dn, .int .i64 3, .int .i64 dz, .bool du] 24) = W1 := ⟨_, rfl⟩
  have hB : Below w.heap.size w W1 := by rw [← hW1]; exact ((Below.refl _ _).alloc (Nat.le_refl _) _).alloc (by simp) _
  have a0 : W1.cell? ⟨w.heap.size, 0, none⟩ = some (.string cn) := by rw [← hW1]; simp [go_sem]
  have a1 : W1.cell? ⟨w.heap.size, 1, none⟩ = some (.int .i64 4) := by rw [← hW1]; simp [go_sem]
  have a2 : W1.cell? ⟨w.heap.size, 2, none⟩ = some (.int .i64 cz) := by rw [← hW1]; simp [go_sem]
  have a3 : W1.cell? ⟨w.heap.size, 3, none⟩ = some (.bool cu) := by rw [← hW1]; simp [go_sem]
  have b0 : W1.cell? ⟨w.heap.size + 1, 0, none⟩ = some (.string dn) := by rw [← hW1]; simp [go_sem]
  have b1 : W1.cell? ⟨w.heap.size + 1, 1, none⟩ = some (.int .i64 3) := by rw [← hW1]; simp [go_sem]
  have b2 : W1.cell? ⟨w.heap.size + 1, 2, none⟩ = some (.int .i64 dz) := by rw [← hW1]; simp [go_sem]
  have b3 : W1.cell? ⟨w.heap.size + 1, 3, none⟩ = some (.bool du) := by rw [← hW1]; simp [go_sem]
  rw [hW1]
  clear hW1
  cases cu <;> cases du
  all_goals
    go_wp2_with (first | (go_at_call 29; (with_reducible refine (HRC.out _).mono ?_); rintro e w2 ⟨rfl, hb⟩; replace a0 := keep_cell hb a0; replace a1 := keep_cell hb a1; replace a2 := keep_cell hb a2; replace a3 := keep_cell hb a3; replace b0 := keep_cell hb b0; replace b1 := keep_cell hb b1; replace b2 := keep_cell hb b2; replace b3 := keep_cell hb b3; replace hB := held_trans hB hb; clear hb) | (go_at_call 29; (with_reducible refine (HRD.out _).mono ?_); rintro e w2 ⟨rfl, hb⟩; replace a0 := keep_cell hb a0; replace a1 := keep_cell hb a1; replace a2 := keep_cell hb a2; replace a3 := keep_cell hb a3; replace b0 := keep_cell hb b0; replace b1 := keep_cell hb b1; replace b2 := keep_cell hb b2; replace b3 := keep_cell hb b3; replace hB := held_trans hB hb; clear hb))
    go_quiet (fail)
    have hb : Below w2.heap.size w2 (w2.drewN nq) := ⟨rfl, rfl, rfl, Nat.le_refl _, fun _ _ => rfl⟩
    replace a0 := keep_cell hb a0; replace a1 := keep_cell hb a1; replace a2 := keep_cell hb a2; replace a3 := keep_cell hb a3; replace b0 := keep_cell hb b0; replace b1 := keep_cell hb b1; replace b2 := keep_cell hb b2; replace b3 := keep_cell hb b3; replace hB := held_trans hB hb; clear hb
    go_wp2_with (first | (go_at_call 16; refine (r6Way_any _ _ _).mono ?_; rintro e w2 ⟨rfl, rfl⟩))
    go_ret2
    exact ⟨by first | rfl | simp, hB⟩
set_option maxRecDepth 100000 in
set_option maxHeartbeats 4000000 in
theorem r6Sure_ok44 (cn : ByteArray) (cz : Int) (cu : Bool) (dn : ByteArray) (dz : Int) (du : Bool) (w : World) (n1 : cn.size ≤ 9223372036854775807) (n2 : dn.size ≤ 9223372036854775807) (h1 : colOk ⟨cn, 4, cz, cu⟩ = true) (h2 : colOk ⟨dn, 4, dz, du⟩ = true) :
    Calls Tryz.prog 14 #[.agg #[.string cn, .int .i64 4, .int .i64 cz, .bool cu], .agg #[.string dn, .int .i64 4, .int .i64 dz, .bool du]] w fun e w' => e = .returned (.tuple #[.bool ((du || !cu) && decide (cz ≤ dz)), .int .i64 0]) ∧ Below w.heap.size w w' := by
  have HRC : Hid (∀ W, Calls Tryz.prog 29 #[.agg #[.string cn, .int .i64 4, .int .i64 cz, .bool cu]] W fun e w' => e = .returned (.bool true) ∧ Below W.heap.size W w') := Lib.hid (fun W => by have h := r6right_any ⟨cn, 4, cz, cu⟩ W n1; rw [h1] at h; exact h)
  have HRD : Hid (∀ W, Calls Tryz.prog 29 #[.agg #[.string dn, .int .i64 4, .int .i64 dz, .bool du]] W fun e w' => e = .returned (.bool true) ∧ Below W.heap.size W w') := Lib.hid (fun W => by have h := r6right_any ⟨dn, 4, dz, du⟩ W n2; rw [h2] at h; exact h)
  clear h1 h2 n1 n2
  have hwy : wayR 4 4 = true := by decide
  go_enter Tryz.func14, Tryz.ntmps14
  go_upto_region 1 with fail
  obtain ⟨W1, hW1⟩ : ∃ W1, (w.alloc (.cells #[.string cn, .int .i64 4, .int .i64 cz, .bool cu] 24)).alloc (.cells #[.string dn, .int .i64 4, .int .i64 dz, .bool du] 24) = W1 := ⟨_, rfl⟩
  have hB : Below w.heap.size w W1 := by rw [← hW1]; exact ((Below.refl _ _).alloc (Nat.le_refl _) _).alloc (by simp) _
  have a0 : W1.cell? ⟨w.heap.size, 0, none⟩ = some (.string cn) := by rw [← hW1]; simp [go_sem]
  have a1 : W1.cell? ⟨w.heap.size, 1, none⟩ = some (.int .i64 4) := by rw [← hW1]; simp [go_sem]
  have a2 : W1.cell? ⟨w.heap.size, 2, none⟩ = some (.int .i64 cz) := by rw [← hW1]; simp [go_sem]
  have a3 : W1.cell? ⟨w.heap.size, 3, none⟩ = some (.bool cu) := by rw [← hW1]; simp [go_sem]
  have b0 : W1.cell? ⟨w.heap.size + 1, 0, none⟩ = some (.string dn) := by rw [← hW1]; simp [go_sem]
  have b1 : W1.cell? ⟨w.heap.size + 1, 1, none⟩ = some (.int .i64 4) := by rw [← hW1]; simp [go_sem]
  have b2 : W1.cell? ⟨w.heap.size + 1, 2, none⟩ = some (.int .i64 dz) := by rw [← hW1]; simp [go_sem]
  have b3 : W1.cell? ⟨w.heap.size + 1, 3, none⟩ = some (.bool du) := by rw [← hW1]; simp [go_sem]
  rw [hW1]
  clear hW1
  cases cu <;> cases du
  all_goals
    go_wp2_with (first | (go_at_call 29; (with_reducible refine (HRC.out _).mono ?_); rintro e w2 ⟨rfl, hb⟩; replace a0 := keep_cell hb a0; replace a1 := keep_cell hb a1; replace a2 := keep_cell hb a2; replace a3 := keep_cell hb a3; replace b0 := keep_cell hb b0; replace b1 := keep_cell hb b1; replace b2 := keep_cell hb b2; replace b3 := keep_cell hb b3; replace hB := held_trans hB hb; clear hb) | (go_at_call 29; (with_reducible refine (HRD.out _).mono ?_); rintro e w2 ⟨rfl, hb⟩; replace a0 := keep_cell hb a0; replace a1 := keep_cell hb a1; replace a2 := keep_cell hb a2; replace a3 := keep_cell hb a3; replace b0 := keep_cell hb b0; replace b1 := keep_cell hb b1; replace b2 := keep_cell hb b2; replace b3 := keep_cell hb b3; replace hB := held_trans hB hb; clear hb))
    go_quiet (fail)
    have hb : Below w2.heap.size w2 (w2.drewN nq) := ⟨rfl, rfl, rfl, Nat.le_refl _, fun _ _ => rfl⟩
    replace a0 := keep_cell hb a0; replace a1 := keep_cell hb a1; replace a2 := keep_cell hb a2; replace a3 := keep_cell hb a3; replace b0 := keep_cell hb b0; replace b1 := keep_cell hb b1; replace b2 := keep_cell hb b2; replace b3 := keep_cell hb b3; replace hB := held_trans hB hb; clear hb
    go_wp2_with (first | (go_at_call 16; refine (r6Way_any _ _ _).mono ?_; rintro e w2 ⟨rfl, rfl⟩))
    go_ret2
    exact ⟨by first | rfl | simp, hB⟩
end Go.Proofs.YtmgeefhacnadcaaGreatDoor
namespace Go.Proofs.YtmgeefhacnadcaaGreatDoor
open Go.RowKit

theorem r6Sure_any (c d : Col) (w : World) (n1 : c.n.size ≤ 9223372036854775807) (n2 : d.n.size ≤ 9223372036854775807) :
    Calls Tryz.prog 14 #[.agg #[.string c.n, .int .i64 c.t, .int .i64 c.z, .bool c.u], .agg #[.string d.n, .int .i64 d.t, .int .i64 d.z, .bool d.u]] w fun e w' => e = .returned (.tuple #[.bool (sureO c d).2, .int .i64 (sureO c d).1]) ∧ Below w.heap.size w w' := by
  obtain ⟨cn, ct, cz, cu⟩ := c
  obtain ⟨dn, dt, dz, du⟩ := d
  unfold sureO
  cases h1 : colOk ⟨cn, ct, cz, cu⟩
  · rw [if_pos (.inl rfl)]
    exact r6Sure_bad1 cn ct cz cu dn dt dz du w n1 h1
  cases h2 : colOk ⟨dn, dt, dz, du⟩
  · rw [if_pos (.inr rfl)]
    exact r6Sure_bad2 cn ct cz cu dn dt dz du w n1 n2 h1 h2
  rw [if_neg (by simp)]
  have ha : ct = 1 ∨ ct = 2 ∨ ct = 3 ∨ ct = 4 := col_types h1
  have hb : dt = 1 ∨ dt = 2 ∨ dt = 3 ∨ dt = 4 := col_types h2
  have hz := col_num h1
  dsimp only at hz ⊢
  have hf : ((du || !cu) && false) = false := by simp
  rcases ha with rfl | rfl | rfl | rfl <;> rcases hb with rfl | rfl | rfl | rfl
  · exact r6Sure_ok11 cn cz cu dn dz du w n1 n2 h1 h2
  · exact hf.symm ▸ r6Sure_ok12 cn cz cu dn dz du w n1 n2 h1 h2
  · exact hf.symm ▸ r6Sure_ok13 cn cz cu dn dz du w n1 n2 h1 h2
  · exact r6Sure_ok14 cn cz cu dn dz du w n1 n2 h1 h2 (hz (.inl rfl))
  · exact r6Sure_ok21 cn cz cu dn dz du w n1 n2 h1 h2
  · exact r6Sure_ok22 cn cz cu dn dz du w n1 n2 h1 h2
  · exact hf.symm ▸ r6Sure_ok23 cn cz cu dn dz du w n1 n2 h1 h2
  · exact r6Sure_ok24 cn cz cu dn dz du w n1 n2 h1 h2 (hz (.inr rfl))
  · exact r6Sure_ok31 cn cz cu dn dz du w n1 n2 h1 h2
  · exact r6Sure_ok32 cn cz cu dn dz du w n1 n2 h1 h2
  · exact r6Sure_ok33 cn cz cu dn dz du w n1 n2 h1 h2
  · exact r6Sure_ok34 cn cz cu dn dz du w n1 n2 h1 h2
  · exact hf.symm ▸ r6Sure_ok41 cn cz cu dn dz du w n1 n2 h1 h2
  · exact hf.symm ▸ r6Sure_ok42 cn cz cu dn dz du w n1 n2 h1 h2
  · exact r6Sure_ok43 cn cz cu dn dz du w n1 n2 h1 h2
  · exact r6Sure_ok44 cn cz cu dn dz du w n1 n2 h1 h2
end Go.Proofs.YtmgeefhacnadcaaGreatDoor
