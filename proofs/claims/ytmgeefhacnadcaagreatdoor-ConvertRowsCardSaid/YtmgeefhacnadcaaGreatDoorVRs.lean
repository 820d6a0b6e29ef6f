/-
  swingbridgeref06.Way, right, digits, Sure.
-/
import Derived.Test.YtmgeefhacnadcaaGreatDoorVConv
import Derived.Test.YtmgeefhacnadcaaGreatDoorSSch
namespace Go.Proofs.YtmgeefhacnadcaaGreatDoor
open Go.RowKit

/-- is there a way? -/
def wayR (a b : Int) : Bool := decide ((1 ≤ a ∧ a ≤ 4) ∧ (1 ≤ b ∧ b ≤ 4)) && wayB a b
theorem wayR_out {a b : Int} (h : ¬ ((1 ≤ a ∧ a ≤ 4) ∧ (1 ≤ b ∧ b ≤ 4))) : wayR a b = false := by unfold wayR; rw [decide_eq_false h]; rfl
theorem four_cases {a : Int} (h : 1 ≤ a ∧ a ≤ 4) : a = 1 ∨ a = 2 ∨ a = 3 ∨ a = 4 := by omega
set_option maxRecDepth 100000 in
set_option maxHeartbeats 4000000 in
theorem r6Way_any (a b : Int) (w : World) : Calls Tryz.prog 16 #[.int .i64 a, .int .i64 b] w fun e w' => e = .returned (.bool (wayR a b)) ∧ w = w' := by
  by_cases h1 : a < 1
  · have e1 : decide (a < 1) = true := decide_eq_true h1
    have HR := Lib.hid (wayR_out (a := a) (b := b) (by omega))
    go_enter Tryz.func16, Tryz.ntmps16
    go_wp2
    go_ret
    exact ⟨by rw [HR.out]; rfl, rfl⟩
  have e1 : decide (a < 1) = false := decide_eq_false h1
  by_cases h2 : 4 < a
  · have e2 : decide (4 < a) = true := decide_eq_true h2
    have HR := Lib.hid (wayR_out (a := a) (b := b) (by omega))
    go_enter Tryz.func16, Tryz.ntmps16
    go_wp2
    go_ret
    exact ⟨by rw [HR.out]; rfl, rfl⟩
  have e2 : decide (4 < a) = false := decide_eq_false h2
  by_cases h3 : b < 1
  · have e3 : decide (b < 1) = true := decide_eq_true h3
    have HR := Lib.hid (wayR_out (a := a) (b := b) (by omega))
    go_enter Tryz.func16, Tryz.ntmps16
    go_wp2
    go_ret
    exact ⟨by rw [HR.out]; rfl, rfl⟩
  have e3 : decide (b < 1) = false := decide_eq_false h3
  by_cases h4 : 4 < b
  · have e4 : decide (4 < b) = true := decide_eq_true h4
    have HR := Lib.hid (wayR_out (a := a) (b := b) (by omega))
    go_enter Tryz.func16, Tryz.ntmps16
    go_wp2
    go_ret
    exact ⟨by rw [HR.out]; rfl, rfl⟩
  have ha := four_cases (a := a) (by omega)
  have hb := four_cases (a := b) (by omega)
  clear h1 h2 h3 h4 e1 e2 e3
  rcases ha with rfl | rfl | rfl | rfl <;> rcases hb with rfl | rfl | rfl | rfl
  all_goals
    go_enter Tryz.func16, Tryz.ntmps16
    go_wp2
    go_ret
    exact ⟨rfl, rfl⟩
set_option maxRecDepth 100000 in
set_option maxHeartbeats 4000000 in
theorem xWay_any (a b : Int) (w : World) : Calls Tryz.prog 15 #[.int .i64 a, .int .i64 b] w fun e w' => e = .returned (.bool (wayR a b)) ∧ Below w.heap.size w w' := by
  go_enter Tryz.func15, Tryz.ntmps15
  go_wp2_with fail
  refine (known_any _).mono ?_
  rintro e w3 ⟨rfl, ⟨es, cl, hm, hw⟩, hb3⟩
  by_cases h : wayR a b = true
  · have HR := Lib.hid h
    have h' : (decide ((1 ≤ a ∧ a ≤ 4) ∧ (1 ≤ b ∧ b ≤ 4)) && wayB a b) = true := h
    simp only [Bool.and_eq_true, decide_eq_true_eq] at h'
    obtain ⟨f, g, hx⟩ := ways_in (four_cases h'.1.1) (four_cases h'.1.2) h'.2
    have hl := ways_found hx hm hw
    have HB := Lib.hid hb3
    clear h h' hx hm hw hb3
    go_wp2_with fail
    go_ret
    exact ⟨by rw [HR.out]; rfl, HB.out.alloc HB.out.size _⟩
  · have HR := Lib.hid (show wayR a b = false by simpa using h)
    have hx : ∀ x ∈ waysL, ¬ (a = x.1 ∧ b = x.2.1) := by
      intro x hx hab
      apply h
      have key : ∀ x ∈ waysL, wayR x.1 x.2.1 = true := by decide +kernel
      have := key x hx
      rw [← hab.1, ← hab.2] at this
      exact this
    have hl := ways_none hx hm hw
    have HB := Lib.hid hb3
    clear h hx hm hw hb3
    go_wp2_with fail
    go_ret
    exact ⟨by rw [HR.out]; rfl, HB.out.alloc HB.out.size _⟩
end Go.Proofs.YtmgeefhacnadcaaGreatDoor
namespace Go.Proofs.YtmgeefhacnadcaaGreatDoor
open Go.RowKit

theorem schOk2 (c d : Col) (hd : colOk d = true) (hu : d.u = false) : schOk ⟨[c, d], [1], []⟩ = (colOk c && !isN d.n c) := by
  have e1 : colsTo [c, d] 2 = (colOk c && !isN d.n c) := by
    rw [colsTo_succ [c, d] 1 d (by simp) rfl, colsTo_succ [c, d] 0 c (by simp) rfl, hd]
    have f1 : firstC [c, d] c.n = 0 := by simp [firstC, firstFrom, isN]
    rw [f1]
    cases h : isN d.n c
    · have f2 : firstC [c, d] d.n = 1 := by simp [firstC, firstFrom, isN] at h ⊢; simp [h]
      rw [f2]
      simp [colsTo]
    · have f2 : firstC [c, d] d.n = 0 := by simp [firstC, firstFrom, isN] at h ⊢; simp [h]
      rw [f2]
      simp [colsTo]
  unfold schOk
  show (_ && (colsTo [c, d] 2 && _)) = _
  rw [e1]
  have e2 : setsTo ⟨[c, d], [1], []⟩ (1 + 0) = true := by
    have e3 : loopTo [c, d] true [1] 1 = true := by
      show (!(true && d.u) && !dupB [1] 0 && true) = true
      rw [hu]
      decide
    show ((((decide (1 ≤ 1)) && (decide (1 ≤ 4))) && (inAll 2 [1] && loopTo [c, d] true [1] 1)) && true) = true
    rw [e3]
    rfl
  show ((decide (1 ≤ 2) && (decide (2 ≤ 8) && decide (0 ≤ 3))) && ((colOk c && !isN d.n c) && setsTo ⟨[c, d], [1], []⟩ (1 + 0))) = _
  rw [e2]
  simp
/-- the name that the second column bears, and the other one -/
def zN : ByteArray := ⟨#[122, 122, 122, 122, 122, 122, 122, 122, 122, 122, 122, 122, 122, 122, 122, 122, 122, 122, 122, 122, 122, 122, 122, 122]⟩
theorem zN_list : zN.toList = [122, 122, 122, 122, 122, 122, 122, 122, 122, 122, 122, 122, 122, 122, 122, 122, 122, 122, 122, 122, 122, 122, 122, 122] := by
  rw [ByteArray.toList_eq]
  rfl
theorem right_is (c : Col) : (schOk ⟨[c, ⟨zN, 3, 0, false⟩], [1], []⟩ || (isN zN c && schOk ⟨[c, ⟨⟨#[121]⟩, 3, 0, false⟩], [1], []⟩)) = colOk c := by
  rw [schOk2 c ⟨zN, 3, 0, false⟩ (by decide +kernel) rfl, schOk2 c ⟨⟨#[121]⟩, 3, 0, false⟩ (by decide +kernel) rfl]
  show ((colOk c && !isN zN c) || (isN zN c && (colOk c && !isN ⟨#[121]⟩ c))) = colOk c
  cases h1 : isN zN c
  · simp
  · have h2 : isN ⟨#[121]⟩ c = false := by
      unfold isN at h1 ⊢
      rw [beq_iff_eq.1 h1]
      decide +kernel
    rw [h2]
    simp
def pR (b : Nat) : SchV := ⟨some ⟨b, 0, none⟩, 2, some ⟨b + 1, 0, none⟩, 1, none, 0⟩
theorem schR {w : World} {b : Nat} {c d : Col} (h : w.heap[b]? = some (.cells #[.string c.n, .int .i64 c.t, .int .i64 c.z, .bool c.u, .string d.n, .int .i64 d.t, .int .i64 d.z, .bool d.u] 24)) (h' : w.cell? ⟨b + 1, 0, none⟩ = some (.int .i64 1)) : SchIn w (pR b) ⟨[c, d], [1], []⟩ := by
  refine ⟨fun j hj => ?_, fun j hj => ?_, fun j hj => absurd hj (Nat.not_lt_zero j), Nat.le_refl _⟩
  · match j, hj with
    | 0, _ => exact ⟨_, rfl, ⟨by simp [World.cell?, Addr.add, h], by simp [World.cell?, Addr.add, h], by simp [World.cell?, Addr.add, h], by simp [World.cell?, Addr.add, h]⟩⟩
    | 1, _ => exact ⟨_, rfl, ⟨by simp [World.cell?, Addr.add, h], by simp [World.cell?, Addr.add, h], by simp [World.cell?, Addr.add, h], by simp [World.cell?, Addr.add, h]⟩⟩
  · match j, hj with
    | 0, _ => exact ⟨_, rfl, by unfold Addr.add; exact h'⟩
theorem right_of (c d : Col) (n1 : c.n.size ≤ 9223372036854775807) (n2 : d.n.size ≤ 9223372036854775807) (b : Nat) (w : World) (hS : SchIn w (pR b) ⟨[c, d], [1], []⟩) :
    Calls Tryz.prog 61 #[.agg #[.slice (some ⟨b, 0, none⟩) 2 2, .slice (some ⟨b + 1, 0, none⟩) 1 1, .slice none 0 0]] w fun e w' => e = .returned (.bool (schOk ⟨[c, d], [1], []⟩)) ∧ Below w.heap.size w w' :=
  rRight_any (pR b) ⟨[c, d], [1], []⟩ w (fun x hx => by
    rcases List.mem_cons.1 hx with rfl | hx
    · exact n1
    · rcases List.mem_cons.1 hx with rfl | hx
      · exact n2
      · cases hx) (by simp) (by simp) (by simp) (fun l hl => by cases hl) hS
theorem cells_second (w : World) (A B C : Obj) : (((w.alloc A).alloc B).alloc C).heap[w.heap.size + 1]? = some B := by
  rw [← World.size_alloc w A]
  exact heap_old (heap_alloc_at _ _) _
set_option maxRecDepth 100000 in
set_option maxHeartbeats 4000000 in
theorem r6right_any (c : Col) (w : World) (n1 : c.n.size ≤ 9223372036854775807) : Calls Tryz.prog 29 #[.agg #[.string c.n, .int .i64 c.t, .int .i64 c.z, .bool c.u]] w fun e w' => e = .returned (.bool (colOk c)) ∧ Below w.heap.size w w' := by
  have HR := Lib.hid (right_is c)
  have H1 := Lib.hid (right_of c ⟨zN, 3, 0, false⟩ n1 (by decide +kernel))
  have H2 := Lib.hid (right_of c ⟨⟨#[121]⟩, 3, 0, false⟩ n1 (by decide +kernel))
  generalize schOk ⟨[c, ⟨zN, 3, 0, false⟩], [1], []⟩ = s1 at HR H1
  generalize schOk ⟨[c, ⟨⟨#[121]⟩, 3, 0, false⟩], [1], []⟩ = s2 at HR H2
  go_enter Tryz.func29, Tryz.ntmps29
  go_wp2_with fail
  refine (H1.out _ _ (schR (cells_second _ _ _ _) (by simp [go_sem]))).mono ?_
  rintro e w2 ⟨rfl, hb2⟩
  have a0 := keep_cell (a := ⟨w.heap.size, 0, none⟩) (v := .string c.n) hb2 (by simp [go_sem])
  have a1 := keep_cell (a := ⟨w.heap.size, 1, none⟩) (v := .int .i64 c.t) hb2 (by simp [go_sem])
  have a2 := keep_cell (a := ⟨w.heap.size, 2, none⟩) (v := .int .i64 c.z) hb2 (by simp [go_sem])
  have a3 := keep_cell (a := ⟨w.heap.size, 3, none⟩) (v := .bool c.u) hb2 (by simp [go_sem])
  have hb3 : Below w.heap.size w w2 := ((((Below.refl _ _).alloc (Nat.le_refl _) _).alloc (by simp) _).alloc (by simp; omega) _).trans (hb2.mono (by simp; omega))
  have HB := Lib.hid hb3
  have hlt : w.heap.size < w2.heap.size := World.block_lt_of_cell? _ _ a0
  clear hb2 hb3 H1
  cases s1
  · go_wp2_with fail
    · have he : c.n.toList = [122, 122, 122, 122, 122, 122, 122, 122, 122, 122, 122, 122, 122, 122, 122, 122, 122, 122, 122, 122, 122, 122, 122, 122] := by assumption
      have hz : isN zN c = true := by unfold isN; rw [he, zN_list]; decide
      refine (H2.out _ _ (schR (heap_old (heap_alloc_at _ _) _) (by simp [go_sem]))).mono ?_
      rintro e w3 ⟨rfl, hb3⟩
      go_wp2_with fail
      go_ret
      exact ⟨by rw [← HR.out, hz]; rfl, HB.out.trans ((((Below.refl _ w2).alloc (Nat.le_refl _) _).alloc (by simp) _).trans (hb3.mono (by simp; omega)) |>.mono HB.out.size)⟩
    · have he : ¬ c.n.toList = [122, 122, 122, 122, 122, 122, 122, 122, 122, 122, 122, 122, 122, 122, 122, 122, 122, 122, 122, 122, 122, 122, 122, 122] := by assumption
      have hz : isN zN c = false := by unfold isN; rw [zN_list]; simpa using he
      go_ret
      exact ⟨by rw [← HR.out, hz]; rfl, HB.out⟩
  · go_wp2_with fail
    go_ret
    exact ⟨by rw [← HR.out]; rfl, HB.out⟩
end Go.Proofs.YtmgeefhacnadcaaGreatDoor
