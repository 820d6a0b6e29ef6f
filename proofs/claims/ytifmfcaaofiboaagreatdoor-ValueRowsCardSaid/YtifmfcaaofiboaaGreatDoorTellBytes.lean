/-
  value.tellBytes: x', two digits a byte, '.
-/
import Derived.Test.YtifmfcaaofiboaaGreatDoorTaker
import Derived.Test.YtifmfcaaofiboaaGreatDoorTell
import Derived.Deep.AppendLies
import Derived.Lib.AppendStr
import Derived.Lib.SmallJoins
namespace Go.Proofs.YtifmfcaaofiboaaGreatDoor
open Go.RowKit

theorem infoU8 : (Tryz.prog.info? 5).map (fun i => (i.zero, i.size, i.bytes)) = some (some (.int .u8 0), 1, 1) := by kernel_rfl
/-- the two digits of a byte -/
def hx (c : UInt8) : List UInt8 := [figs.getD (c.toNat / 16) 0, figs.getD (c.toNat % 16) 0]
def cellsOf (l : List UInt8) : List Value := l.map fun b => Value.int .u8 b.toNat

theorem fig_at (k : IntKind) (i : Nat) (h : i < 16) (d : UInt8) (hd : d = figs.getD i 0) (w : World) :
    (Instr.index 9 (.string ⟨#[48, 49, 50, 51, 52, 53, 54, 55, 56, 57, 97, 98, 99, 100, 101, 102]⟩) (.int k (i : Int))).run Tryz.prog w = .ok (.int .u8 (d.toNat : Int)) w := by
  rw [run_index_string w 9 _ k (i : Int) Tryz.underlying9]
  have hz : ((⟨#[48, 49, 50, 51, 52, 53, 54, 55, 56, 57, 97, 98, 99, 100, 101, 102]⟩ : ByteArray).size : Int) = 16 := rfl
  rw [dif_pos ⟨by omega, by omega⟩]
  subst hd
  have key : ∀ j : Fin 16, (⟨#[48, 49, 50, 51, 52, 53, 54, 55, 56, 57, 97, 98, 99, 100, 101, 102]⟩ : ByteArray)[j.1]'(j.2) = figs.getD j.1 0 := by decide
  have := key ⟨i, h⟩
  simp only [Int.toNat_natCast]
  rw [this]
def txtB (l : List UInt8) : List UInt8 := [120, 39] ++ l.flatMap hx
def txtBytes (l : List UInt8) : List UInt8 := txtB l ++ [39]
theorem txtB_length (l : List UInt8) : (txtB l).length = 2 + 2 * l.length := by
  unfold txtB
  induction l with
  | nil => rfl
  | cons c l ih => simp [hx] at ih ⊢; omega
theorem cellsOf_length (l : List UInt8) : (cellsOf l).length = l.length := by simp [cellsOf]
/-- k bytes are told: v owns so many cells -/
def Told (w : World) (B : Nat) (v : Value) (l : List UInt8) : Prop := ∃ g cap, v = .slice (some ⟨g, 0, none⟩) l.length cap ∧ w.ownsRow B 5 1 (.slice (some ⟨g, 0, none⟩) l.length cap) l.length (cellsOf l)

theorem txtB_snoc (s : ByteArray) (j : Nat) (h : j < s.size) (c d1 d2 : UInt8) (hc : s[j] = c) (h1 : d1 = figs.getD (c.toNat / 16) 0) (h2 : d2 = figs.getD (c.toNat % 16) 0) :
    txtB (s.data.toList.take (j + 1)) = txtB (s.data.toList.take j) ++ [d1, d2] := by
  rw [List.take_succ_eq_append_getElem (by simpa using h)]
  rw [show s.data.toList[j]'(by simpa using h) = s[j] from rfl, hc]
  unfold txtB
  rw [List.flatMap_append, ← List.append_assoc]
  simp [hx, h1, h2]
theorem told_step {W : World} {B g cap : Nat} {s : ByteArray} {j : Nat} {cs : List Value} {d1 d2 : UInt8} (hcs : cellsOf (txtB (s.data.toList.take j)) = cs) (hl : (txtB (s.data.toList.take j)).length = 2 + 2 * j) (hs : txtB (s.data.toList.take (j + 1)) = txtB (s.data.toList.take j) ++ [d1, d2])
    (hown : W.ownsRow B 5 1 (.slice (some ⟨g, 0, none⟩) (2 + 2 * j + 2) cap) (2 + 2 * j + 2) (cs ++ [.int .u8 (d1.toNat : Int), .int .u8 (d2.toNat : Int)])) :
    Told W B (.slice (some ⟨g, 0, none⟩) (2 + 2 * j + 2) cap) (txtB (s.data.toList.take (j + 1))) := by
  have e : (txtB (s.data.toList.take (j + 1))).length = 2 + 2 * j + 2 := by rw [hs, List.length_append, hl]; rfl
  refine ⟨g, cap, by rw [e], ?_⟩
  rw [e, hs]
  unfold cellsOf at hcs ⊢
  rw [List.map_append, hcs]
  exact hown
theorem told_string {W : World} {B g cap n : Nat} {l : List UInt8} (hn : l.length = n) (hown : W.ownsRow B 5 1 (.slice (some ⟨g, 0, none⟩) n cap) n (cellsOf l)) :
    (convert 70 9 (.slice (some ⟨g, 0, none⟩) n cap)).run Tryz.prog W = .ok (.string ⟨l.toArray⟩) W := by
  subst hn
  refine run_convert_bytes_back W 70 9 5 ⟨g, 0, none⟩ cap l Tryz.underlying70 Tryz.underlying5 Tryz.underlying9 (fun j hj => ?_)
  rw [Lib.add_plain, Nat.zero_add, hown.cellAt j (by omega)]
  simp [cellsOf, hj]

set_option maxRecDepth 100000 in
set_option maxHeartbeats 3200000 in
theorem tellBytes_any (k i_ u : Int) (s : ByteArray) (w : World) (hs : s.size ≤ 300) :
    Calls Tryz.prog 80 #[.agg #[.int .i64 k, .int .i64 i_, .int .u64 u, .string s]] w fun e w' => e = .returned (.string ⟨(txtBytes s.data.toList).toArray⟩) ∧ Below w.heap.size w w' := by
  obtain ⟨i0, hi0, hz0, hz1, hz2⟩ := info_parts infoU8
  go_enter Tryz.func80, Tryz.ntmps80
  go_wp2_with (first | (at_make; refine wpList_make_own _ rfl _ _ 70 rfl (w.heap.size + 1) 5 i0 (.int .u8 0) 1 Tryz.underlying70 hi0 hz0 hz1 _ _ _ (2 * s.size + 3) rfl rfl (by omega) (by rw [hz2]; omega) (by unfold maxLen; omega) (by simp) ?_; intro w1 hown1 hg1; rw [World.size_alloc] at hown1) | (at_builtin; refine Lib.wpList_append_own_string _ rfl _ _ 70 9 rfl (w.heap.size + 1) 5 i0 Tryz.underlying70 Tryz.underlying9 hi0 hz0 hz1 hz2 (.slice (some ⟨w.heap.size + 1, 0, none⟩) 0 (2 * s.size + 3)) 0 [] rfl hown1 ⟨#[120, 39]⟩ rfl ?a1 ?a2 ?a3 ?a4))
  case a1 => unfold maxLen; decide
  case a2 => decide
  case a3 => have := hg1.size; simpa using this
  intro v2 w2 hown2 hg2 _
  obtain ⟨g2, cap2, rfl⟩ := Joins.ownsRow_form hown2 (by decide)
  have hb1 : Below (w.heap.size + 1) (w.alloc (.cells #[.int .i64 k, .int .i64 i_, .int .u64 u, .string s] 25)) w1 := (Below.refl _ _).grown hg1 (by simp) (fun _ h => by cases h)
  have hb2 : Below (w.heap.size + 1) (w.alloc (.cells #[.int .i64 k, .int .i64 i_, .int .u64 u, .string s] 25)) w2 := hb1.grown hg2 (by have := hb1.size; simpa using this) (fun _ h => by cases h; simp)
  have hc2 : w2.cell? ⟨w.heap.size, 3, none⟩ = some (.string s) := (hb2.cell (p := ⟨w.heap.size, 3, none⟩) (by simp)).trans (World.cell?_alloc_new _ _ _ 3)
  have ht2 : Told w2 (w.heap.size + 1) (.slice (some ⟨g2, 0, none⟩) 2 cap2) (txtB (s.data.toList.take 0)) := ⟨g2, cap2, rfl, by simpa [txtB, cellsOf, Lib.strCells] using hown2⟩
  clear hb1 hg1 hown1 hg2
  go_wp2
  go_loopw [3, 17] (fun v i wr => ∃ j : Nat, j ≤ s.size ∧ i = .int .i64 j ∧ Told wr (w.heap.size + 1) v (txtB (s.data.toList.take j)) ∧ wr.cell? ⟨w.heap.size, 3, none⟩ = some (.string s) ∧ Below (w.heap.size + 1) (w.alloc (.cells #[.int .i64 k, .int .i64 i_, .int .u64 u, .string s] 25)) wr) (fun _ i _ => s.size - (intOf i).toNat)
  case atStart => exact ⟨0, by omega, rfl, ht2, hc2, hb2⟩
  case round =>
    clear ht2 hown2 hc2 hb2
    obtain ⟨j, hj, rfl, htold, hcell, hbw⟩ := hrel
    by_cases hlt : j < s.size
    · obtain ⟨g, cap, rfl, hown⟩ := htold
      have hL : (txtB (s.data.toList.take j)).length = 2 + 2 * j := by rw [txtB_length, List.length_take]; simp; omega
      rw [hL] at hown ⊢
      generalize hcs : cellsOf (txtB (s.data.toList.take j)) = cs at hown
      have HCS := Lib.hid hcs
      have HL := Lib.hid hL
      clear hcs hL
      have hge : w.heap.size + 1 ≤ g := by
        rcases hown.2 with ⟨h, _⟩ | ⟨g', _, _, h, hb, _⟩
        · cases h
        · cases h; exact hb
      have hj0 : (0 : Int) ≤ (j : Int) := by omega
      have hj1 : (j : Int) < (s.size : Int) := by omega
      have hbz : w.heap.size + 1 ≤ wr.heap.size := by have := hbw.size; simpa using this
      obtain ⟨c, hc⟩ : ∃ c, c = s[j] := ⟨_, rfl⟩
      have hc256 : (c.toNat : Int) < 256 := by have := c.toNat_lt; omega
      have h15 : bits BinOp.and IntKind.u8 (c.toNat : Int) 15 = (c.toNat : Int) % 16 := u8_and15 _ (by omega) hc256
      have hc' := hc.symm
      obtain ⟨d1, hd1⟩ : ∃ d : UInt8, d = figs.getD (c.toNat / 16) 0 := ⟨_, rfl⟩
      obtain ⟨d2, hd2⟩ : ∃ d : UInt8, d = figs.getD (c.toNat % 16) 0 := ⟨_, rfl⟩
      have hx1 : ∀ W, (Instr.index 9 (.string ⟨#[48, 49, 50, 51, 52, 53, 54, 55, 56, 57, 97, 98, 99, 100, 101, 102]⟩) (.int .u8 ((c.toNat : Int) / 16))).run Tryz.prog W = .ok (.int .u8 (d1.toNat : Int)) W := fun W => fig_at .u8 (c.toNat / 16) (by have := c.toNat_lt; omega) d1 hd1 W
      have hx2 : ∀ W, (Instr.index 9 (.string ⟨#[48, 49, 50, 51, 52, 53, 54, 55, 56, 57, 97, 98, 99, 100, 101, 102]⟩) (.int .u8 ((c.toNat : Int) % 16))).run Tryz.prog W = .ok (.int .u8 (d2.toNat : Int)) W := fun W => fig_at .u8 (c.toNat % 16) (by omega) d2 hd2 W
      have HD1 := Lib.hid hd1
      have HD2 := Lib.hid hd2
      clear hd1 hd2
      clear hc
      go_wp2_with fail
      go_region_held3 (fun w' => w'.cell? ⟨w.heap.size, 3, none⟩ = some (.string s)) (first | (go_keep; done) | (rw [hg3.cell_far _ (by simp; omega) (by simp [Value.ownBlock]; omega)]; (first | assumption | (go_keep; done)))) ((refine step_append_lies _ (by rfl) (.tmp 20) (.tmp 33) 70 (by rfl) (w.heap.size + 1) 5 i0 _ 1 1 Tryz.underlying70 hi0 hz0 hz1 hz2 rfl (by omega) (.slice (some ⟨g, 0, none⟩) (2 + 2 * j) cap) (2 + 2 * j) cs (by rfl) ((hown.alloc _).drew) ⟨wr.heap.size, 0, none⟩ 2 2 [.int .u8 (d1.toNat : Int), .int .u8 (d2.toNat : Int)] (by rfl) (by rfl) ?_ ?_ ?_ ?_ ?_ ?_ (wr.heap.size + 1) ?_ ?_; exact World.news_of_block (cs := #[.int .u8 (d1.toNat : Int), .int .u8 (d2.toNat : Int)]) (t := 5) (fr := (0, 0)) (heap_alloc_new wr _); (intro u hu; simp at hu; rcases hu with rfl | rfl <;> rfl); omega; (unfold maxLen; omega); omega; (simp; omega); simp; intro g3 cap3 w3 hown3 hg3 hat3 hlt3))
      all_goals
        have hstep := told_step HCS.out HL.out (txtB_snoc s j hlt c d1 d2 hc' HD1.out HD2.out) hown3
        have hbw3 : Below (w.heap.size + 1) (w.alloc (.cells #[.int .i64 k, .int .i64 i_, .int .u64 u, .string s] 25)) w3 := ((hbw.alloc hbz _).drew).grown hg3 (by simp; omega) (fun x h => by cases h; exact hge)
        have hcell3 : w3.cell? ⟨w.heap.size, 3, none⟩ = some (.string s) := (hbw3.cell (p := ⟨w.heap.size, 3, none⟩) (by simp)).trans (World.cell?_alloc_new _ _ _ 3)
        clear hown3 hg3 hat3 hown hcell hbw
        go_wp2
        go_roundw
        case rel => exact ⟨j + 1, by omega, by go_num, hstep, hcell3, hbw3⟩
        case measure => simp [intOf]; omega
    · obtain rfl : j = s.size := by omega
      obtain ⟨g, cap, rfl, hown⟩ := htold
      have hall : s.data.toList.take s.size = s.data.toList := List.take_of_length_le (by simp)
      rw [hall] at hown ⊢
      have hL : (txtB s.data.toList).length = 2 + 2 * s.size := by rw [txtB_length]; simp
      rw [hL] at hown ⊢
      have hge : w.heap.size + 1 ≤ g := by
        rcases hown.2 with ⟨h, _⟩ | ⟨g', _, _, h, hb, _⟩
        · cases h
        · cases h; exact hb
      have hbz : w.heap.size + 1 ≤ wr.heap.size := by have := hbw.size; simpa using this
      go_wp2_with (first | (at_builtin; refine Lib.wpList_append_own_string _ rfl _ _ 70 9 rfl (w.heap.size + 1) 5 i0 Tryz.underlying70 Tryz.underlying9 hi0 hz0 hz1 hz2 (.slice (some ⟨g, 0, none⟩) (2 + 2 * s.size) cap) (2 + 2 * s.size) _ rfl hown ⟨#[39]⟩ rfl ?b1 ?b2 ?b3 ?_))
      case b1 => unfold maxLen; show 2 + 2 * s.size + 1 ≤ _; omega
      case b2 => show 2 + 2 * s.size + 1 ≤ _; omega
      case b3 => exact hbz
      intro v4 w4 hown4 hg4 _
      obtain ⟨g4, cap4, rfl⟩ := Joins.ownsRow_form hown4 (by omega)
      have e4 : cellsOf (txtB s.data.toList) ++ Lib.strCells ⟨#[39]⟩ = cellsOf (txtBytes s.data.toList) := by
        unfold txtBytes cellsOf Lib.strCells
        rw [List.map_append]
      rw [e4] at hown4
      have hcv := told_string (l := txtBytes s.data.toList) (by unfold txtBytes; rw [List.length_append, hL]; rfl) hown4
      have hbw4 : Below (w.heap.size + 1) (w.alloc (.cells #[.int .i64 k, .int .i64 i_, .int .u64 u, .string s] 25)) w4 := hbw.grown hg4 hbz (fun x h => by cases h; exact hge)
      clear hown4 hg4 e4 hown hcell hall hL
      go_wp2
      go_ret
      exact ⟨rfl, ((Below.refl _ _).alloc (Nat.le_refl _) _).trans (hbw4.mono (by omega))⟩
end Go.Proofs.YtifmfcaaofiboaaGreatDoor
