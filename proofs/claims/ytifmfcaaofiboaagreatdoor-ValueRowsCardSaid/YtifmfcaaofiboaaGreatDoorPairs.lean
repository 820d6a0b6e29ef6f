/-
  value.pairs: bytes of two digits each.
-/
import Derived.Test.YtifmfcaaofiboaaGreatDoorTellBytes
namespace Go.Proofs.YtifmfcaaofiboaaGreatDoor
open Go.RowKit

theorem taker1_digit16 (A S B : Nat) (s : ByteArray) (k : Nat) (d : Int) (w : World) (hA : w.cell? ⟨A, 0, none⟩ = some (.int .i64 k)) (hS : w.cell? ⟨S, 0, none⟩ = some (.string s)) (hB : w.cell? ⟨B, 0, none⟩ = some (.int .i64 16)) (hf : w.frozen? ⟨A, 0, none⟩ = false) (hk : k < s.size) (hz : s.size ≤ 9223372036854775806) (hd : dig 16 s[k] = d) (h0 : 0 ≤ d) :
    Calls Tryz.prog 116 #[.pointer (some ⟨A, 0, none⟩), .pointer (some ⟨S, 0, none⟩), .pointer (some ⟨B, 0, none⟩)] w fun e w' => e = .returned (.tuple #[.int .u64 d, .bool true]) ∧ ∃ q, (w.drewN q).setCell ⟨A, 0, none⟩ (.int .i64 (k + 1)) = w' := by
  refine (taker1_at16 A S B s k _ w hA hS hB hf hk hz rfl).mono ?_
  rintro e w' ⟨rfl, hw⟩
  refine ⟨?_, hw⟩
  rw [hd, show max d 0 = d by omega, show decide (0 ≤ d) = true by simpa using h0]
theorem taker1_none16 (A S B : Nat) (s : ByteArray) (k : Nat) (w : World) (hA : w.cell? ⟨A, 0, none⟩ = some (.int .i64 k)) (hS : w.cell? ⟨S, 0, none⟩ = some (.string s)) (hB : w.cell? ⟨B, 0, none⟩ = some (.int .i64 16)) (hf : w.frozen? ⟨A, 0, none⟩ = false) (hk : k < s.size) (hz : s.size ≤ 9223372036854775806) (hd : dig 16 s[k] < 0) :
    Calls Tryz.prog 116 #[.pointer (some ⟨A, 0, none⟩), .pointer (some ⟨S, 0, none⟩), .pointer (some ⟨B, 0, none⟩)] w fun e w' => e = .returned (.tuple #[.int .u64 0, .bool false]) ∧ ∃ q, (w.drewN q).setCell ⟨A, 0, none⟩ (.int .i64 (k + 1)) = w' := by
  refine (taker1_at16 A S B s k _ w hA hS hB hf hk hz rfl).mono ?_
  rintro e w' ⟨rfl, hw⟩
  refine ⟨?_, hw⟩
  rw [show max (dig 16 s[k]) 0 = 0 by omega, show decide (0 ≤ dig 16 s[k]) = false by simpa using hd]
/-- whether it is a digit or not -/
theorem taker1_any16 (A S B : Nat) (s : ByteArray) (k : Nat) (w : World) (hA : w.cell? ⟨A, 0, none⟩ = some (.int .i64 k)) (hS : w.cell? ⟨S, 0, none⟩ = some (.string s)) (hB : w.cell? ⟨B, 0, none⟩ = some (.int .i64 16)) (hf : w.frozen? ⟨A, 0, none⟩ = false) (hk : k < s.size) (hz : s.size ≤ 9223372036854775806) (b : Bool) (hb : decide (0 ≤ dig 16 s[k]) = b) :
    Calls Tryz.prog 116 #[.pointer (some ⟨A, 0, none⟩), .pointer (some ⟨S, 0, none⟩), .pointer (some ⟨B, 0, none⟩)] w fun e w' => (∃ d, e = .returned (.tuple #[.int .u64 d, .bool b])) ∧ ∃ q, (w.drewN q).setCell ⟨A, 0, none⟩ (.int .i64 (k + 1)) = w' := by
  refine (taker1_at16 A S B s k _ w hA hS hB hf hk hz rfl).mono ?_
  rintro e w' ⟨rfl, hw⟩
  exact ⟨⟨_, by rw [hb]⟩, hw⟩

/-- two digits as a byte -/
def byteOf (a b : UInt8) : UInt8 := UInt8.ofNat ((dig 16 a).toNat * 16 + (dig 16 b).toNat)
def prsGo : List UInt8 → List UInt8 → Option (List UInt8)
  | a :: b :: l, acc => if 0 ≤ dig 16 a ∧ 0 ≤ dig 16 b then prsGo l (acc ++ [byteOf a b]) else none
  | _, acc => some acc
def PrsRel (l : List UInt8) (j : Nat) (bs : List UInt8) : Prop := prsGo l [] = prsGo (l.drop (2 * j)) bs
theorem drop_two (s : ByteArray) (j : Nat) (h : 2 * j + 1 < s.size) : s.data.toList.drop (2 * j) = s[2 * j] :: s[2 * j + 1] :: s.data.toList.drop (2 * (j + 1)) := by
  rw [List.drop_eq_getElem_cons (by simp; omega), List.drop_eq_getElem_cons (by simp; omega)]
  rfl
theorem PrsRel.yes {s : ByteArray} {j : Nat} {bs : List UInt8} (h : PrsRel s.data.toList j bs) (hj : 2 * j + 1 < s.size) (ha : 0 ≤ dig 16 s[2 * j]) (hb : 0 ≤ dig 16 s[2 * j + 1]) : PrsRel s.data.toList (j + 1) (bs ++ [byteOf s[2 * j] s[2 * j + 1]]) := by
  unfold PrsRel at *
  rw [h, drop_two s j hj]
  simp only [prsGo]
  rw [if_pos ⟨ha, hb⟩]
theorem PrsRel.no {s : ByteArray} {j : Nat} {bs : List UInt8} (h : PrsRel s.data.toList j bs) (hj : 2 * j + 1 < s.size) (hab : ¬ (0 ≤ dig 16 s[2 * j] ∧ 0 ≤ dig 16 s[2 * j + 1])) : prsGo s.data.toList [] = none := by
  unfold PrsRel at h
  rw [h, drop_two s j hj]
  simp only [prsGo]
  rw [if_neg hab]
theorem PrsRel.all {s : ByteArray} {j : Nat} {bs : List UInt8} (h : PrsRel s.data.toList j bs) (hj : s.size ≤ 2 * j + 1) : prsGo s.data.toList [] = some bs := by
  unfold PrsRel at h
  rw [h]
  have hl : (s.data.toList.drop (2 * j)).length ≤ 1 := by
    rw [List.length_drop, Array.length_toList]
    have : s.data.size = s.size := rfl
    omega
  generalize s.data.toList.drop (2 * j) = l at hl
  match l, hl with
  | [], _ => rfl
  | [_], _ => rfl
  | _ :: _ :: _, hl => simp at hl

/-- the bytes, or that they are none, as value.pairs gives them -/
def PairsPost (l : List UInt8) (w : World) (e : Ending) (w' : World) : Prop :=
  ∃ v, e = .returned (.tuple #[v, .bool ((prsGo l []).isSome && decide (l.length % 2 = 0))]) ∧ (convert 70 9 v).run Tryz.prog w' = .ok (.string ⟨((prsGo l []).getD []).toArray⟩) w' ∧ Below w.heap.size w w'

theorem or_byte (a b : Int) (ha0 : 0 ≤ a) (ha : a < 16) (hb0 : 0 ≤ b) (hb : b < 16) : bits BinOp.or IntKind.u64 (a * 16) b % 256 = ((UInt8.ofNat (a.toNat * 16 + b.toNat)).toNat : Int) := by
  rw [bits_join .u64 64 (by decide) (fun n h0 h1 => by rw [IntKind.wrap_u64]; omega) 4 (a * 16) b (by omega) (by omega) (by omega) hb0 (by omega) (by omega)]
  rw [UInt8.toNat_ofNat']
  omega
theorem nil_string (W : World) : (convert 70 9 (.slice none 0 0)).run Tryz.prog W = .ok (.string ⟨#[]⟩) W := by kernel_rfl

set_option maxRecDepth 100000 in
set_option maxHeartbeats 3200000 in
theorem pairs_any (s : ByteArray) (w : World) (hs : s.size ≤ 800) :
    Calls Tryz.prog 99 #[.string s] w (PairsPost s.data.toList w) := by
  obtain ⟨i0, hi0, hz0, hz1, hz2⟩ := info_parts infoU8
  go_enter Tryz.func99, Tryz.ntmps99
  go_wp2_with (first | (go_at_call 111; refine (taker_any _ _ _).mono ?_; rintro e w' ⟨rfl, rfl⟩) | (at_make; refine wpList_make_own _ rfl _ _ 70 rfl (w.heap.size + 3) 5 i0 (.int .u8 0) 1 Tryz.underlying70 hi0 hz0 hz1 _ _ _ (s.size / 2) rfl rfl ?c1 ?c2 ?c3 ?c4 ?_))
  case c1 => omega
  case c2 => rw [hz2]; omega
  case c3 => unfold maxLen; omega
  case c4 => simp
  intro w1 hown1 hg1
  have hA1 : w1.cell? ⟨w.heap.size + 1 + 1, 0, none⟩ = some (.int .i64 ((2 * 0 : Nat) : Int)) := by rw [hg1.cell_far _ (by simp) (by simp)]; simp [go_sem]
  have hS1 : w1.cell? ⟨w.heap.size, 0, none⟩ = some (.string s) := by rw [hg1.cell_far _ (by simp [Nat.add_assoc]) (by simp)]; simp [go_sem]
  have hB1 : w1.cell? ⟨w.heap.size + 1, 0, none⟩ = some (.int .i64 16) := by rw [hg1.cell_far _ (by simp [Nat.add_assoc]) (by simp)]; simp [go_sem]
  have hF1 : w1.frozen? ⟨w.heap.size + 1 + 1, 0, none⟩ = false := by rw [hg1.frozen_far _ (by simp) (by simp)]; simp [go_sem]
  have hb1 : Below w.heap.size w w1 := (Below.grown (B := w.heap.size) (by go_grown) hg1 (by simp [Nat.add_assoc]) (fun _ h => by cases h))
  have hz1' : w.heap.size + 3 ≤ w1.heap.size := by have := hg1.size; simpa [Nat.add_assoc] using this
  have ht1 : Told w1 (w.heap.size + 3) (.slice (some ⟨w.heap.size + 1 + 1 + 1, 0, none⟩) 0 (s.size / 2)) [] := ⟨_, _, rfl, hown1⟩
  clear hown1 hg1
  go_wp2
  go_loopw [5, 19] (fun v i wr => ∃ (j : Nat) (bs : List UInt8), 2 * j ≤ s.size ∧ i = .int .i64 j ∧ bs.length = j ∧ Told wr (w.heap.size + 3) v bs ∧ PrsRel s.data.toList j bs ∧ wr.cell? ⟨w.heap.size + 1 + 1, 0, none⟩ = some (.int .i64 ((2 * j : Nat) : Int)) ∧ wr.cell? ⟨w.heap.size, 0, none⟩ = some (.string s) ∧ wr.cell? ⟨w.heap.size + 1, 0, none⟩ = some (.int .i64 16) ∧ wr.frozen? ⟨w.heap.size + 1 + 1, 0, none⟩ = false ∧ Below w.heap.size w wr ∧ w.heap.size + 3 ≤ wr.heap.size) (fun _ i _ => s.size - (intOf i).toNat)
  case atStart => exact ⟨0, [], by omega, rfl, rfl, ht1, rfl, hA1, hS1, hB1, hF1, hb1, hz1'⟩
  case round =>
    clear ht1 hA1 hS1 hB1 hF1 hb1 hz1'
    obtain ⟨j, bs, hj, rfl, hbl, htold, hrel, hA, hS, hB, hF, hbw, hsz⟩ := hrel
    by_cases hlt : 2 * j + 1 < s.size
    · have h0 : 2 * j < s.size := by omega
      by_cases hda : 0 ≤ dig 16 s[2 * j] ∧ 0 ≤ dig 16 s[2 * j + 1]
      · have hnext := hrel.yes hlt hda.1 hda.2
        have C1 := Lib.hid (taker1_digit16 _ _ _ s (2 * j) _ wr hA hS hB hF h0 (by omega) rfl hda.1)
        have C2 : ∀ q, Calls Tryz.prog 116 _ ((wr.drewN q).setCell ⟨w.heap.size + 1 + 1, 0, none⟩ (.int .i64 (((2 * j : Nat) : Int) + 1))) _ := fun q => taker1_digit16 (w.heap.size + 1 + 1) w.heap.size (w.heap.size + 1) s (2 * j + 1) _ _ (by simp [go_sem, hA]) (by simp [go_sem, hS]) (by simp [go_sem, hB]) (by simp [go_sem, hF]) hlt (by omega) rfl hda.2
        have HC2 := Lib.hid C2
        have HN := Lib.hid hnext
        have hd1 := dig16_bd s[2 * j]
        have hd2 := dig16_bd s[2 * j + 1]
        obtain ⟨hda1, hda2⟩ := hda
        obtain ⟨cc, hcc⟩ : ∃ c, c = byteOf s[2 * j] s[2 * j + 1] := ⟨_, rfl⟩
        rw [← hcc] at HN
        unfold byteOf at hcc
        have HCC := Lib.hid hcc
        clear C2 hnext hrel hcc
        generalize dig 16 s[2 * j] = d1 at *
        generalize dig 16 s[2 * j + 1] = d2 at *
        obtain ⟨g, cap, rfl, hown⟩ := htold
        rw [hbl] at hown ⊢
        have hor : bits BinOp.or IntKind.u64 (d1 * 16) d2 % 256 = (cc.toNat : Int) := by
          rw [HCC.out]
          exact or_byte d1 d2 hda1 hd1.2 hda2 hd2.2
        have hgr : w.heap.size + 3 ≤ g := by
          rcases hown.2 with ⟨h, _⟩ | ⟨g', _, _, h, hb, _⟩
          · cases h
          · cases h; exact hb
        go_wp2_with fail
        refine C1.out.mono ?_
        rintro e w2 ⟨rfl, q, hq⟩
        have HC3 := Lib.hid (hq ▸ HC2.out q)
        go_wp2_with fail
        refine HC3.out.mono ?_
        rintro e w3 ⟨rfl, q', hq'⟩
        have hown3 : w3.ownsRow (w.heap.size + 3) 5 1 (.slice (some ⟨g, 0, none⟩) j cap) j (cellsOf bs) := by
          subst hq' hq
          exact ownsRow_setCell_below (ownsRow_setCell_below hown (by simp [Nat.add_assoc]) _) (by simp [Nat.add_assoc]) _
        have hA3 : w3.cell? ⟨w.heap.size + 1 + 1, 0, none⟩ = some (.int .i64 ((2 * (j + 1) : Nat) : Int)) := by
          subst hq' hq
          simp [go_sem, hA]
          omega
        have hS3 : w3.cell? ⟨w.heap.size, 0, none⟩ = some (.string s) := by subst hq' hq; simp [go_sem, hS]
        have hB3 : w3.cell? ⟨w.heap.size + 1, 0, none⟩ = some (.int .i64 16) := by subst hq' hq; simp [go_sem, hB]
        have hF3 : w3.frozen? ⟨w.heap.size + 1 + 1, 0, none⟩ = false := by subst hq' hq; simp [go_sem, hF]
        have hb3 : Below w.heap.size w w3 := by subst hq' hq; exact (below_drewN (((below_drewN hbw q).setCell (by simp [Nat.add_assoc]) _)) q').setCell (by simp [Nat.add_assoc]) _
        have hsz3 : w.heap.size + 3 ≤ w3.heap.size := by subst hq' hq; simpa [World.setCell] using hsz
        clear hq hq' hA hS hB hF hbw hsz hown C1 HC2 HC3
        go_wp2_with (first | (at_builtin; refine wpList_append_own _ rfl _ _ 70 rfl (w.heap.size + 3) 5 i0 (.int .u8 0) 1 1 Tryz.underlying70 hi0 hz0 hz1 hz2 rfl (by decide) _ _ _ rfl (hown3.alloc _) ⟨w3.heap.size, 0, none⟩ 1 1 [.int .u8 (cc.toNat : Int)] rfl rfl ?e1 ?e2 ?e3 ?e4 ?e5 ?_))
        case e1 =>
          intro j' u' hj'
          match j', hj' with
          | 0, hj' => simp at hj'; subst hj'; simp [Addr.add]
        case e2 => intro u' hu'; simp at hu'; subst hu'; rfl
        case e3 => unfold maxLen; omega
        case e4 => omega
        case e5 => simp; omega
        intro v4 w4 hown4 hg4 _
        obtain ⟨g4, cap4, rfl⟩ := Joins.ownsRow_form hown4 (by omega)
        have ht4 : Told w4 (w.heap.size + 3) (.slice (some ⟨g4, 0, none⟩) (j + 1) cap4) (bs ++ [cc]) := by
          have e : (bs ++ [cc]).length = j + 1 := by simp [hbl]
          refine ⟨g4, cap4, by rw [e], ?_⟩
          rw [e]
          unfold cellsOf at hown4 ⊢
          rw [List.map_append]
          exact hown4
        have hA4 : w4.cell? ⟨w.heap.size + 1 + 1, 0, none⟩ = some (.int .i64 ((2 * (j + 1) : Nat) : Int)) := by rw [hg4.cell_far _ (by simp; omega) (by simp [Value.ownBlock]; omega), World.cell?_alloc_lt _ _ _ (by simp; omega)]; exact hA3
        have hS4 : w4.cell? ⟨w.heap.size, 0, none⟩ = some (.string s) := by rw [hg4.cell_far _ (by simp; omega) (by simp [Value.ownBlock]; omega), World.cell?_alloc_lt _ _ _ (by simp; omega)]; exact hS3
        have hB4 : w4.cell? ⟨w.heap.size + 1, 0, none⟩ = some (.int .i64 16) := by rw [hg4.cell_far _ (by simp; omega) (by simp [Value.ownBlock]; omega), World.cell?_alloc_lt _ _ _ (by simp; omega)]; exact hB3
        have hF4 : w4.frozen? ⟨w.heap.size + 1 + 1, 0, none⟩ = false := by rw [hg4.frozen_far _ (by simp; omega) (by simp [Value.ownBlock]; omega), World.frozen?_alloc_old _ _ _ (by simp; omega)]; exact hF3
        have hb4 : Below w.heap.size w w4 := (hb3.alloc (by omega) _).grown hg4 (by simp; omega) (fun x h => by cases h; show w.heap.size ≤ g; omega)
        have hsz4 : w.heap.size + 3 ≤ w4.heap.size := by have := hg4.size; simp at this; omega
        clear hown4 hg4 hown3 hA3 hS3 hB3 hF3 hb3 hsz3
        go_wp2
        go_roundw
        case rel => exact ⟨j + 1, bs ++ [cc], by omega, by go_num, by simp [hbl], ht4, HN.out, hA4, hS4, hB4, hF4, hb4, hsz4⟩
        case measure => simp [intOf]; omega
      · have hno := hrel.no hlt hda
        obtain ⟨b1, hb1⟩ : ∃ b, decide (0 ≤ dig 16 s[2 * j]) = b := ⟨_, rfl⟩
        obtain ⟨b2, hb2⟩ : ∃ b, decide (0 ≤ dig 16 s[2 * j + 1]) = b := ⟨_, rfl⟩
        have hbb : (!b1 || !b2) = true := by
          subst hb1 hb2
          by_cases x : 0 ≤ dig 16 s[2 * j] <;> by_cases y : 0 ≤ dig 16 s[2 * j + 1] <;> simp_all
        have C1 := Lib.hid (taker1_any16 _ _ _ s (2 * j) wr hA hS hB hF h0 (by omega) b1 hb1)
        have C2 : ∀ q, Calls Tryz.prog 116 _ ((wr.drewN q).setCell ⟨w.heap.size + 1 + 1, 0, none⟩ (.int .i64 (((2 * j : Nat) : Int) + 1))) _ := fun q => taker1_any16 (w.heap.size + 1 + 1) w.heap.size (w.heap.size + 1) s (2 * j + 1) _ (by simp [go_sem, hA]) (by simp [go_sem, hS]) (by simp [go_sem, hB]) (by simp [go_sem, hF]) hlt (by omega) b2 hb2
        have HC2 := Lib.hid C2
        have HN := Lib.hid hno
        clear C2 hno hb1 hb2 hda hrel htold
        rcases (show b1 = false ∨ (b1 = true ∧ b2 = false) by cases b1 <;> cases b2 <;> simp_all) with rfl | ⟨rfl, rfl⟩
        · go_wp2_with fail
          refine C1.out.mono ?_
          rintro e w2 ⟨⟨d1, rfl⟩, q, rfl⟩
          go_wp2_with fail
          refine (HC2.out q).mono ?_
          rintro e w3 ⟨⟨d2, rfl⟩, q', rfl⟩
          go_wp2_with fail
          go_ret2
          exact ⟨_, by rw [HN.out]; rfl, by rw [HN.out]; exact nil_string _, (below_drewN (((below_drewN hbw q).setCell (by simp [Nat.add_assoc]) _)) q').setCell (by simp [Nat.add_assoc]) _⟩
        · go_wp2_with fail
          refine C1.out.mono ?_
          rintro e w2 ⟨⟨d1, rfl⟩, q, rfl⟩
          go_wp2_with fail
          refine (HC2.out q).mono ?_
          rintro e w3 ⟨⟨d2, rfl⟩, q', rfl⟩
          go_wp2_with fail
          go_ret2
          exact ⟨_, by rw [HN.out]; rfl, by rw [HN.out]; exact nil_string _, (below_drewN (((below_drewN hbw q).setCell (by simp [Nat.add_assoc]) _)) q').setCell (by simp [Nat.add_assoc]) _⟩
    · have hall := hrel.all (by omega)
      obtain ⟨g, cap, rfl, hown⟩ := htold
      have hcv := told_string (l := bs) rfl hown
      have HALL := Lib.hid hall
      have hpar : ((s.size : Int) % 2 == 0) = decide (s.data.toList.length % 2 = 0) := by
        rw [Array.length_toList]
        show ((s.size : Int) % 2 == 0) = decide (s.size % 2 = 0)
        rw [Bool.eq_iff_iff]; simp; omega
      have HPAR := Lib.hid hpar
      clear hall hrel hpar hA hS hB hF hown
      go_wp2_with fail
      go_ret2
      exact ⟨_, by rw [HALL.out, ← HPAR.out]; rfl, by rw [HALL.out]; exact hcv, hbw⟩
end Go.Proofs.YtifmfcaaofiboaaGreatDoor
