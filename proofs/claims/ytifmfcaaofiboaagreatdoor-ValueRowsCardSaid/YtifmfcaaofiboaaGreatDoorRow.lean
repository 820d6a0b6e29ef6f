/-
  value.Row: the texts of values, a comma and a blank between.
-/
import Derived.Test.YtifmfcaaofiboaaGreatDoorLists
import Derived.Test.YtifmfcaaofiboaaGreatDoorShelf
import Derived.Deep.OwnRows
import Derived.Lib.ItoaLen
namespace Go.Proofs.YtifmfcaaofiboaaGreatDoor
open Go.RowKit

def Vl.chk (v : Vl) : Int := Go.Proofs.YtifmfcaaofiboaaGreatDoor.chk v.k v.i v.u v.s
def Vl.txt (v : Vl) : ByteArray := textOf v.k v.i v.u v.s
/-- the number of the first one that is wrong -/
def firstBad : List Vl → Int
  | [] => 0
  | v :: l => if v.chk = 0 then firstBad l else v.chk
def rowText (l : List Vl) : ByteArray := ⟨(Lib.join ((l.map Vl.txt).map (·.data.toList)) [44, 32]).toArray⟩
def rowRes (l : List Vl) : Value := if firstBad l = 0 then .tuple #[.string (rowText l), .int .i64 0] else .tuple #[.string ⟨#[]⟩, .int .i64 (firstBad l)]

def BRel (l : List Vl) (k : Nat) : Prop := firstBad l = firstBad (l.drop k)
theorem BRel.yes {l : List Vl} {k : Nat} {x : Vl} (h : BRel l k) (hl : k < l.length) (hx : l[k] = x) (h0 : x.chk = 0) : BRel l (k + 1) := by
  unfold BRel at *
  rw [h, List.drop_eq_getElem_cons hl]
  simp [firstBad, hx, h0]
theorem BRel.no {l : List Vl} {k : Nat} {x : Vl} (h : BRel l k) (hl : k < l.length) (hx : l[k] = x) (h0 : x.chk ≠ 0) : firstBad l = x.chk := by
  unfold BRel at *
  rw [h, List.drop_eq_getElem_cons hl]
  simp [firstBad, hx, h0]
theorem BRel.all {l : List Vl} {k : Nat} (h : BRel l k) (hl : k = l.length) : firstBad l = 0 := by
  unfold BRel at h
  rw [h, hl, List.drop_length]
  rfl
theorem rowRes_bad {l : List Vl} {n : Int} (h : firstBad l = n) (hn : n ≠ 0) : rowRes l = .tuple #[.string ⟨#[]⟩, .int .i64 n] := by
  unfold rowRes
  rw [if_neg (by omega), h]
theorem rowRes_all {l : List Vl} (h : firstBad l = 0) : rowRes l = .tuple #[.string (rowText l), .int .i64 0] := by
  unfold rowRes
  rw [if_pos h]

theorem txt_size (v : Vl) (h : v.ok) : v.txt.data.toList.length ≤ 700 := by
  unfold Vl.txt textOf
  have h1 := Lib.itoa_length_le v.i h.i0 h.i1
  have h2 : (Lib.decDigits v.u.toNat).length ≤ 20 := by
    rw [Lib.decDigits_length]
    have := h.u0
    have := h.u1
    exact Lib.nDigits_le20 _ (by omega)
  have h3 : (txtBytes v.s.data.toList).length ≤ 700 := by
    unfold txtBytes
    rw [List.length_append, txtB_length]
    have : v.s.data.toList.length = v.s.size := by simp
    have := h.z
    simp
    omega
  repeat' split
  · simp
  · simp; omega
  · simp; omega
  · simp
  · simp
  · simpa using h3
theorem join_small : ∀ (l : List Vl), (∀ v ∈ l, v.ok) → (Lib.join ((l.map Vl.txt).map (·.data.toList)) [44, 32]).length ≤ l.length * 702
  | [], _ => by simp [Lib.join_nil]
  | v :: l, h => by
    have ih : ∀ l : List Vl, (∀ v ∈ l, v.ok) → Lib.lens ((l.map Vl.txt).map (·.data.toList)) ≤ l.length * 700 := by
      intro l
      induction l with
      | nil => intro _; simp [Lib.lens]
      | cons v l ih =>
        intro h
        have h1 := ih (fun v hv => h v (List.mem_cons_of_mem _ hv))
        have h2 := txt_size v (h v (List.mem_cons_self ..))
        simp [Lib.lens] at h1 h2 ⊢
        omega
    have h1 := ih (v :: l) h
    rw [List.map_cons, List.map_cons, Lib.join_length]
    rw [List.map_cons, List.map_cons] at h1
    simp at h1 ⊢
    omega

theorem infoStr : (Tryz.prog.info? 9).map (fun i => (i.zero, i.size, i.bytes)) = some (some (.string ⟨#[]⟩), 1, 16) := by kernel_rfl
def rowAt (l : List Vl) (k : Nat) (j : Nat) : Value := .string (if j < k then ((l.map Vl.txt)[j]?).getD ⟨#[]⟩ else ⟨#[]⟩)
theorem rowAt_next {l : List Vl} {k : Nat} {x : Vl} (hl : k < l.length) (hx : l[k] = x) (j : Nat) : (if j = k then Value.string x.txt else rowAt l k j) = rowAt l (k + 1) j := by
  unfold rowAt
  by_cases h : j = k
  · subst h
    rw [if_pos rfl, if_pos (by omega), List.getElem?_map, List.getElem?_eq_getElem hl, hx]
    rfl
  · rw [if_neg h]
    by_cases h1 : j < k
    · rw [if_pos h1, if_pos (by omega)]
    · rw [if_neg h1, if_neg (by omega)]

set_option maxRecDepth 100000 in
set_option maxHeartbeats 2000000 in
theorem Row_some (a : Addr) (ca : Nat) (l : List Vl) (w : World) (hv : ValsAt w a l) (hok : ∀ v ∈ l, v.ok) (hl : l.length ≤ 10) (ht : HasTab w) (hg : HasET w) :
    Calls Tryz.prog 21 #[.slice (some a) l.length ca] w fun e w' => e = .returned (rowRes l) ∧ Below w.heap.size w w' := by
  have hmk : ∀ W, (Instr.makeSlice 79 (.int .i64 (l.length : Int)) (.int .i64 (l.length : Int))).run Tryz.prog W = .ok (.slice (some ⟨W.heap.size, 0, none⟩) l.length l.length) (W.alloc (.cells (madeCells #[.string ⟨#[]⟩] l.length) 9)) :=
    run_make_row' 79 9 (.string ⟨#[]⟩) 16 Tryz.underlying79 infoStr rfl .i64 .i64 l.length (by omega) (by omega)
  have ht' : ∀ W, Below w.heap.size w W → HasTab W := fun W hb => ht.below hb ht.lt
  have hg' : ∀ W, Below w.heap.size w W → HasET W := fun W hb => hg.below hb hg.lt
  have HT := Lib.hid ht'
  have HG := Lib.hid hg'
  have HOK := Lib.hid hok
  clear ht hg ht' hg' hok
  go_enter Tryz.func21, Tryz.ntmps21
  go_wp2
  have hrow0 := World.rowIs_made w (.string ⟨#[]⟩) l.length 9
  have hb0 : Below w.heap.size w (w.alloc (.cells (madeCells #[.string ⟨#[]⟩] l.length) 9)) := (Below.refl _ _).alloc (Nat.le_refl _) _
  have hs0 : w.heap.size < (w.alloc (.cells (madeCells #[.string ⟨#[]⟩] l.length) 9)).heap.size := by simp
  generalize w.alloc (.cells (madeCells #[.string ⟨#[]⟩] l.length) 9) = w1 at *
  go_loopw [14] (fun i wr => ∃ (k : Nat), k ≤ l.length ∧ i = .int .i64 k ∧ BRel l k ∧ wr.rowIs w.heap.size 9 l.length (rowAt l k) ∧ Below w.heap.size w wr) (fun i _ => l.length - (intOf i).toNat)
  case atStart => exact ⟨0, by omega, rfl, rfl, hrow0.congr (fun j _ => by simp [rowAt]), hb0⟩
  case round =>
    obtain ⟨k, hk, rfl, hrel, hrow, hbw⟩ := hrel
    clear hrow0 hb0 hs0
    have hgl := hrow.lt
    by_cases hkl : k < l.length
    · obtain ⟨x, hx⟩ : ∃ v, l[k] = v := ⟨_, rfl⟩
      have hX := (hv k hkl).keep hbw (Nat.le_refl _)
      rw [hx] at hX
      obtain ⟨h0, h1, h2, h3⟩ := hX
      have hxo := HOK.out x (hx ▸ List.getElem_mem hkl)
      obtain ⟨o, ho⟩ : ∃ o, x.chk = o := ⟨_, rfl⟩
      by_cases h00 : o = 0
      · have HK := Lib.hid (hrel.yes hkl hx (ho.trans h00))
        have HR := Lib.hid (rowAt_next hkl hx)
        have C := Lib.hid (text_zero x.k x.i x.u x.s (wr.alloc (.cells #[.int .i64 x.k, .int .i64 x.i, .int .u64 x.u, .string x.s] 25)) (ho.trans h00) hxo (HT.out _ (hbw.alloc hbw.size _)))
        clear hrel hx ho hxo
        subst h00
        go_wp2_with (go_at_call 48; refine (Of_any _ _ _).mono ?_; rintro e w' ⟨rfl, rfl⟩)
        refine C.out.mono ?_
        rintro e w3 ⟨rfl, hb3⟩
        have hrow3 : w3.rowIs w.heap.size 9 l.length (rowAt l k) := (hrow.alloc _).of_block (hb3.block _ (by simp; omega))
        have hc3 := hrow3.cell hkl
        have hf3 := hrow3.frozen k
        go_wp2_with (go_at_call 48; refine (Of_any _ _ _).mono ?_; rintro e w' ⟨rfl, rfl⟩)
        go_roundw
        case rel => exact ⟨k + 1, by omega, by go_num, HK.out, (hrow3.set k _).congr (fun j _ => HR.out j), (hbw.trans ((below_box hb3).mono hbw.size)).setCell (Nat.le_refl _) _⟩
        case measure => simp [intOf]; omega
      · have HK := Lib.hid (rowRes_bad ((hrel.no hkl hx (by omega)).trans ho) h00)
        have C := Lib.hid (text_err x.k x.i x.u x.s (wr.alloc (.cells #[.int .i64 x.k, .int .i64 x.i, .int .u64 x.u, .string x.s] 25)) o ho h00)
        clear hrel hx ho hxo h00
        go_wp2_with (go_at_call 48; refine (Of_any _ _ _).mono ?_; rintro e w' ⟨rfl, rfl⟩)
        refine C.out.mono ?_
        rintro e w3 ⟨bb, rfl, hc, hb3⟩
        have hbw3 : Below w.heap.size w w3 := hbw.trans ((below_box hb3).mono hbw.size)
        have E := Lib.hid (errno_err bb o w3 (HG.out w3 hbw3) hc)
        clear hb3 hc C
        go_wp2_with (first | (go_at_call 48; refine (Of_any _ _ _).mono ?_; rintro e w' ⟨rfl, rfl⟩) | (go_at_call 28; refine E.out.mono ?_; rintro e w4 ⟨rfl, hb4⟩))
        go_ret2
        exact ⟨by rw [HK.out]; rfl, hbw3.trans (hb4.mono hbw3.size)⟩
    · obtain rfl : k = l.length := by omega
      have HK := Lib.hid (rowRes_all (hrel.all rfl))
      have J := Tryz.strings_Join w.heap.size 0 l.length (l.map Vl.txt) ⟨#[44, 32]⟩ wr (fun j x hj => by
        have hjl : j < l.length := by have := (List.getElem?_eq_some_iff.1 hj).1; simpa using this
        have := hrow.cell hjl
        rw [Nat.zero_add, this]
        unfold rowAt
        rw [if_pos hjl, hj]
        rfl) hgl (by simp; omega) (by simp) (by
        have h1 := join_small l HOK.out
        simp at h1 ⊢
        omega)
      rw [List.length_map] at J
      have J' : Calls Tryz.prog 44 #[.slice (some ⟨w.heap.size, 0, none⟩) l.length l.length, .string ⟨#[44, 32]⟩] wr fun e w' => e = .returned (.string (rowText l)) ∧ Below wr.heap.size wr w' := J
      have HJ := Lib.hid J'
      clear J J' hrel
      go_wp2_with (first | (go_at_call 48; refine (Of_any _ _ _).mono ?_; rintro e w' ⟨rfl, rfl⟩) | (go_at_call 44; refine HJ.out.mono ?_; rintro e w4 ⟨rfl, hb4⟩))
      go_ret2
      exact ⟨by rw [HK.out]; rfl, hbw.trans (hb4.mono hbw.size)⟩

set_option maxRecDepth 100000 in
set_option maxHeartbeats 1000000 in
theorem Row_nil (w : World) :
    Calls Tryz.prog 21 #[.slice none 0 0] w fun e w' => e = .returned (rowRes []) ∧ Below w.heap.size w w' := by
  have hmk : ∀ W, (Instr.makeSlice 79 (.int .i64 0) (.int .i64 0)).run Tryz.prog W = .ok (.slice (some ⟨W.heap.size, 0, none⟩) 0 0) (W.alloc (.cells (madeCells #[.string ⟨#[]⟩] 0) 9)) :=
    run_make_row' 79 9 (.string ⟨#[]⟩) 16 Tryz.underlying79 infoStr rfl .i64 .i64 0 (by omega) (by omega)
  go_enter Tryz.func21, Tryz.ntmps21
  go_wp2
  go_loop [14] (fun i => i = .int .i64 0) (fun i => 0)
  case atStart => rfl
  case round =>
    subst hrel
    have J := Lib.hid (Tryz.strings_Join_none (some ⟨w.heap.size, 0, none⟩) 0 ⟨#[44, 32]⟩)
    go_wp2_with (first | (go_at_call 48; refine (Of_any _ _ _).mono ?_; rintro e w' ⟨rfl, rfl⟩) | (go_at_call 44; refine (J.out _).mono ?_; rintro e w' ⟨rfl, rfl⟩))
    go_ret2
    exact ⟨rfl, by go_grown⟩
theorem Row_any (v : Value) (l : List Vl) (w : World) (hv : SliceOf w v l) (hok : ∀ v ∈ l, v.ok) (hl : l.length ≤ 10) (ht : HasTab w) (hg : HasET w) :
    Calls Tryz.prog 21 #[v] w fun e w' => e = .returned (rowRes l) ∧ Below w.heap.size w w' := by
  rcases hv with ⟨rfl, rfl⟩ | ⟨a, cap, rfl, _, ha⟩
  · exact Row_nil w
  · exact Row_some a cap l w ha hok hl ht hg
end Go.Proofs.YtifmfcaaofiboaaGreatDoor
