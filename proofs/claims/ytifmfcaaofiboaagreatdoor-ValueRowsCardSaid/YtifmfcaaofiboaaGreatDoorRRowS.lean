/-
  swingbridgeref01.Row: the texts of values, a comma and a blank between.
-/
import Derived.Test.YtifmfcaaofiboaaGreatDoorRText
namespace Go.Proofs.YtifmfcaaofiboaaGreatDoor
open Go.RowKit

/-- the texts of the first ones -/
def accT (l : List Vl) (k : Nat) : ByteArray := rowText (l.take k)
theorem accT_zero (l : List Vl) : accT l 0 = ⟨#[]⟩ := rfl
theorem accT_all (l : List Vl) : accT l l.length = rowText l := by unfold accT; rw [List.take_length]
theorem accT_one {l : List Vl} {x : Vl} (h : 0 < l.length) (hx : l[0] = x) : accT l (0 + 1) = accT l 0 ++ x.txt := by
  apply ByteArray.ext
  unfold accT rowText
  rw [List.take_succ_eq_append_getElem h, hx]
  simp [Lib.join_one, Lib.join_nil]
theorem accT_next {l : List Vl} {k : Nat} {x : Vl} (h0 : 0 < k) (h : k < l.length) (hx : l[k] = x) : accT l (k + 1) = (accT l k ++ ⟨#[44, 32]⟩) ++ x.txt := by
  apply ByteArray.ext
  cases l with
  | nil => exact absurd h (by simp)
  | cons y r =>
    obtain ⟨k, rfl⟩ : ∃ j, k = j + 1 := ⟨k - 1, by omega⟩
    have hk : ((r.map Vl.txt).map (·.data.toList))[k]? = some x.txt.data.toList := by
      have hkr : k < r.length := by simp at h; omega
      have hxr : r[k] = x := by simpa using hx
      simp [List.getElem?_eq_getElem hkr, hxr]
    have := Lib.joinTail_take_succ [44, 32] ((r.map Vl.txt).map (·.data.toList)) k _ hk
    apply Array.ext'
    unfold accT rowText
    simp only [List.take_succ_cons, List.map_cons, Lib.join_cons, List.map_take, ByteArray.data_append, Array.toList_append, this, List.append_assoc]
theorem accT_size {l : List Vl} (hok : ∀ v ∈ l, v.ok) (hl : l.length ≤ 10) (k : Nat) : (accT l k).size ≤ 7020 := by
  have h := join_small (l.take k) (fun v hv => hok v (List.mem_of_mem_take hv))
  have h2 : (l.take k).length ≤ 10 := by simp; omega
  have h3 : (accT l k).size = (Lib.join (((l.take k).map Vl.txt).map (·.data.toList)) [44, 32]).length := by simp [accT, rowText, ByteArray.size]
  rw [h3]
  omega
set_option maxRecDepth 100000 in
set_option maxHeartbeats 1000000 in
theorem rRowS_some (a : Addr) (ca : Nat) (l : List Vl) (w : World) (hv : ValsAt w a l) (hok : ∀ v ∈ l, v.ok) (hl : l.length ≤ 10) (ht : HasTab w) :
    Calls Tryz.prog 22 #[.slice (some a) l.length ca] w fun e w' => e = .returned (rowRes l) ∧ Below w.heap.size w w' := by
  have ht' : ∀ W, Below w.heap.size w W → HasTab W := fun W hb => ht.below hb ht.lt
  have HT := Lib.hid ht'
  have HOK := Lib.hid hok
  clear ht ht' hok
  go_enter Tryz.func22, Tryz.ntmps22
  go_wp2
  go_loopw [4, 5] (fun t i wr => ∃ (k : Nat), k ≤ l.length ∧ t = .string (accT l k) ∧ i = .int .i64 k ∧ BRel l k ∧ Below w.heap.size w wr) (fun _ i _ => l.length - (intOf i).toNat)
  case atStart => exact ⟨0, by omega, rfl, rfl, rfl, Below.refl _ _⟩
  case round =>
    obtain ⟨k, hk, rfl, rfl, hrel, hbw⟩ := hrel
    by_cases hkl : k < l.length
    · obtain ⟨x, hx⟩ : ∃ v, l[k] = v := ⟨_, rfl⟩
      have hX := (hv k hkl).keep hbw (Nat.le_refl _)
      rw [hx] at hX
      obtain ⟨h0, h1, h2, h3⟩ := hX
      have hxo := HOK.out x (hx ▸ List.getElem_mem hkl)
      have hC := rText_any x.k x.i x.u x.s wr hxo (HT.out _ hbw)
      unfold rTextRes at hC
      have HX := Lib.hid hx
      by_cases h00 : x.chk = 0
      · rw [if_pos (show chk x.k x.i x.u x.s = 0 from h00)] at hC
        have C := Lib.hid hC
        have HK := Lib.hid (hrel.yes hkl hx h00)
        clear hrel hx hxo h00 hC
        have hs1 : (accT l k).size ≤ 7020 := accT_size HOK.out hl k
        have hs2 : (textOf x.k x.i x.u x.s).size ≤ 700 := by
          have h := txt_size x (HOK.out x (HX.out ▸ List.getElem_mem hkl))
          have e : (textOf x.k x.i x.u x.s).size = x.txt.data.toList.length := by rw [Array.length_toList]; rfl
          omega
        have HS2 : Hid ((⟨#[44, 32]⟩ : ByteArray).size = 2) := Lib.hid rfl
        have HA1 : Hid (∀ h : ¬ 0 < k, accT l k ++ textOf x.k x.i x.u x.s = accT l (k + 1)) := Lib.hid fun h => by
          obtain rfl : k = 0 := by omega
          exact (accT_one hkl HX.out).symm
        have HA2 : Hid (∀ h : 0 < k, (accT l k ++ ⟨#[44, 32]⟩) ++ textOf x.k x.i x.u x.s = accT l (k + 1)) := Lib.hid fun h => (accT_next h hkl HX.out).symm
        go_wp2_with (first | (go_at_call 18; refine C.out.mono ?_; rintro e w3 ⟨rfl, hb3⟩))
        all_goals try (exfalso; simp only [HS2.out] at *; omega)
        all_goals go_roundw
        all_goals first | (simp [intOf]; omega) | exact ⟨k + 1, by omega, by rw [HA2.out (by omega)], by go_num, HK.out, hbw.trans (hb3.mono hbw.size)⟩ | exact ⟨k + 1, by omega, by rw [HA1.out (by omega)], by go_num, HK.out, hbw.trans (hb3.mono hbw.size)⟩
      · rw [if_neg (show ¬ chk x.k x.i x.u x.s = 0 from h00)] at hC
        have C := Lib.hid hC
        have HK := Lib.hid (rowRes_bad (hrel.no hkl hx h00) h00)
        have HN : Hid (chk x.k x.i x.u x.s ≠ 0) := Lib.hid h00
        have hch : x.chk = chk x.k x.i x.u x.s := rfl
        rw [hch] at HK
        generalize chk x.k x.i x.u x.s = nn at *
        clear hrel hx hxo hC hch
        have hnn := HN.out
        go_wp2_with (first | (go_at_call 18; refine C.out.mono ?_; rintro e w3 ⟨rfl, hb3⟩))
        go_ret2
        exact ⟨by rw [HK.out]; rfl, hbw.trans (hb3.mono hbw.size)⟩
    · obtain rfl : k = l.length := by omega
      have HK := Lib.hid (rowRes_all (hrel.all rfl))
      clear hrel
      go_wp2_with fail
      go_ret2
      exact ⟨by rw [HK.out, ← accT_all]; rfl, hbw⟩
theorem rRowS_nil (w : World) :
    Calls Tryz.prog 22 #[.slice none 0 0] w fun e w' => e = .returned (rowRes []) ∧ Below w.heap.size w w' := by
  go_enter Tryz.func22, Tryz.ntmps22
  go_wp2
  go_loop [4, 5] (fun t i => t = .string ⟨#[]⟩ ∧ i = .int .i64 0) (fun _ _ => 0)
  case atStart => exact ⟨rfl, rfl⟩
  case round =>
    obtain ⟨rfl, rfl⟩ := hrel
    go_wp2_with fail
    go_ret2
    exact ⟨rfl, Below.refl _ _⟩
theorem rRowS_any (v : Value) (l : List Vl) (w : World) (hv : SliceOf w v l) (hok : ∀ v ∈ l, v.ok) (hl : l.length ≤ 10) (ht : HasTab w) :
    Calls Tryz.prog 22 #[v] w fun e w' => e = .returned (rowRes l) ∧ Below w.heap.size w w' := by
  rcases hv with ⟨rfl, rfl⟩ | ⟨a, cap, rfl, _, ha⟩
  · exact rRowS_nil w
  · exact rRowS_some a cap l w ha hok hl ht
end Go.Proofs.YtifmfcaaofiboaaGreatDoor
