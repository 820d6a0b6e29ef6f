/-
  key's reader: value; where keys begin.
-/
import Derived.Test.YtcedeipmboekaaaGreatDoorKGrps
namespace Go.Proofs.YtcedeipmboekaaaGreatDoor
open Go.RowKit

/-- the value that stands behind a Kind's number -/
def bodyK (k : Nat) (l : List UInt8) : Option (Vl × Nat) :=
  if k = 0 then some (val0, 0)
  else if k = 1 then (if 8 ≤ l.length then some (⟨1, (valOf (l.take 8) 0 : Nat) - 9223372036854775808, 0, ⟨#[]⟩⟩, 8) else none)
  else if k = 2 then (match readN l with | some (n, j) => some (⟨2, 0, n, ⟨#[]⟩⟩, j) | none => none)
  else if k = 3 then (match l with
    | x :: _ => if x.toNat ≤ 1 then some (⟨3, x.toNat, 0, ⟨#[]⟩⟩, 1) else none
    | [] => none)
  else if k = 4 then bytesR (readG 30 l 0)
  else none
theorem readKey_body (x : UInt8) (t : List UInt8) : readKey (x :: t) = (bodyK x.toNat t).map (fun y => (y.1, 1 + y.2)) := by
  have hx : ∀ n : Nat, n < 256 → (x = UInt8.ofNat n ↔ x.toNat = n) := fun n hn => ⟨fun h => by rw [h, UInt8.toNat_ofNat']; omega, fun h => by rw [← h]; simp⟩
  unfold bodyK
  by_cases h0 : x.toNat = 0
  · obtain rfl := (hx 0 (by decide)).2 h0
    rfl
  by_cases h1 : x.toNat = 1
  · obtain rfl := (hx 1 (by decide)).2 h1
    rw [if_neg h0, if_pos h1]
    show readKey (1 :: t) = _
    rw [readKey_1]
    split <;> rfl
  by_cases h2 : x.toNat = 2
  · obtain rfl := (hx 2 (by decide)).2 h2
    rw [if_neg h0, if_neg h1, if_pos h2]
    show readKey (2 :: t) = _
    rw [readKey_2]
    cases readN t with
    | none => rfl
    | some y => obtain ⟨n, j⟩ := y; rfl
  by_cases h3 : x.toNat = 3
  · obtain rfl := (hx 3 (by decide)).2 h3
    rw [if_neg h0, if_neg h1, if_neg h2, if_pos h3]
    cases t with
    | nil => rfl
    | cons y t =>
      show readKey (3 :: y :: t) = _
      rw [readKey_3]
      show _ = Option.map _ (if y.toNat ≤ 1 then _ else _)
      split <;> rfl
  by_cases h4 : x.toNat = 4
  · obtain rfl := (hx 4 (by decide)).2 h4
    rw [if_neg h0, if_neg h1, if_neg h2, if_neg h3, if_pos h4]
    show readKey (4 :: t) = _
    rw [readKey_4]
    cases readG 30 t 0 with
    | none => rfl
    | some y => obtain ⟨n, j⟩ := y; rfl
  · rw [if_neg h0, if_neg h1, if_neg h2, if_neg h3, if_neg h4]
    show readKey (x :: t) = none
    simp only [readKey]
    rw [if_neg (fun h => h0 (by rw [h]; rfl)), if_neg (fun h => h1 (by rw [h]; rfl)), if_neg (fun h => h2 (by rw [h]; rfl)), if_neg (fun h => h3 (by rw [h]; rfl)), if_neg (fun h => h4 (by rw [h]; rfl))]
theorem key_miss (k : Int) (hk : k < 0 ∨ 4 < k) : Instr.findNow (.int .i64) (.int .i64 k) keyKinds.toList 0 = some none := by
  have h0 : (k == 0) = false := by rw [beq_eq_false_iff_ne]; omega
  have h1 : (k == 1) = false := by rw [beq_eq_false_iff_ne]; omega
  have h2 : (k == 2) = false := by rw [beq_eq_false_iff_ne]; omega
  have h3 : (k == 3) = false := by rw [beq_eq_false_iff_ne]; omega
  have h4 : (k == 4) = false := by rw [beq_eq_false_iff_ne]; omega
  simp [keyKinds, Instr.findNow, Instr.sameNow, h0, h1, h2, h3, h4]
theorem find_r (k : Int) (f g : Nat) (j : Nat) (h : Instr.findNow (.int .i64) (.int .i64 k) keyKinds.toList 0 = some (some (j, kw2 f g))) {w : World} {r : Nat} (hb : w.heap[r]? = some (.map keyKinds 5)) :
    (Instr.lookup 53 (.map (some r)) (.int .i64 k) true).run Tryz.prog w = .ok (.tuple #[.agg #[.func (.func f) #[] #[], .func (.func g) #[] #[]], .bool true]) w := key_found hb h
theorem valOf_one (x : UInt8) : valOf [x] 0 = x.toNat := by simp [valOf]
theorem read_in (k : Nat) (hk : k ≤ 4) : ∃ f g, (∀ (w : World) (r : Nat), w.heap[r]? = some (.map keyKinds 5) → (Instr.lookup 53 (.map (some r)) (.int .i64 (k : Int)) true).run Tryz.prog w = .ok (.tuple #[.agg #[.func (.func f) #[] #[], .func (.func g) #[] #[]], .bool true]) w) ∧ (∀ a W, (callFunc g a).run Tryz.prog W = .ok (.enter g a) W) ∧ ∀ R m s i W, RdK W R m s i → s.size ≤ 1000000 → i ≤ s.size → Calls Tryz.prog g #[.pointer (some ⟨R, 0, none⟩)] W (KBody W R m s i (bodyK k (s.data.toList.drop i))) := by
  rcases (show k = 0 ∨ k = 1 ∨ k = 2 ∨ k = 3 ∨ k = 4 by omega) with rfl | rfl | rfl | rfl | rfl
  · exact ⟨41, 42, fun w r hb => find_r 0 _ _ 0 rfl hb, enters_of Tryz.func42 (by kernel_rfl) rfl, fun R m s i W hr _ _ => qreadNull_any R m s i W hr⟩
  · refine ⟨43, 44, fun w r hb => find_r 1 _ _ 1 rfl hb, enters_of Tryz.func44 (by kernel_rfl) rfl, fun R m s i W hr hs hi => ?_⟩
    have hl : (s.data.toList.drop i).length = s.size - i := by rw [List.length_drop]; rfl
    unfold bodyK
    rw [if_neg (by decide), if_pos rfl]
    by_cases h8 : 8 ≤ (s.data.toList.drop i).length
    · rw [if_pos h8]
      exact qreadInt_yes R m s i W hr hs (by omega)
    · rw [if_neg h8]
      exact qreadInt_no R m s i W hr hs hi (by omega)
  · refine ⟨45, 46, fun w r hb => find_r 2 _ _ 2 rfl hb, enters_of Tryz.func46 (by kernel_rfl) rfl, fun R m s i W hr hs hi => ?_⟩
    unfold bodyK
    rw [if_neg (by decide), if_neg (by decide), if_pos rfl]
    have := qreadUint_any R m s i W hr hs hi
    cases hrd : readN (s.data.toList.drop i) with
    | none => rw [hrd] at this; exact this
    | some y => obtain ⟨n, j⟩ := y; rw [hrd] at this; exact this
  · refine ⟨47, 48, fun w r hb => find_r 3 _ _ 3 rfl hb, enters_of Tryz.func48 (by kernel_rfl) rfl, fun R m s i W hr hs hi => ?_⟩
    have hl : (s.data.toList.drop i).length = s.size - i := by rw [List.length_drop]; rfl
    unfold bodyK
    rw [if_neg (by decide), if_neg (by decide), if_neg (by decide), if_pos rfl]
    cases hd : s.data.toList.drop i with
    | nil =>
      rw [hd] at hl
      obtain rfl : i = s.size := by simp at hl; omega
      exact qreadBool_no R m s W hr hs
    | cons x t =>
      rw [hd] at hl
      simp at hl
      have hv : valOf (cutS s i 1) 0 = x.toNat := by unfold cutS; rw [hd]; exact valOf_one x
      show Calls Tryz.prog _ _ W (KBody W R m s i (if x.toNat ≤ 1 then some (⟨3, x.toNat, 0, ⟨#[]⟩⟩, 1) else none))
      by_cases hx : x.toNat ≤ 1
      · rw [if_pos hx]
        exact qreadBool_yes R m s i W hr hs (by omega) x.toNat hv hx
      · rw [if_neg hx]
        exact qreadBool_big R m s i W hr hs (by omega) x.toNat hv (by omega) x.toNat_lt
  · refine ⟨49, 50, fun w r hb => find_r 4 _ _ 4 rfl hb, enters_of Tryz.func50 (by kernel_rfl) rfl, fun R m s i W hr hs hi => ?_⟩
    exact qreadBytes_any R m s i W hr hs hi
set_option maxRecDepth 100000 in
set_option maxHeartbeats 2000000 in
theorem qvalue_any (k R m : Nat) (s : ByteArray) (i : Nat) (w : World) (hk : k < 256) (hr : RdK w R m s i) (hs : s.size ≤ 1000000) (hi : i ≤ s.size) :
    Calls Tryz.prog 30 #[.pointer (some ⟨R, 0, none⟩), .int .i64 k] w (KBody w R m s i (bodyK k (s.data.toList.drop i))) := by
  have hR := hr.lt
  have hM := hr.mlt
  obtain ⟨h0, h1, h2, h3, h4, h5⟩ := hr.alloc (.cells #[.int .i64 0, .int .i64 0, .int .u64 0, .string ⟨#[]⟩] 42)
  by_cases hk4 : k ≤ 4
  · obtain ⟨f, g, hlk, hent, hrd⟩ := read_in k hk4
    have hl := hlk _ m h4
    have HRD := Lib.hid (fun o => hrd R m s i _ ((hr.alloc (.cells #[.int .i64 0, .int .i64 0, .int .u64 0, .string ⟨#[]⟩] 42)).alloc o) hs hi)
    obtain ⟨O, hO⟩ : ∃ O, bodyK k (s.data.toList.drop i) = O := ⟨_, rfl⟩
    rw [hO] at HRD ⊢
    clear hlk hrd h0 h1 h3 h4 h5 hr hO
    cases O with
    | none =>
      go_enter Tryz.func30, Tryz.ntmps30
      go_wp2_with fail
      refine (HRD.out _).mono ?_
      rintro e w1 ⟨⟨t, rfl⟩, hg⟩
      exact ⟨rfl, ⟨_, rfl⟩, ((World.grownBy_alloc w _ _).trans (World.grownBy_alloc _ _ _)).trans hg⟩
    | some y =>
      obtain ⟨v, n⟩ := y
      go_enter Tryz.func30, Tryz.ntmps30
      go_wp2_with fail
      refine (HRD.out _).mono ?_
      rintro e w1 ⟨rfl, hr1, hg1⟩
      have hg2 := (World.grownBy_alloc (w.alloc (.cells #[.int .i64 0, .int .i64 0, .int .u64 0, .string ⟨#[]⟩] 42)) _ (some R)).trans hg1
      obtain ⟨c0, c1, c2, c3, fr⟩ := resK hR hg2
      have HP := Lib.hid (fun a b c d => kgot_res (x := v.val) (a := a) (b := b) (c := c) (d := d) hR hM hr1 hg2)
      clear hr1 hg1 hg2
      simp only [Vl.val]
      go_wp2_with fail
      exact bodyPost_ret (v := .agg #[.int .i64 v.k, .int .i64 v.i, .int .u64 v.u, .string v.s]) (by simp [results, Tryz.results30, go_sem, c0, c1, c2, c3]) rfl (HP.out _ _ _ _)
  · have hb : bodyK k (s.data.toList.drop i) = none := by unfold bodyK; rw [if_neg (by omega), if_neg (by omega), if_neg (by omega), if_neg (by omega), if_neg (by omega)]
    rw [hb]
    have hl := key_not (k := (k : Int)) h4 (key_miss k (by omega))
    clear h0 h1 h3 h4 h5 hr hb
    go_enter Tryz.func30, Tryz.ntmps30
    go_wp2_with fail
    exact ⟨rfl, ⟨_, rfl⟩, (World.grownBy_alloc w _ _).trans (World.grownBy_alloc _ _ _)⟩
end Go.Proofs.YtcedeipmboekaaaGreatDoor
