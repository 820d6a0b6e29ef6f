/-
  key: numbers are read.
-/
import Derived.Test.YtcedeipmboekaaaGreatDoorKRd
import Derived.Test.YtcedeipmboekaaaGreatDoorKLayB
import Derived.Test.YtcedeipmboekaaaGreatDoorOctA
namespace Go.Proofs.YtcedeipmboekaaaGreatDoor
open Go.RowKit

theorem RdK.grown {w1 w' : World} {R m i : Nat} {s : ByteArray} (h : RdK w1 R m s i) (hb : Below w1.heap.size w1 w') : RdK w' R m s i := h.keep hb
theorem cutS_eq (s : ByteArray) (i k : Nat) (h : i + k ≤ s.size) : (cutS s i k).length = k := by rw [cutS_length]; omega
set_option maxRecDepth 100000 in
set_option maxHeartbeats 1000000 in
theorem qfixedK_yes (R m : Nat) (s : ByteArray) (i k : Nat) (w : World) (hr : RdK w R m s i) (hs : s.size ≤ 1000000) (h1 : 1 ≤ k) (h8 : k ≤ 8) (hi : i + k ≤ s.size) :
    Calls Tryz.prog 54 #[.pointer (some ⟨R, 0, none⟩), .int .i64 k] w (KGot w R m s (i + k) (.int .i64 (wrap64 (valOf (cutS s i k) 0 : Nat)))) := by
  have HT := Lib.hid (qtake_yes R m s i k w hr hs hi)
  have hlen := cutS_eq s i k hi
  obtain ⟨l, hl⟩ : ∃ l, cutS s i k = l := ⟨_, rfl⟩
  rw [hl] at HT hlen ⊢
  clear hr hl
  subst hlen
  obtain ⟨n, hn⟩ : ∃ n, valOf l 0 = n := ⟨_, rfl⟩
  rw [hn]
  have HNN := Lib.hid hn
  clear hn
  go_enter Tryz.func54, Tryz.ntmps54
  go_wp2_with fail
  refine HT.out.mono ?_
  rintro e w1 ⟨rfl, hr1, hg1⟩
  obtain ⟨cap, w2, hcv, hcap, hcells, hb2, _⟩ := conv_bytes 87 Tryz.underlying87 ⟨l.toArray⟩ w1
  rw [mk_size] at hcv hcap
  have hby : BytesAt w2 (.slice (some ⟨w1.heap.size, 0, none⟩) l.length cap) l := ⟨_, cap, rfl, hcap, fun j hj => ⟨_, rfl, by
    have := hcells j (by simpa using hj)
    rw [Addr.add_lit, Nat.zero_add]
    simpa using this⟩⟩
  have HF := ReadFixed_any _ l w2 hby (by omega)
  rw [if_pos (by omega)] at HF
  have HFF := Lib.hid HF
  have HP := Lib.hid (show KGot w R m s (i + l.length) (.int .i64 (wrap64 (valOf l 0 : Nat))) (.returned (.int .i64 (wrap64 (valOf l 0 : Nat)))) w2 from ⟨rfl, hr1.keep hb2, hg1.trans (kgrown_below hb2 _)⟩)
  rw [HNN.out] at HFF HP
  obtain ⟨t, ht⟩ : ∃ t : ByteArray, (⟨l.toArray⟩ : ByteArray) = t := ⟨_, rfl⟩
  rw [ht] at hcv ⊢
  clear ht hr1 hg1 hcap hcells hb2 hby HF HT
  go_wp2_with fail
  refine HFF.out.mono ?_
  rintro e w3 ⟨rfl, rfl⟩
  go_wp2_with fail
  go_ret
  exact HP.out
set_option maxRecDepth 100000 in
set_option maxHeartbeats 1000000 in
theorem qfixedI_yes (R m : Nat) (s : ByteArray) (i k : Nat) (w : World) (hr : RdK w R m s i) (hs : s.size ≤ 1000000) (h1 : 1 ≤ k) (h8 : k ≤ 8) (hi : i + k ≤ s.size) :
    Calls Tryz.prog 61 #[.pointer (some ⟨R, 0, none⟩), .int .i64 k] w (KGot w R m s (i + k) (.int .i64 (wrap64 (valOf (cutS s i k) 0 : Nat)))) := by
  have HT := Lib.hid (qtake_yes R m s i k w hr hs hi)
  have hlen := cutS_eq s i k hi
  obtain ⟨l, hl⟩ : ∃ l, cutS s i k = l := ⟨_, rfl⟩
  rw [hl] at HT hlen ⊢
  clear hr hl
  subst hlen
  obtain ⟨n, hn⟩ : ∃ n, valOf l 0 = n := ⟨_, rfl⟩
  rw [hn]
  have HNN := Lib.hid hn
  clear hn
  go_enter Tryz.func61, Tryz.ntmps61
  go_wp2_with fail
  refine HT.out.mono ?_
  rintro e w1 ⟨rfl, hr1, hg1⟩
  obtain ⟨cap, w2, hcv, hcap, hcells, hb2, _⟩ := conv_bytes 87 Tryz.underlying87 ⟨l.toArray⟩ w1
  rw [mk_size] at hcv hcap
  have hby : BytesAt w2 (.slice (some ⟨w1.heap.size, 0, none⟩) l.length cap) l := ⟨_, cap, rfl, hcap, fun j hj => ⟨_, rfl, by
    have := hcells j (by simpa using hj)
    rw [Addr.add_lit, Nat.zero_add]
    simpa using this⟩⟩
  have HF := ReadFixed_any _ l w2 hby (by omega)
  rw [if_pos (by omega)] at HF
  have HFF := Lib.hid HF
  have HP := Lib.hid (show KGot w R m s (i + l.length) (.int .i64 (wrap64 (valOf l 0 : Nat))) (.returned (.int .i64 (wrap64 (valOf l 0 : Nat)))) w2 from ⟨rfl, hr1.keep hb2, hg1.trans (kgrown_below hb2 _)⟩)
  rw [HNN.out] at HFF HP
  obtain ⟨t, ht⟩ : ∃ t : ByteArray, (⟨l.toArray⟩ : ByteArray) = t := ⟨_, rfl⟩
  rw [ht] at hcv ⊢
  clear ht hr1 hg1 hcap hcells hb2 hby HF HT
  go_wp2_with fail
  refine HFF.out.mono ?_
  rintro e w3 ⟨rfl, rfl⟩
  go_wp2_with fail
  go_ret
  exact HP.out
set_option maxRecDepth 100000 in
set_option maxHeartbeats 1000000 in
theorem qfixedI_no (R m : Nat) (s : ByteArray) (i k : Nat) (w : World) (hr : RdK w R m s i) (hs : s.size ≤ 1000000) (h8 : k ≤ 8) (hi : i ≤ s.size) (hik : s.size < i + k) :
    Calls Tryz.prog 61 #[.pointer (some ⟨R, 0, none⟩), .int .i64 k] w (KGone w R) := by
  have HT := Lib.hid (qtake_no R m s i k w hr hs hi (by omega) hik)
  clear hr
  go_enter Tryz.func61, Tryz.ntmps61
  go_wp2_with fail
  refine HT.out.mono ?_
  rintro e w1 ⟨⟨t, rfl⟩, hg⟩
  exact ⟨rfl, ⟨_, rfl⟩, hg⟩
/-- a number has at most nine bytes -/
theorem readN_take9 (l : List UInt8) : readN (l.take 9) = readN l := by
  cases l with
  | nil => rfl
  | cons x t =>
    rw [List.take_succ_cons, readN_cons, readN_cons]
    by_cases h8 : x.toNat ≤ 8
    · have e1 : (t.take 8).head? = t.head? := by cases t <;> simp
      have e2 : (t.take 8).take x.toNat = t.take x.toNat := by rw [List.take_take, Nat.min_eq_left h8]
      have e3 : x.toNat ≤ (t.take 8).length ↔ x.toNat ≤ t.length := by rw [List.length_take]; omega
      rw [e1, e2]
      by_cases hc : x.toNat ≤ 8 ∧ x.toNat ≤ t.length ∧ ¬ (0 < x.toNat ∧ t.head? = some 0)
      · rw [if_pos hc, if_pos ⟨hc.1, e3.2 hc.2.1, hc.2.2⟩]
      · rw [if_neg hc, if_neg (fun h => hc ⟨h.1, e3.1 h.2.1, h.2.2⟩)]
    · rw [if_neg (fun h => h8 h.1), if_neg (fun h => h8 h.1)]
theorem readN_k {l : List UInt8} {n k : Nat} (h : readN l = some (n, k)) : k ≤ 9 ∧ k ≤ l.length := by
  cases l with
  | nil => cases h
  | cons x t =>
    rw [readN_cons] at h
    split at h
    · rename_i hc
      simp only [Option.some.injEq, Prod.mk.injEq] at h
      obtain ⟨_, rfl⟩ := h
      rw [List.length_cons]
      omega
    · cases h
theorem kgot_at {w w3 : World} {R m i k : Nat} {s : ByteArray} {x : Value} (hr : RdK w3 R m s i) (hg : w.grownBy w3 (some R)) : KGot w R m s k x (.returned x) (w3.setCell ⟨R, 1, none⟩ (.int .i64 k)) := by
  obtain ⟨_, h1, h2⟩ := kgot_set (q := 0) (k := k) (x := x) hr
  exact ⟨rfl, h1, hg.trans h2⟩
theorem rdRes_someK (n k : Nat) : rdRes (some (n, k)) = .tuple #[.int .u64 n, .int .i64 k, .int .i64 0] := rfl
set_option maxRecDepth 100000 in
set_option maxHeartbeats 1000000 in
theorem qnumber_yes (R m : Nat) (s : ByteArray) (i n k : Nat) (w : World) (hr : RdK w R m s i) (hs : s.size ≤ 1000000) (hi : i ≤ s.size) (hrd : readN (s.data.toList.drop i) = some (n, k)) :
    Calls Tryz.prog 63 #[.pointer (some ⟨R, 0, none⟩)] w (KGot w R m s (i + k) (.int .u64 n)) := by
  have HR := Lib.hid hr
  obtain ⟨h0, h1, h2, h3, h4, h5⟩ := hr
  have HC := Lib.hid (fun w => qpiece_any s i 9 w hs hi (by decide))
  obtain ⟨l, hl⟩ : ∃ l, cutS s i 9 = l := ⟨_, rfl⟩
  have hr9 : readN l = some (n, k) := by rw [← hl]; unfold cutS; rw [readN_take9, hrd]
  have hll : l.length ≤ 9 := by rw [← hl, cutS_length]; omega
  rw [hl] at HC
  obtain ⟨cap, w2, hcv, hcap, hcells, hb2, _⟩ := conv_bytes 87 Tryz.underlying87 ⟨l.toArray⟩ w.drew
  rw [mk_size] at hcv hcap
  have hby : BytesAt w2 (.slice (some ⟨w.drew.heap.size, 0, none⟩) l.length cap) l := ⟨_, cap, rfl, hcap, fun j hj => ⟨_, rfl, by
    have := hcells j (by simpa using hj)
    rw [Addr.add_lit, Nat.zero_add]
    simpa using this⟩⟩
  have HN := ReadNumber_any _ l w2 hby (by omega)
  rw [hr9, rdRes_someK] at HN
  have HNN := Lib.hid HN
  have HB2 := Lib.hid (show Below w.heap.size w w2 from ((Below.refl w.heap.size w).drew).trans hb2)
  obtain ⟨t, ht⟩ : ∃ t : ByteArray, (⟨l.toArray⟩ : ByteArray) = t := ⟨_, rfl⟩
  rw [ht] at hcv HC
  have hki := readN_k hrd
  rw [List.length_drop, Array.length_toList] at hki
  have hki2 : i + k ≤ s.size := by have : s.data.size = s.size := rfl; omega
  have HKP : Hid (∀ w3, Below w2.heap.size w2 w3 → w3.cell? ⟨R, 1, none⟩ = some (.int .i64 i) ∧ w3.frozen? ⟨R, 1, none⟩ = false ∧ Hid (KGot w R m s (i + k) (.int .u64 n) (.returned (.int .u64 n)) (w3.setCell ⟨R, 1, none⟩ (.int .i64 ((i + k : Nat) : Int))))) := Lib.hid fun w3 hb3 => by
    have hb : Below w.heap.size w w3 := HB2.out.trans (hb3.mono HB2.out.size)
    have hr3 := HR.out.keep hb
    exact ⟨hr3.pos, hr3.free, Lib.hid (kgot_at hr3 (kgrown_below hb _))⟩
  clear hl hr9 hrd h2 h4 h5 hcells hb2 hby HN ht hcap hll
  go_enter Tryz.func63, Tryz.ntmps63
  go_wp2_with fail
  go_region_with (first | (go_at_call 94; refine (HC.out _).mono ?_; rintro e w' ⟨rfl, rfl⟩) | (go_at_call 93; refine HNN.out.mono ?_; rintro e w3 ⟨rfl, hb3⟩; obtain ⟨q1, q2, HG3⟩ := HKP.out w3 hb3; clear hb3))
  all_goals
    go_wp2_with fail
    go_ret
    exact HG3.out
end Go.Proofs.YtcedeipmboekaaaGreatDoor
namespace Go.Proofs.YtcedeipmboekaaaGreatDoor
open Go.RowKit

theorem rdRes_noneK : rdRes none = .tuple #[.int .u64 0, .int .i64 0, .int .i64 120] := rfl
set_option maxRecDepth 100000 in
set_option maxHeartbeats 1000000 in
theorem qnumber_no (R m : Nat) (s : ByteArray) (i : Nat) (w : World) (hr : RdK w R m s i) (hs : s.size ≤ 1000000) (hi : i ≤ s.size) (hrd : readN (s.data.toList.drop i) = none) :
    Calls Tryz.prog 63 #[.pointer (some ⟨R, 0, none⟩)] w (KGone w R) := by
  obtain ⟨h0, h1, h2, h3, h4, h5⟩ := hr
  have HC := Lib.hid (fun w => qpiece_any s i 9 w hs hi (by decide))
  obtain ⟨l, hl⟩ : ∃ l, cutS s i 9 = l := ⟨_, rfl⟩
  have hr9 : readN l = none := by rw [← hl]; unfold cutS; rw [readN_take9, hrd]
  have hll : l.length ≤ 9 := by rw [← hl, cutS_length]; omega
  rw [hl] at HC
  obtain ⟨cap, w2, hcv, hcap, hcells, hb2, _⟩ := conv_bytes 87 Tryz.underlying87 ⟨l.toArray⟩ w.drew
  rw [mk_size] at hcv hcap
  have hby : BytesAt w2 (.slice (some ⟨w.drew.heap.size, 0, none⟩) l.length cap) l := ⟨_, cap, rfl, hcap, fun j hj => ⟨_, rfl, by
    have := hcells j (by simpa using hj)
    rw [Addr.add_lit, Nat.zero_add]
    simpa using this⟩⟩
  have HN := ReadNumber_any _ l w2 hby (by omega)
  rw [hr9, rdRes_noneK] at HN
  have HNN := Lib.hid HN
  have HB2 := Lib.hid (show Below w.heap.size w w2 from ((Below.refl w.heap.size w).drew).trans hb2)
  obtain ⟨t, ht⟩ : ∃ t : ByteArray, (⟨l.toArray⟩ : ByteArray) = t := ⟨_, rfl⟩
  rw [ht] at hcv HC
  have HKP : Hid (∀ w3, Below w2.heap.size w2 w3 → w.grownBy w3 (some R)) := Lib.hid fun w3 hb3 => kgrown_below (HB2.out.trans (hb3.mono HB2.out.size)) _
  clear hl hr9 hrd h2 h4 h5 hcells hb2 hby HN ht hcap hll
  go_enter Tryz.func63, Tryz.ntmps63
  go_wp2_with fail
  go_region_with (first | (go_at_call 94; refine (HC.out _).mono ?_; rintro e w' ⟨rfl, rfl⟩) | (go_at_call 93; refine HNN.out.mono ?_; rintro e w3 ⟨rfl, hb3⟩; have HG3 := Lib.hid (HKP.out w3 hb3); clear hb3))
  all_goals
    go_wp2_with fail
    exact ⟨rfl, ⟨_, rfl⟩, HG3.out⟩
end Go.Proofs.YtcedeipmboekaaaGreatDoor
