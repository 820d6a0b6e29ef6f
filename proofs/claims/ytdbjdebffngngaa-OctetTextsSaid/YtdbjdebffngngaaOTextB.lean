/-
  octet.ReadText; swingbridgeref02: Text, ReadText.
-/
import Derived.Test.YtdbjdebffngngaaORefB
namespace Go.Proofs.Ytdbjdebffngngaa
open Go.RowKit

/-- the text with whose bytes l begins, and how many these are in all -/
def readT (l : List UInt8) : Option (List UInt8 × Nat) :=
  match readN l with
  | none => none
  | some (n, k) => if k + n ≤ l.length then some ((l.drop k).take n, k + n) else none
def rtRes : Option (List UInt8 × Nat) → Value
  | some (t, k) => .tuple #[.string ⟨t.toArray⟩, .int .i64 k, .int .i64 0]
  | none => .tuple #[.string ⟨#[]⟩, .int .i64 0, .int .i64 120]

set_option maxRecDepth 100000 in
set_option maxHeartbeats 1000000 in
theorem rtext_none (R : Nat) (oa : Option Addr) (cap : Nat) (l : List UInt8) (w : World) (hr : Rd w R (.slice oa l.length cap) 0) (hb : BelowAt w R oa l) (hn : l.length ≤ 1000000) (hc : l.length ≤ cap) (h : readT l = none) :
    Calls Try.prog 32 #[.pointer (some ⟨R, 0, none⟩)] w fun e w' => e = .returned (.tuple #[.slice none 0 0, .bool false]) ∧ Below R w w' := by
  unfold readT at h
  cases hN : readN l with
  | none =>
    have HC := Lib.hid (num_none R oa cap 0 l w hr hb hn hc (by omega) hN)
    clear h hN hb hr
    go_enter Try.func32, Try.ntmps32
    go_wp2_with (first | (go_at_call 26; refine HC.out.mono ?_; rintro e w1 ⟨rfl, k, hw⟩; have HW := Lib.hid hw; clear hw))
    go_ret2
    exact ⟨rfl, HW.out.2⟩
  | some x =>
    obtain ⟨n, k⟩ := x
    rw [hN] at h
    simp only at h
    have hlt := readN_lt hN
    split at h
    · cases h
    · rename_i hno
      have C := num_some R oa cap 0 l w n k hr hb hn hc hN
      rw [Nat.zero_add] at C
      have HC := Lib.hid C
      have hn64 : (n : Int) ≤ 18446744073709551615 := by omega
      have H64 := Lib.hid hlt.1
      have hkl := hlt.2.2.2
      have hno' : l.length < k + n := by omega
      clear h hN hb hr hlt C hno
      go_enter Try.func32, Try.ntmps32
      go_wp2_with fail
      refine HC.out.mono ?_
      rintro e w1 ⟨rfl, hw⟩
      have HC2 := Lib.hid (take_no R oa l.length cap k n w1 hw.1 hn hkl hno' H64.out)
      have HW := Lib.hid hw
      clear hw
      go_wp2_with fail
      refine HC2.out.mono ?_
      rintro e w2 ⟨rfl, hw2⟩
      have HW2 := Lib.hid (HW.out.trans hw2)
      clear hw2
      go_wp2_with fail
      go_ret2
      exact ⟨rfl, HW2.out.2⟩
set_option maxRecDepth 100000 in
set_option maxHeartbeats 1000000 in
theorem rtext_some (R : Nat) (oa : Option Addr) (cap n k : Nat) (l : List UInt8) (w : World) (hr : Rd w R (.slice oa l.length cap) 0) (hb : BelowAt w R oa l) (hn : l.length ≤ 1000000) (hc : l.length ≤ cap) (hN : readN l = some (n, k)) (hfit : k + n ≤ l.length) :
    Calls Try.prog 32 #[.pointer (some ⟨R, 0, none⟩)] w fun e w' => e = .returned (.tuple #[pieceV oa k n, .bool true]) ∧ RdTo w R (.slice oa l.length cap) (k + n) w' := by
  have hlt := readN_lt hN
  have C := num_some R oa cap 0 l w n k hr hb hn hc hN
  rw [Nat.zero_add] at C
  have HC := Lib.hid C
  have hn64 : (n : Int) ≤ 18446744073709551615 := by omega
  have hp : pieceV oa k n = .slice (if n = 0 then oa else oa.map (·.add k)) n n := rfl
  obtain ⟨ob, hob⟩ : ∃ ob, (if n = 0 then oa else oa.map (·.add k)) = ob := ⟨_, rfl⟩
  rw [hob] at hp
  rw [hp]
  have HP := Lib.hid hp
  clear hN hb hr hlt C hob hp
  go_enter Try.func32, Try.ntmps32
  go_wp2_with fail
  refine HC.out.mono ?_
  rintro e w1 ⟨rfl, hw⟩
  have C2 := take_yes R oa l.length cap k n w1 hw.1 hn hc hfit
  rw [HP.out] at C2
  have HC2 := Lib.hid C2
  have HW := Lib.hid hw
  clear hw C2
  go_wp2_with fail
  refine HC2.out.mono ?_
  rintro e w2 ⟨rfl, hw2⟩
  have HW2 := Lib.hid (HW.out.trans hw2)
  clear hw2
  go_wp2_with fail
  go_ret2
  exact ⟨rfl, HW2.out⟩

set_option maxRecDepth 100000 in
set_option maxHeartbeats 1000000 in
theorem ReadText_any (v : Value) (l : List UInt8) (w : World) (hv : BytesAt w v l) (hn : l.length ≤ 1000000) :
    Calls Try.prog 16 #[v] w fun e w' => e = .returned (rtRes (readT l)) ∧ Below w.heap.size w w' := by
  have hv' := hv
  obtain ⟨oa, cap, rfl, hc, _⟩ := hv'
  have hb := BelowAt.of (w' := w.alloc (.cells #[.slice oa l.length cap, .int .i64 0] 62)) hv rfl ((Below.refl _ _).alloc (Nat.le_refl _) _)
  have hr := rd_new w (.slice oa l.length cap)
  cases hres : readT l with
  | none =>
    have C := Lib.hid (rtext_none w.heap.size oa cap l _ hr hb hn hc hres)
    clear hv hb hr hres
    go_enter Try.func16, Try.ntmps16
    go_wp2_with (first | (go_at_call 32; refine C.out.mono ?_; rintro e w1 ⟨rfl, hw⟩; have HW := Lib.hid hw; clear hw))
    go_ret3
    exact ⟨rfl, ((Below.refl _ _).alloc (Nat.le_refl _) _).trans HW.out⟩
  | some x =>
    obtain ⟨t, m⟩ := x
    obtain ⟨n, k, hN, hfit, ht, hm⟩ : ∃ n k, readN l = some (n, k) ∧ k + n ≤ l.length ∧ (l.drop k).take n = t ∧ k + n = m := by
      unfold readT at hres
      cases hN : readN l with
      | none => rw [hN] at hres; cases hres
      | some x =>
        obtain ⟨n, k⟩ := x
        rw [hN] at hres
        simp only at hres
        split at hres
        · rename_i hfit
          simp only [Option.some.injEq, Prod.mk.injEq] at hres
          exact ⟨n, k, rfl, hfit, hres.1, hres.2⟩
        · cases hres
    have hC := rtext_some w.heap.size oa cap n k l _ hr hb hn hc hN hfit
    rw [hm] at hC
    have hcv : ∀ W', Below w.heap.size (w.alloc (.cells #[.slice oa l.length cap, .int .i64 0] 62)) W' → (convert 23 9 (pieceV oa k n)).run Try.prog W' = .ok (.string ⟨t.toArray⟩) W' := fun W' hb' => by
      rw [← ht]
      exact bytes_string (((hb.keep hb').bytes hc).piece hfit)
    generalize pieceV oa k n = pv at hC hcv
    have C := Lib.hid hC
    have HCV := Lib.hid hcv
    clear hv hb hr hres hC hcv ht hm hN hfit
    go_enter Try.func16, Try.ntmps16
    go_wp2_with (first | (go_at_call 32; refine C.out.mono ?_; rintro e w1 ⟨rfl, hw⟩; have hpos := hw.1.pos; have HW := Lib.hid hw; clear hw))
    have hcq : ∀ q, (convert 23 9 pv).run Try.prog (w1.drewN q) = .ok (.string ⟨t.toArray⟩) (w1.drewN q) := fun q => HCV.out _ (below_drewN HW.out.2 q)
    go_quiet (fail)
    go_wp2
    go_ret3
    exact ⟨rfl, below_drewN (((Below.refl _ _).alloc (Nat.le_refl _) _).trans HW.out.2) _⟩

set_option maxHeartbeats 1000000 in
theorem rText_any (s : ByteArray) (W : World) (hs : s.size ≤ 1000000) : Calls Try.prog 18 #[.string s] W (OwnBytes W (txtL s.data.toList)) := by
  obtain ⟨i0, hi0, hz0, hz1, hz2⟩ := info_parts infoU8
  have HC := Lib.hid (rNumber_any s.size (by omega) W)
  have h8 := sizeOf8_le s.size (by omega)
  obtain ⟨L, hL⟩ : ∃ L, (numB s.size).length = L := ⟨_, rfl⟩
  have hL9 : L ≤ 9 := by have := numB_length s.size; omega
  have HL := Lib.hid hL
  clear hL
  unfold OwnBytes at HC ⊢
  go_enter Try.func18, Try.ntmps18
  go_wp2_with (first | (go_at_call 12; refine HC.out.mono ?_; rintro e w1 ⟨v, rfl, hown, hb⟩; rw [HL.out] at hown) | (at_builtin; refine Lib.wpList_append_own_string _ rfl _ _ 23 9 rfl W.heap.size 5 i0 Try.underlying23 Try.underlying9 hi0 hz0 hz1 hz2 v L (u8s (numB s.size)) rfl hown s rfl ?a1 ?a2 ?a3 ?_))
  case a1 => unfold maxLen; omega
  case a2 => omega
  case a3 => exact hb.size
  intro v2 w2 hown2 hg2 _
  rw [u8s_str] at hown2
  have e1 : u8s (numB s.size) ++ u8s s.data.toList = u8s (txtL s.data.toList) := by unfold u8s txtL; rw [List.map_append, Array.length_toList]; rfl
  have e2 : L + s.size = (txtL s.data.toList).length := by unfold txtL; rw [List.length_append, Array.length_toList, ← HL.out]; rfl
  rw [e1, e2] at hown2
  have hb2 : Below W.heap.size W w2 := hb.grown hg2 hb.size (fun x hx => (hown.lt x hx).1)
  have HF := Lib.hid (And.intro hown2 hb2)
  clear hown hown2 hg2 e1 e2 hb2
  go_wp2
  go_ret
  exact ⟨_, rfl, HF.out.1, HF.out.2⟩

set_option maxRecDepth 100000 in
set_option maxHeartbeats 1000000 in
theorem rReadText_any (v : Value) (l : List UInt8) (w : World) (hv : BytesAt w v l) (hn : l.length ≤ 1000000) :
    Calls Try.prog 17 #[v] w fun e w' => e = .returned (rtRes (readT l)) ∧ w = w' := by
  have HV := Lib.hid hv
  obtain ⟨oa, cap, rfl, hcap, hcell⟩ := hv
  have C := rReadNumber_any _ l w HV.out hn
  unfold readT
  cases hN : readN l with
  | none =>
    rw [hN, show rdRes none = .tuple #[.int .u64 0, .int .i64 0, .int .i64 120] from rfl] at C
    have HC := Lib.hid C
    clear C hN hcell
    go_enter Try.func17, Try.ntmps17
    go_wp2_with (first | (go_at_call 11; refine HC.out.mono ?_; rintro e w' ⟨rfl, rfl⟩))
    go_ret3
    exact ⟨rfl, rfl⟩
  | some x =>
    obtain ⟨n, k⟩ := x
    obtain ⟨h64, hk1, hk9, hkl⟩ := readN_lt hN
    rw [hN, show rdRes (some (n, k)) = .tuple #[.int .u64 n, .int .i64 k, .int .i64 0] from rfl] at C
    have HC := Lib.hid C
    have hn64 : (n : Int) ≤ 18446744073709551615 := by omega
    simp only
    by_cases hfit : k + n ≤ l.length
    · rw [if_pos hfit]
      obtain ⟨a, rfl, _⟩ := hcell 0 (by omega)
      have hcv : ∀ ob, ob = (if cap = k then some a else some (a.add k)) → (convert 23 9 (.slice ob n (cap - k))).run Try.prog w = .ok (.string ⟨((l.drop k).take n).toArray⟩) w := fun ob ho => bytes_string (HV.out.cut hfit ob ho _ (by omega))
      have HCV := Lib.hid hcv
      generalize (l.drop k).take n = t at HCV ⊢
      clear C hN hcell h64 hcv
      by_cases hck : cap = k
      · obtain rfl : n = 0 := by omega
        have hx := HCV.out (some a) (by rw [if_pos hck])
        subst hck
        rw [Nat.sub_self] at hx
        go_enter Try.func17, Try.ntmps17
        go_wp2_with (first | (go_at_call 11; refine HC.out.mono ?_; rintro e w' ⟨rfl, rfl⟩))
        go_ret3
        exact ⟨rfl, rfl⟩
      · have hx := HCV.out (some (a.add k)) (by rw [if_neg hck])
        have hk2 : ¬ (cap = k) := hck
        go_enter Try.func17, Try.ntmps17
        go_wp2_with (first | (go_at_call 11; refine HC.out.mono ?_; rintro e w' ⟨rfl, rfl⟩))
        go_ret3
        refine ⟨?_, rfl⟩
        show Ending.returned (.tuple #[.string _, .int .i64 ((k : Int) + n), .int .i64 0]) = .returned (.tuple #[.string _, .int .i64 ((k + n : Nat) : Int), .int .i64 0])
        rw [Int.natCast_add]
    · rw [if_neg hfit]
      have hfit' : l.length < k + n := by omega
      clear C hN hcell h64 hfit
      go_enter Try.func17, Try.ntmps17
      go_wp2_with (first | (go_at_call 11; refine HC.out.mono ?_; rintro e w' ⟨rfl, rfl⟩))
      go_ret3
      exact ⟨rfl, rfl⟩

theorem readT_txt (l m : List UInt8) (h : l.length ≤ 1000000) : readT (txtL l ++ m) = some (l, (txtL l).length) := by
  unfold readT txtL
  have hr := readN_numB l.length (l ++ m) (by omega)
  rw [List.append_assoc, hr]
  have hk := numB_length l.length
  simp only
  rw [if_pos (by simp only [List.length_append]; omega), ← hk, List.drop_left, List.take_left, List.length_append]
/-- a result of ReadText, in three -/
def rtS : Option (List UInt8 × Nat) → ByteArray
  | some (t, _) => ⟨t.toArray⟩
  | none => ⟨#[]⟩
def rtK : Option (List UInt8 × Nat) → Nat
  | some (_, k) => k
  | none => 0
def rtE : Option (List UInt8 × Nat) → Int
  | some _ => 0
  | none => 120
theorem rtRes_eq (o : Option (List UInt8 × Nat)) : rtRes o = .tuple #[.string (rtS o), .int .i64 (rtK o), .int .i64 (rtE o)] := by
  cases o with
  | none => rfl
  | some x => rfl
end Go.Proofs.Ytdbjdebffngngaa
