/-
  swingbridgeref02: high, Number, read, ReadNumber.
-/
import Derived.Test.YtdbjdebffngngaaOOpen
import Derived.Laws.AppendOwnNone
namespace Go.Proofs.Ytdbjdebffngngaa
open Go.RowKit

theorem BytesOf.own {w : World} {v : Value} {l : List UInt8} {B : Nat} (h : w.ownsRow B 5 1 v l.length (u8s l)) : BytesOf w v l := by
  rcases h.2 with ⟨rfl, h0⟩ | ⟨g, cap, cur, rfl, _, _, hn, _⟩
  · exact .inl ⟨rfl, List.eq_nil_of_length_eq_zero h0⟩
  · exact .inr ⟨_, cap, rfl, hn, fun j hj => h.cells rfl j _ (by simp [u8s, hj])⟩
/-- append(own, src...) -/
theorem wpList_append_bytes {w : World} {ops : Array Oper} {rest : List Oper} {o : Oper} {a : Act} {Q : Exit → Act → World → Prop} (hgd : o.guard = none) (s x : Operand)
    (ho : o.op = .call { callee := .builtin .append, args := #[s, x], argTypes := #[23, 23] })
    (base : Nat) (v vb : Value) (n : Nat) (l m : List UInt8) (hs : a.eval s = v) (hx : a.eval x = vb) (hown : w.ownsRow base 5 1 v n (u8s l)) (hn : n = l.length) (hsrc : BytesOf w vb m)
    (hlen : n + m.length ≤ 1000000) (hbase : base ≤ w.heap.size)
    (h : ∀ v' w', w'.ownsRow base 5 1 v' (l ++ m).length (u8s (l ++ m)) → w.grownBy w' v.ownBlock → wpList Try.prog ops Q rest (a.put o.dst v') w') : wpList Try.prog ops Q (o :: rest) a w := by
  subst hn
  obtain ⟨i0, hi0, hz0, hz1, hz2⟩ := info_parts infoU8
  rcases hsrc with ⟨rfl, rfl⟩ | ⟨ad, cap, rfl, hl, hc⟩
  · refine wpList_append_own_none hgd s x 23 ho base 5 i0 1 Try.underlying23 hi0 v l.length (u8s l) hs hown hx (h v w ?_ (World.grownBy.refl w _))
    rw [List.append_nil]
    exact hown
  · refine wpList_append_own w hgd s x 23 ho base 5 i0 (.int .u8 0) 1 1 Try.underlying23 hi0 hz0 hz1 hz2 rfl (by decide) v l.length (u8s l) hs hown ad m.length cap (u8s m) hx (by simp [u8s]) ?_ ?_ (by unfold maxLen; omega) (by omega) hbase ?_
    · intro j u hj
      have hj' : j < m.length := by have := (List.getElem?_eq_some_iff.1 hj).1; simpa [u8s] using this
      rw [hc j hj', ← hj]
      simp [u8s, hj']
    · intro u hu
      simp only [u8s, List.mem_map] at hu
      obtain ⟨c, _, rfl⟩ := hu
      rfl
    · intro v' w' hown' hg _
      refine h v' w' ?_ hg
      rw [List.length_append]
      unfold u8s at hown' ⊢
      rw [List.map_append]
      exact hown'

theorem sizeOf8_next (n : Nat) (h : n < 18446744073709551616) (h0 : n ≠ 0) : sizeOf8 n = sizeOf8 (n / 256) + 1 := by
  have hd : n / 256 < 18446744073709551616 := by omega
  have h1 := (sizeOf8_bd n h h0).1
  have key : ∀ k, sizeOf8 n ≤ k + 1 ↔ sizeOf8 (n / 256) ≤ k := by
    intro k
    rw [sizeOf8_le_iff n _ h, sizeOf8_le_iff _ _ hd, Nat.div_lt_iff_lt_mul (by decide), Nat.pow_succ]
  have a := (key (sizeOf8 (n / 256))).2 (Nat.le_refl _)
  have b := (key (sizeOf8 n - 1)).1 (by omega)
  omega
theorem tell_snoc (n : Nat) : ∀ k, tellL n (k + 1) = tellL (n / 256) k ++ [byteAt n 0]
  | 0 => rfl
  | k + 1 => by
    have h := tell_snoc n k
    show byteAt n (k + 1) :: tellL n (k + 1) = (byteAt (n / 256) k :: tellL (n / 256) k) ++ [byteAt n 0]
    rw [h, List.cons_append]
    congr 1
    unfold byteAt
    rw [Nat.pow_succ', Nat.div_div_eq_div_mul]
theorem tell_size_next (n : Nat) (h : n < 18446744073709551616) (h0 : n ≠ 0) : tellL n (sizeOf8 n) = tellL (n / 256) (sizeOf8 (n / 256)) ++ [byteAt n 0] := by
  rw [sizeOf8_next n h h0, tell_snoc]
theorem byteAt_zero (n : Nat) : ((byteAt n 0).toNat : Int) = (n : Int) % 256 := by
  rw [byteAt_toNat]; simp

/-- the bytes of n, in memory of one's own -/
def OwnBytes (W : World) (l : List UInt8) (e : Ending) (w' : World) : Prop := ∃ v, e = .returned v ∧ w'.ownsRow W.heap.size 5 1 v l.length (u8s l) ∧ Below W.heap.size W w'
theorem one_lit (W : World) (c : UInt8) : BytesOf (W.alloc (.cells #[.int .u8 c.toNat] 5)) (.slice (some ⟨W.heap.size, 0, none⟩) 1 1) [c] := by
  refine .inr ⟨_, 1, rfl, Nat.le_refl _, fun j hj => ?_⟩
  obtain rfl : j = 0 := by simpa using hj
  simp [go_sem]
set_option maxHeartbeats 1000000 in
theorem high_any : ∀ (f n : Nat), n ≤ f → n < 18446744073709551616 → ∀ W : World, Calls Try.prog 28 #[.int .u64 n] W (OwnBytes W (tellL n (sizeOf8 n))) := by
  intro f
  induction f with
  | zero =>
    intro n hn _ W
    obtain rfl : n = 0 := by omega
    rw [sizeOf8_zero]
    unfold OwnBytes
    go_enter Try.func28, Try.ntmps28
    go_wp2
    go_ret
    exact ⟨_, rfl, World.ownsRow_nil _ _ _ _, Below.refl _ _⟩
  | succ f ih =>
    intro n hn h64 W
    by_cases h0 : n = 0
    · subst h0
      rw [sizeOf8_zero]
      unfold OwnBytes
      go_enter Try.func28, Try.ntmps28
      go_wp2
      go_ret
      exact ⟨_, rfl, World.ownsRow_nil _ _ _ _, Below.refl _ _⟩
    · have C := ih (n / 256) (by omega) (by omega) W
      rw [show ((n / 256 : Nat) : Int) = (n : Int) / 256 by omega] at C
      have HC := Lib.hid C
      have HT := Lib.hid (tell_size_next n h64 h0)
      have HB := Lib.hid (byteAt_zero n)
      have hl8 := sizeOf8_le (n / 256) (by omega)
      have hn0 : ((n : Int) == 0) = false := by simpa using h0
      have hn64 : (n : Int) ≤ 18446744073709551615 := by omega
      rw [HT.out]
      unfold OwnBytes at HC ⊢
      have hlt := tellL_length (n / 256) (sizeOf8 (n / 256))
      generalize tellL (n / 256) (sizeOf8 (n / 256)) = L at *
      have HL := Lib.hid hlt
      have hl8' : L.length ≤ 8 := by omega
      clear hlt C ih hn h64
      have hb1 := one_lit
      have H1 := Lib.hid hb1
      clear hb1
      generalize byteAt n 0 = c at *
      go_enter Try.func28, Try.ntmps28
      go_wp2_with fail
      refine HC.out.mono ?_
      rintro e w1 ⟨v, rfl, hown, hb⟩
      have hmod : (n : Int) % 256 = (c.toNat : Int) := HB.out.symm
      go_wp2_with (first | (at_builtin; refine wpList_append_bytes rfl _ _ rfl W.heap.size v _ L.length L [c] rfl rfl (hown.alloc _) rfl (H1.out w1 c) ?c1 ?c2 ?_))
      case c1 => simp; omega
      case c2 => have := hb.size; simp; omega
      intro v2 w2 hown2 hg2
      have hb2 : Below W.heap.size W w2 := (hb.alloc hb.size _).grown hg2 (by have := hb.size; simp; omega) (fun x hx => (hown.lt x hx).1)
      have HO := Lib.hid (And.intro hown2 hb2)
      clear hown hown2 hg2 hb2 hmod
      go_wp2
      go_ret
      refine ⟨_, rfl, ?_, HO.out.2⟩
      have h := HO.out.1
      rw [List.length_append]
      exact h

theorem own_lit (W : World) (B : Nat) (c : UInt8) (hB : B ≤ W.heap.size) : (W.alloc (.cells #[.int .u8 c.toNat] 5)).ownsRow B 5 1 (.slice (some ⟨W.heap.size, 0, none⟩) 1 1) 1 (u8s [c]) :=
  ⟨rfl, .inr ⟨W.heap.size, 1, #[.int .u8 c.toNat], rfl, hB, heap_alloc_new W _, Nat.le_refl _, by decide, rfl, rfl⟩⟩
set_option maxHeartbeats 1000000 in
theorem rNumber_any (n : Nat) (hn : n < 18446744073709551616) (W : World) : Calls Try.prog 12 #[.int .u64 n] W (OwnBytes W (numB n)) := by
  have HC := Lib.hid (high_any n n (Nat.le_refl _) hn W)
  have hl8 := sizeOf8_le n hn
  have hlt := tellL_length n (sizeOf8 n)
  have HH := Lib.hid (numB_head n hn)
  unfold numB
  unfold OwnBytes at HC ⊢
  generalize tellL n (sizeOf8 n) = L at *
  have hl8' : L.length ≤ 8 := by omega
  generalize UInt8.ofNat (sizeOf8 n) = c at *
  have hcl : (L.length : Int) = (c.toNat : Int) := by have := HH.out; omega
  have HCL := Lib.hid hcl
  clear hlt hn hcl hl8
  have H1 := Lib.hid one_lit
  go_enter Try.func12, Try.ntmps12
  go_wp2_with fail
  refine HC.out.mono ?_
  rintro e w1 ⟨v, rfl, hown, hb⟩
  have hv := BytesOf.own hown
  have hlen : ∃ oa cap, v = .slice oa L.length cap := by obtain ⟨oa, cap, h, _⟩ := hv.at; exact ⟨oa, cap, h⟩
  obtain ⟨oa, cap, rfl⟩ := hlen
  have hcl := HCL.out
  have HV := Lib.hid hv
  have HO1 := Lib.hid (own_lit w1 W.heap.size c hb.size)
  have hbs := hb.size
  have HBB := Lib.hid hb
  clear hv hown hb
  go_wp2_with (first | (at_builtin; refine wpList_append_bytes rfl _ _ rfl W.heap.size _ (.slice oa L.length cap) 1 [c] L rfl rfl HO1.out rfl (HV.out.keep ((Below.refl _ _).alloc (Nat.le_refl _) _) (Nat.le_refl _)) ?c1 ?c2 ?_))
  case c1 => omega
  case c2 => simp; omega
  intro v2 w2 hown2 hg2
  have hb2 : Below W.heap.size W w2 := (HBB.out.alloc hbs _).grown hg2 (by simp; omega) (fun x hx => by cases hx; exact hbs)
  have HO := Lib.hid (And.intro hown2 hb2)
  clear hown2 hg2 hb2
  go_wp2
  go_ret
  refine ⟨_, rfl, ?_, HO.out.2⟩
  exact HO.out.1
end Go.Proofs.Ytdbjdebffngngaa
