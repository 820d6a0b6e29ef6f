/-
  swingbridgeref02: high, Number, read, ReadNumber.
-/
import Derived.Test.YtkjdhkpnbgflhaaOBytes
import Derived.Laws.AppendOwnNone
namespace Go.Proofs.Ytkjdhkpnbgflhaa
open Go.RowKit

theorem BytesOf.own {w : World} {v : Value} {l : List UInt8} {B : Nat} (h : w.ownsRow B 5 1 v l.length (u8s l)) : BytesOf w v l := by
  rcases h.2 with ⟨rfl, h0⟩ | ⟨g, cap, cur, rfl, _, _, hn, _⟩
  · exact .inl ⟨rfl, List.eq_nil_of_length_eq_zero h0⟩
  · exact .inr ⟨_, cap, rfl, hn, fun j hj => h.cells rfl j _ (by simp [u8s, hj])⟩
/-- append(own, src...) -/
theorem wpList_append_bytes {w : World} {ops : Array Oper} {rest : List Oper} {o : Oper} {a : Act} {Q : Exit → Act → World → Prop} (hgd : o.guard = none) (s x : Operand)
    (ho : o.op = .call { callee := .builtin .append, args := #[s, x], argTypes := #[22, 22] })
    (base : Nat) (v vb : Value) (n : Nat) (l m : List UInt8) (hs : a.eval s = v) (hx : a.eval x = vb) (hown : w.ownsRow base 5 1 v n (u8s l)) (hn : n = l.length) (hsrc : BytesOf w vb m)
    (hlen : n + m.length ≤ 1000000) (hbase : base ≤ w.heap.size)
    (h : ∀ v' w', w'.ownsRow base 5 1 v' (l ++ m).length (u8s (l ++ m)) → w.grownBy w' v.ownBlock → wpList Try.prog ops Q rest (a.put o.dst v') w') : wpList Try.prog ops Q (o :: rest) a w := by
  subst hn
  obtain ⟨i0, hi0, hz0, hz1, hz2⟩ := info_parts infoU8
  rcases hsrc with ⟨rfl, rfl⟩ | ⟨ad, cap, rfl, hl, hc⟩
  · refine wpList_append_own_none hgd s x 22 ho base 5 i0 1 Try.underlying22 hi0 v l.length (u8s l) hs hown hx (h v w ?_ (World.grownBy.refl w _))
    rw [List.append_nil]
    exact hown
  · refine wpList_append_own w hgd s x 22 ho base 5 i0 (.int .u8 0) 1 1 Try.underlying22 hi0 hz0 hz1 hz2 rfl (by decide) v l.length (u8s l) hs hown ad m.length cap (u8s m) hx (by simp [u8s]) ?_ ?_ (by unfold maxLen; omega) (by omega) hbase ?_
    · intro j u hj
      have hj' : j < m.length := by have := (List.getElem?_eq_some_iff.1 hj).1; simpa [u8s] using this
      rw [hc j hj', ← hj]
      simp [u8s, hj']
    · intro u hu
      simp only [u8s, List.mem_map] at hu
      obtain ⟨c, _, rfl⟩ := hu
      rfl
    · intro v' w' hown' hg _
      refine h v' w' ?_ hg
      rw [List.length_append]
      unfold u8s at hown' ⊢
      rw [List.map_append]
      exact hown'

theorem sizeOf8_next (n : Nat) (h : n < 18446744073709551616) (h0 : n ≠ 0) : sizeOf8 n = sizeOf8 (n / 256) + 1 := by
  have hd : n / 256 < 18446744073709551616 := by omega
  have h1 := (sizeOf8_bd n h h0).1
  have key : ∀ k, sizeOf8 n ≤ k + 1 ↔ sizeOf8 (n / 256) ≤ k := by
    intro k
    rw [sizeOf8_le_iff n _ h, sizeOf8_le_iff _ _ hd, Nat.div_lt_iff_lt_mul (by decide), Nat.pow_succ]
  have a := (key (sizeOf8 (n / 256))).2 (Nat.le_refl _)
  have b := (key (sizeOf8 n - 1)).1 (by omega)
  omega
theorem tell_snoc (n : Nat) : ∀ k, tellL n (k + 1) = tellL (n / 256) k ++ [byteAt n 0]
  | 0 => rfl
  | k + 1 => by
    have h := tell_snoc n k
    show byteAt n (k + 1) :: tellL n (k + 1) = (byteAt (n / 256) k :: tellL (n / 256) k) ++ [byteAt n 0]
    rw [h, List.cons_append]
    congr 1
    unfold byteAt
    rw [Nat.pow_succ', Nat.div_div_eq_div_mul]
theorem tell_size_next (n : Nat) (h : n < 18446744073709551616) (h0 : n ≠ 0) : tellL n (sizeOf8 n) = tellL (n / 256) (sizeOf8 (n / 256)) ++ [byteAt n 0] := by
  rw [sizeOf8_next n h h0, tell_snoc]
theorem byteAt_zero (n : Nat) : ((byteAt n 0).toNat : Int) = (n : Int) % 256 := by
  rw [byteAt_toNat]; simp

/-- the bytes of n, in memory of one's own -/
def OwnBytes (W : World) (l : List UInt8) (e : Ending) (w' : World) : Prop := ∃ v, e = .returned v ∧ w'.ownsRow W.heap.size 5 1 v l.length (u8s l) ∧ Below W.heap.size W w'
theorem one_lit (W : World) (c : UInt8) : BytesOf (W.alloc (.cells #[.int .u8 c.toNat] 5)) (.slice (some ⟨W.heap.size, 0, none⟩) 1 1) [c] := by
  refine .inr ⟨_, 1, rfl, Nat.le_refl _, fun j hj => ?_⟩
  obtain rfl : j = 0 := by simpa using hj
  simp [go_sem]
end Go.Proofs.Ytkjdhkpnbgflhaa
