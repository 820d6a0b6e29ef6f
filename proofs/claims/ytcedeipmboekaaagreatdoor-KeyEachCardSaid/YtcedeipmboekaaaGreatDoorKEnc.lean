/-
  key.Encode.
-/
import Derived.Test.YtcedeipmboekaaaGreatDoorKLayW
import Derived.Test.YtcedeipmboekaaaGreatDoorKReadP
namespace Go.Proofs.YtcedeipmboekaaaGreatDoor
open Go.RowKit

def ValsK (w : World) (oa : Option Addr) (l : List Vl) : Prop := ∀ (j : Nat) (h : j < l.length), ∃ a, oa = some a ∧ ValAt w (a.add (j * 4)) l[j]
theorem ValsK.keep {w w' : World} {B : Nat} {oa : Option Addr} {l : List Vl} (h : ValsK w oa l) (hb : Below B w w') (hB : w.heap.size ≤ B) : ValsK w' oa l := fun j hj => by
  obtain ⟨a, e, hc⟩ := h j hj
  exact ⟨a, e, hc.keep hb hB⟩
/-- the numbers of a value lie in their kinds -/
structure InN (v : Vl) : Prop where
  i0 : -9223372036854775808 ≤ v.i
  i1 : v.i ≤ 9223372036854775807
  u0 : 0 ≤ v.u
  u1 : v.u < 18446744073709551616
def keyRest (v : Vl) : List UInt8 := (keyB v).drop 1
theorem keyB_rest {v : Vl} (h : VOk v) : keyB v = [UInt8.ofNat v.k.toNat] ++ keyRest v := by
  obtain ⟨_, _, t, e⟩ := key_head h
  unfold keyRest
  rw [e]
  rfl
theorem find_k (k : Int) (f g : Nat) (j : Nat) (h : Instr.findNow (.int .i64) (.int .i64 k) keyKinds.toList 0 = some (some (j, kw2 f g))) {w : World} {r : Nat} (hb : w.heap[r]? = some (.map keyKinds 5)) :
    (Instr.lookup 53 (.map (some r)) (.int .i64 k) false).run Tryz.prog w = .ok (.agg #[.func (.func f) #[] #[], .func (.func g) #[] #[]]) w := key_got hb h
theorem lay_in {v : Vl} (h : VOk v) : ∃ f g, (∀ (w : World) (r : Nat), w.heap[r]? = some (.map keyKinds 5) → (Instr.lookup 53 (.map (some r)) (.int .i64 v.k) false).run Tryz.prog w = .ok (.agg #[.func (.func f) #[] #[], .func (.func g) #[] #[]]) w) ∧ (∀ a W, (callFunc f a).run Tryz.prog W = .ok (.enter f a) W) ∧ ∀ W, Calls Tryz.prog f #[.agg #[.int .i64 v.k, .int .i64 v.i, .int .u64 v.u, .string v.s]] W (LayPost W (keyRest v)) := by
  have i0 := h.i0
  have i1 := h.i1
  have u0 := h.u0
  have u1 := h.u1
  rcases chk_forms h.c with rfl | ⟨i, rfl⟩ | ⟨u, rfl⟩ | rfl | rfl | ⟨s, rfl, hs⟩
  · exact ⟨41, 42, fun w r hb => find_k 0 _ _ 0 rfl hb, enters_of Tryz.func41 (by kernel_rfl) rfl, fun W => qlayNull_any _ _ _ _ W⟩
  · refine ⟨43, 44, fun w r hb => find_k 1 _ _ 1 rfl hb, enters_of Tryz.func43 (by kernel_rfl) rfl, fun W => ?_⟩
    have := qlayInt_any 1 i 0 ⟨#[]⟩ W i0 i1
    unfold keyRest
    rw [keyB_i]
    exact this
  · refine ⟨45, 46, fun w r hb => find_k 2 _ _ 2 rfl hb, enters_of Tryz.func45 (by kernel_rfl) rfl, fun W => ?_⟩
    obtain ⟨n, rfl⟩ := Int.eq_ofNat_of_zero_le u0
    have := qlayUint_any 2 0 n ⟨#[]⟩ W (by simp only at u1; omega)
    unfold keyRest
    rw [keyB_u]
    exact this
  · exact ⟨47, 48, fun w r hb => find_k 3 _ _ 3 rfl hb, enters_of Tryz.func47 (by kernel_rfl) rfl, fun W => qlayBool_any 3 0 0 ⟨#[]⟩ W (by decide)⟩
  · exact ⟨47, 48, fun w r hb => find_k 3 _ _ 3 rfl hb, enters_of Tryz.func47 (by kernel_rfl) rfl, fun W => qlayBool_any 3 0 1 ⟨#[]⟩ W (by decide)⟩
  · refine ⟨49, 50, fun w r hb => find_k 4 _ _ 4 rfl hb, enters_of Tryz.func49 (by kernel_rfl) rfl, fun W => ?_⟩
    have := qlayBytes_any 4 0 0 s W (by omega)
    unfold keyRest
    rw [keyB_s]
    exact this
/-- the first error of values -/
def firstE : List Vl → Int
  | [] => 0
  | v :: l => if v.chk ≠ 0 then v.chk else firstE l
theorem firstE_zero : ∀ {l : List Vl}, firstE l = 0 → ∀ v ∈ l, v.chk = 0
  | [], _, v, h => by cases h
  | x :: l, h0, v, h => by
    unfold firstE at h0
    split at h0
    · rename_i hx; exact absurd h0 hx
    · rename_i hx
      rcases List.mem_cons.1 h with rfl | h
      · exact Decidable.not_not.1 hx
      · exact firstE_zero h0 v h
theorem firstE_at {l : List Vl} {k : Nat} (hk : k < l.length) (h0 : ∀ j (h : j < k), (l[j]'(by omega)).chk = 0) (h1 : l[k].chk ≠ 0) : firstE l = l[k].chk := by
  induction l generalizing k with
  | nil => simp at hk
  | cons x l ih =>
    unfold firstE
    cases k with
    | zero => rw [if_pos (by simpa using h1)]; rfl
    | succ k =>
      have hx : x.chk = 0 := h0 0 (by omega)
      rw [if_neg (by simp [hx]), List.getElem_cons_succ]
      exact ih (by simpa using hk) (fun j h => by have := h0 (j + 1) (by omega); simpa using this) (by simpa using h1)
theorem firstE_all {l : List Vl} (h0 : ∀ j (h : j < l.length), (l[j]'h).chk = 0) : firstE l = 0 := by
  induction l with
  | nil => rfl
  | cons x l ih =>
    unfold firstE
    have hx : x.chk = 0 := h0 0 (by simp)
    rw [if_neg (by simp [hx])]
    exact ih (fun j h => by have := h0 (j + 1) (by simpa using h); simpa using this)
/-- Encode's error, and its text -/
def encNo (l : List Vl) : Int := if firstE l ≠ 0 then firstE l else if 2000 < (keyL l).length then 3 else 0
def encTx (l : List Vl) : ByteArray := if encNo l = 0 then ⟨(keyL l).toArray⟩ else ⟨#[]⟩
theorem keyL_take {l : List Vl} {k : Nat} (hk : k < l.length) : keyL (l.take (k + 1)) = keyL (l.take k) ++ keyB l[k] := by
  rw [List.take_succ_eq_append_getElem hk, keyL_append]
  show keyL (l.take k) ++ (keyB l[k] ++ []) = _
  rw [List.append_nil]
theorem keyL_le (l : List Vl) (k : Nat) : (keyL (l.take k)).length ≤ (keyL l).length := by
  rw [← List.take_append_drop k l, keyL_append, List.length_append]
  have : (l.take k ++ l.drop k).take k = l.take k := by rw [List.take_append_drop]
  rw [this]
  omega
theorem grpB_len (l : List UInt8) : (grpB l).length ≤ 2 * l.length + 25 := by
  rw [← grp_chunks _ l (Nat.le_refl _), List.length_append, lastK_len]
  have := accG_len l ((l.length + 7) / 8) (by omega)
  omega
theorem keyRest_len {v : Vl} (h : VOk v) : (keyRest v).length ≤ 500 := by
  unfold keyRest
  rw [List.length_drop]
  rcases chk_forms h.c with rfl | ⟨i, rfl⟩ | ⟨u, rfl⟩ | rfl | rfl | ⟨s, rfl, hs⟩
  · rw [keyB_0]; simp
  · rw [keyB_i]; simp [tellL_length]
  · have u1 := h.u1
    have u0 := h.u0
    simp only at u0 u1
    have := sizeOf8_le u.toNat (by omega)
    rw [keyB_u, List.length_cons, numB_length]
    omega
  · rw [keyB_b]; simp
  · rw [keyB_b]; simp
  · have := grpB_len s.data.toList
    have e : s.data.toList.length = s.size := by rw [Array.length_toList]; rfl
    rw [keyB_s, List.length_cons]
    omega
theorem own_keepK {w w' : World} {B : Nat} {v : Value} {n : Nat} {xs : List Value} (h : w.ownsRow B 5 1 v n xs) (hb : Below w.heap.size w w') : w'.ownsRow B 5 1 v n xs :=
  h.kept (row := none) ⟨hb.os, hb.tape, hb.output, hb.size, fun k hk _ => hb.block k hk⟩ (by cases v.ownBlock <;> simp)
theorem grown_belowK {W W' : World} {B n : Nat} {v : Value} {xs : List Value} (ho : W.ownsRow B 5 1 v n xs) (hg : W.grownBy W' v.ownBlock) (hB : B ≤ W.heap.size) : Below B W W' :=
  ⟨hg.os, hg.tape, hg.output, hg.size, fun k hk => hg.block k (by omega) (fun e => by have := (ho.lt k e.symm).1; omega)⟩
theorem own_not_map {w : World} {B n M c : Nat} {v : Value} {xs : List Value} {es : Array MapEntry} (h : w.ownsRow B 5 1 v n xs) (hM : w.heap[M]? = some (.map es c)) : v.ownBlock ≠ some M := fun e => by
  rcases h.2 with ⟨rfl, _⟩ | ⟨g, cap, cur, rfl, _, hg, _⟩
  · cases e
  · simp only [Value.ownBlock, Option.some.injEq] at e
    subst e
    rw [hM] at hg
    cases hg
end Go.Proofs.YtcedeipmboekaaaGreatDoor
