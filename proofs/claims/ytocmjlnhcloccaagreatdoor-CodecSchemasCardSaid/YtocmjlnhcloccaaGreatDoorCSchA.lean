/-
  schemas' bytes, pure; numbers, sets.
-/
import Derived.Test.YtocmjlnhcloccaaGreatDoorCRdr
import Derived.Test.YtocmjlnhcloccaaGreatDoorSSch
import Derived.Test.YtocmjlnhcloccaaGreatDoorCLayA
import Derived.Test.YtocmjlnhcloccaaGreatDoorOctA
import Derived.Maps.AppendAt
import Derived.Test.YtocmjlnhcloccaaGreatDoorSIts
namespace Go.Proofs.YtocmjlnhcloccaaGreatDoor
open Go.RowKit

def encI (l : List Int) : List UInt8 := numB l.length ++ l.flatMap fun x => numB x.toNat
def encCol (c : Col) : List UInt8 := txtL c.n.data.toList ++ (numB c.t.toNat ++ (numB c.z.toNat ++ numB (if c.u = true then 1 else 0)))
def schL (S : Sch) : List UInt8 := (numB S.cols.length ++ S.cols.flatMap encCol) ++ (encI S.key ++ (numB S.uqs.length ++ S.uqs.flatMap encI))
def IntB (l : List Int) : Prop := l.length ≤ 8 ∧ ∀ x ∈ l, 0 ≤ x ∧ x ≤ 8
def ColB (c : Col) : Prop := c.n.size ≤ 24 ∧ 0 ≤ c.t ∧ c.t ≤ 4 ∧ 0 ≤ c.z ∧ c.z ≤ 200
structure SchB (S : Sch) : Prop where
  cols : S.cols.length ≤ 8
  col : ∀ c ∈ S.cols, ColB c
  key : IntB S.key
  uqs : S.uqs.length ≤ 3
  uq : ∀ l ∈ S.uqs, IntB l
theorem okSet_int {cols : List Col} {f : Bool} {l : List Int} (hc : cols.length ≤ 8) (h : okSet cols f l = true) : IntB l := by
  unfold okSet at h
  simp only [Bool.and_eq_true, decide_eq_true_eq] at h
  obtain ⟨⟨_, h1⟩, h2, _⟩ := h
  refine ⟨by omega, fun x hx => ?_⟩
  unfold inAll at h2
  have := (List.all_eq_true.1 h2) x hx
  simp only [Bool.and_eq_true, decide_eq_true_eq] at this
  omega
theorem colOk_bd {c : Col} (h : colOk c = true) : ColB c := by
  unfold colOk at h
  rw [Bool.and_eq_true] at h
  obtain ⟨h1, h2⟩ := h
  unfold nameOk at h2
  simp only [Bool.and_eq_true, decide_eq_true_eq] at h2
  have ht : 1 ≤ c.t ∧ c.t ≤ 4 := by
    rcases type_cases c.t with h | h | h | h | h
    · rw [szOk_none h] at h1; cases h1
    all_goals omega
  refine ⟨h2.2.1, by omega, by omega, ?_⟩
  unfold szOk at h1
  split at h1
  · unfold numSz at h1
    simp at h1
    omega
  · split at h1
    · have : c.z = 0 := by simpa using h1
      omega
    · split at h1
      · unfold byteSz at h1
        simp at h1
        omega
      · cases h1
theorem schOk_bd {S : Sch} (h : schOk S = true) : SchB S := by
  have h0 := h
  unfold schOk at h
  simp only [Bool.and_eq_true, decide_eq_true_eq] at h
  obtain ⟨⟨_, h8, h3⟩, _, hs⟩ := h
  have hset : ∀ i, i < 1 + S.uqs.length → okSet S.cols (i == 0) (setAt S i) = true := fun i hi => (List.all_eq_true.1 hs) i (List.mem_range.2 hi)
  refine ⟨h8, fun c hc => ?_, okSet_int h8 (hset 0 (by omega)), h3, fun l hl => ?_⟩
  · obtain ⟨k, hk, rfl⟩ := List.getElem_of_mem hc
    exact colOk_bd (schOk_col h0 hk rfl)
  · obtain ⟨k, hk, rfl⟩ := List.getElem_of_mem hl
    have := okSet_int h8 (hset (k + 1) (by omega))
    rwa [show setAt S (k + 1) = S.uqs[k] by unfold setAt; simp [hk]] at this

/-- a number of at most so much -/
def rdNum (most : Nat) (l : List UInt8) : Option (Nat × Nat) := match readN l with
  | some (n, k) => if n ≤ most then some (n, k) else none
  | none => none
/-- a text of at most so many bytes -/
def rdTxt (most : Nat) (l : List UInt8) : Option (List UInt8 × Nat) := match readT l with
  | some (s, k) => if s.length ≤ most then some (s, k) else none
  | none => none
def rdMany {α : Type} (rd : List UInt8 → Option (α × Nat)) : Nat → List UInt8 → Option (List α × Nat)
  | 0, _ => some ([], 0)
  | n + 1, l => match rd l with
    | none => none
    | some (x, k) => match rdMany rd n (l.drop k) with
      | none => none
      | some (xs, m) => some (x :: xs, k + m)
def rdSev {α : Type} (most : Nat) (rd : List UInt8 → Option (α × Nat)) (l : List UInt8) : Option (List α × Nat) := match rdNum most l with
  | none => none
  | some (n, k) => match rdMany rd n (l.drop k) with
    | none => none
    | some (xs, m) => some (xs, k + m)
def rdPlace (l : List UInt8) : Option (Int × Nat) := match rdNum 8 l with
  | some (n, k) => some ((n : Int), k)
  | none => none
def rdPlaces (l : List UInt8) : Option (List Int × Nat) := rdSev 8 rdPlace l
def rdCol (l : List UInt8) : Option (Col × Nat) := match rdTxt 24 l with
  | none => none
  | some (s, a) => match rdNum 4 (l.drop a) with
    | none => none
    | some (t, b) => match rdNum 200 (l.drop (a + b)) with
      | none => none
      | some (z, c) => match rdNum 1 (l.drop (a + b + c)) with
        | none => none
        | some (u, d) => some (⟨⟨s.toArray⟩, t, z, decide (u = 1)⟩, a + b + c + d)
def rdSch (l : List UInt8) : Option (Sch × Nat) := match rdSev 8 rdCol l with
  | none => none
  | some (cs, a) => match rdPlaces (l.drop a) with
    | none => none
    | some (ks, b) => match rdSev 3 rdPlaces (l.drop (a + b)) with
      | none => none
      | some (us, c) => if schOk ⟨cs, ks, us⟩ = true then some (⟨cs, ks, us⟩, a + b + c) else none
/-- sound: what is read has just these bytes; full: what has bytes is read -/
def Snd {α : Type} (rd : List UInt8 → Option (α × Nat)) (enc : α → List UInt8) : Prop := ∀ l x k, rd l = some (x, k) → l.take k = enc x ∧ k ≤ l.length
def Fll {α : Type} (rd : List UInt8 → Option (α × Nat)) (enc : α → List UInt8) (B : α → Prop) : Prop := ∀ x m, B x → rd (enc x ++ m) = some (x, (enc x).length)
theorem take_two {l : List UInt8} {a b : Nat} {x y : List UInt8} (h1 : l.take a = x) (h2 : (l.drop a).take b = y) : l.take (a + b) = x ++ y := by rw [List.take_add, h1, h2]
theorem snd_num (most : Nat) : Snd (rdNum most) numB := fun l x k h => by
  unfold rdNum at h
  cases hr : readN l with
  | none => rw [hr] at h; cases h
  | some y =>
    obtain ⟨n, j⟩ := y
    rw [hr] at h
    simp only at h
    split at h
    · cases h
      exact ⟨readN_take hr, (readN_lt hr).2.2.2⟩
    · cases h
theorem fll_num (most : Nat) (hm : most < 18446744073709551616) : Fll (rdNum most) numB (· ≤ most) := fun x m hx => by
  unfold rdNum
  rw [readN_numB x m (by omega)]
  simp only
  rw [if_pos hx, numB_length]
theorem snd_txt (most : Nat) : Snd (rdTxt most) txtL := fun l x k h => by
  unfold rdTxt at h
  cases hr : readT l with
  | none => rw [hr] at h; cases h
  | some y =>
    obtain ⟨n, j⟩ := y
    rw [hr] at h
    simp only at h
    split at h
    · cases h
      exact readT_take hr
    · cases h
theorem fll_txt (most : Nat) (hm : most ≤ 1000000) : Fll (rdTxt most) txtL (fun s => s.length ≤ most) := fun x m hx => by
  have hx' : x.length ≤ most := hx
  unfold rdTxt
  rw [readT_txt x m (by omega)]
  simp only
  rw [if_pos hx']
theorem snd_many {α : Type} {rd : List UInt8 → Option (α × Nat)} {enc : α → List UInt8} (hs : Snd rd enc) : ∀ n, ∀ l xs k, rdMany rd n l = some (xs, k) → l.take k = xs.flatMap enc ∧ k ≤ l.length ∧ xs.length = n
  | 0, l, xs, k, h => by
    simp only [rdMany, Option.some.injEq, Prod.mk.injEq] at h
    obtain ⟨rfl, rfl⟩ := h
    exact ⟨rfl, Nat.zero_le _, rfl⟩
  | n + 1, l, xs, k, h => by
    simp only [rdMany] at h
    cases hr : rd l with
    | none => rw [hr] at h; cases h
    | some y =>
      obtain ⟨x, a⟩ := y
      rw [hr] at h
      simp only at h
      cases hm : rdMany rd n (l.drop a) with
      | none => rw [hm] at h; cases h
      | some z =>
        obtain ⟨ys, b⟩ := z
        rw [hm] at h
        simp only [Option.some.injEq, Prod.mk.injEq] at h
        obtain ⟨rfl, rfl⟩ := h
        have h1 := hs l x a hr
        have h2 := snd_many hs n _ _ _ hm
        rw [List.length_drop] at h2
        exact ⟨by rw [List.flatMap_cons]; exact take_two h1.1 h2.1, by omega, by simp [h2.2.2]⟩
theorem fll_many {α : Type} {rd : List UInt8 → Option (α × Nat)} {enc : α → List UInt8} {B : α → Prop} (hf : Fll rd enc B) : ∀ (xs : List α) (m : List UInt8), (∀ x ∈ xs, B x) → rdMany rd xs.length (xs.flatMap enc ++ m) = some (xs, (xs.flatMap enc).length)
  | [], _, _ => rfl
  | x :: xs, m, h => by
    rw [List.flatMap_cons, List.length_cons]
    simp only [rdMany]
    rw [List.append_assoc, hf x _ (h x (by simp))]
    simp only
    rw [List.drop_left, fll_many hf xs m (fun y hy => h y (by simp [hy]))]
    simp
theorem snd_sev {α : Type} {rd : List UInt8 → Option (α × Nat)} {enc : α → List UInt8} (most : Nat) (hs : Snd rd enc) : ∀ l xs k, rdSev most rd l = some (xs, k) → l.take k = numB xs.length ++ xs.flatMap enc ∧ k ≤ l.length := fun l xs k h => by
  unfold rdSev at h
  cases hr : rdNum most l with
  | none => rw [hr] at h; cases h
  | some y =>
    obtain ⟨n, a⟩ := y
    rw [hr] at h
    simp only at h
    cases hm : rdMany rd n (l.drop a) with
    | none => rw [hm] at h; cases h
    | some z =>
      obtain ⟨ys, b⟩ := z
      rw [hm] at h
      simp only [Option.some.injEq, Prod.mk.injEq] at h
      obtain ⟨rfl, rfl⟩ := h
      have h1 := snd_num most l n a hr
      have h2 := snd_many hs n _ _ _ hm
      rw [List.length_drop] at h2
      rw [h2.2.2]
      exact ⟨take_two h1.1 h2.1, by omega⟩
theorem fll_sev {α : Type} {rd : List UInt8 → Option (α × Nat)} {enc : α → List UInt8} {B : α → Prop} (most : Nat) (hmo : most < 18446744073709551616) (hf : Fll rd enc B) (xs : List α) (m : List UInt8) (hl : xs.length ≤ most) (h : ∀ x ∈ xs, B x) : rdSev most rd ((numB xs.length ++ xs.flatMap enc) ++ m) = some (xs, (numB xs.length ++ xs.flatMap enc).length) := by
  unfold rdSev
  rw [List.append_assoc, fll_num most hmo xs.length _ hl]
  simp only
  rw [List.drop_left, fll_many hf xs m h]
  simp
theorem snd_place : Snd rdPlace (fun x : Int => numB x.toNat) := fun l x k h => by
  unfold rdPlace at h
  cases hr : rdNum 8 l with
  | none => rw [hr] at h; cases h
  | some y =>
    obtain ⟨n, a⟩ := y
    rw [hr] at h
    cases h
    exact snd_num 8 l n _ hr
theorem fll_place : Fll rdPlace (fun x : Int => numB x.toNat) (fun x => 0 ≤ x ∧ x ≤ 8) := fun x m hx => by
  obtain ⟨h0, h8⟩ := hx
  unfold rdPlace
  simp only
  rw [fll_num 8 (by decide) x.toNat m (show x.toNat ≤ 8 by omega)]
  simp only [Option.some.injEq, Prod.mk.injEq, and_true]
  omega
theorem snd_places : Snd rdPlaces encI := fun l x k h => snd_sev 8 snd_place l x k h
theorem fll_places : Fll rdPlaces encI IntB := fun x m hx => fll_sev 8 (by decide) fll_place x m hx.1 hx.2
theorem snd_col : Snd rdCol encCol := fun l x k h => by
  unfold rdCol at h
  cases h1 : rdTxt 24 l with
  | none => rw [h1] at h; cases h
  | some y1 =>
    obtain ⟨s, a⟩ := y1
    rw [h1] at h
    simp only at h
    cases h2 : rdNum 4 (l.drop a) with
    | none => rw [h2] at h; cases h
    | some y2 =>
      obtain ⟨t, b⟩ := y2
      rw [h2] at h
      simp only at h
      cases h3 : rdNum 200 (l.drop (a + b)) with
      | none => rw [h3] at h; cases h
      | some y3 =>
        obtain ⟨z, c⟩ := y3
        rw [h3] at h
        simp only at h
        cases h4 : rdNum 1 (l.drop (a + b + c)) with
        | none => rw [h4] at h; cases h
        | some y4 =>
          obtain ⟨u, d⟩ := y4
          rw [h4] at h
          simp only [Option.some.injEq, Prod.mk.injEq] at h
          obtain ⟨rfl, rfl⟩ := h
          have k1 := snd_txt 24 l s a h1
          have k2 := snd_num 4 _ t b h2
          have k3 := snd_num 200 _ z c h3
          have k4 := snd_num 1 _ u d h4
          rw [List.length_drop] at k2 k3 k4
          have hu : u ≤ 1 := by
            unfold rdNum at h4
            split at h4
            · split at h4
              · rename_i hu; cases h4; exact hu
              · cases h4
            · cases h4
          have eu : (if decide (u = 1) = true then 1 else 0) = u := by
            by_cases e : u = 1
            · simp [e]
            · have : u = 0 := by omega
              simp [this]
          refine ⟨?_, by omega⟩
          unfold encCol
          simp only [Int.toNat_natCast]
          rw [eu, take_two (take_two (take_two k1.1 k2.1) k3.1) k4.1]
          simp
theorem fll_col : Fll rdCol encCol ColB := fun x m hx => by
  obtain ⟨n, t, z, u⟩ := x
  obtain ⟨hn, ht0, ht, hz0, hz⟩ := hx
  simp only at hn ht0 ht hz0 hz
  unfold rdCol encCol
  simp only [List.append_assoc]
  rw [fll_txt 24 (by decide) n.data.toList _ (show n.data.toList.length ≤ 24 by rw [Array.length_toList]; exact hn)]
  simp only
  rw [List.drop_left, fll_num 4 (by decide) t.toNat _ (show t.toNat ≤ 4 by omega)]
  simp only
  rw [← List.drop_drop, List.drop_left, List.drop_left, fll_num 200 (by decide) z.toNat _ (show z.toNat ≤ 200 by omega)]
  simp only
  rw [← List.drop_drop, ← List.drop_drop, List.drop_left, List.drop_left, List.drop_left, fll_num 1 (by decide) (if u = true then 1 else 0) m (show (if u = true then 1 else 0) ≤ 1 by split <;> omega)]
  simp only [Option.some.injEq, Prod.mk.injEq, List.length_append]
  refine ⟨?_, by omega⟩
  have e1 : ((t.toNat : Nat) : Int) = t := by omega
  have e2 : ((z.toNat : Nat) : Int) = z := by omega
  rw [e1, e2]
  cases u <;> simp
theorem snd_sch {l : List UInt8} {S : Sch} {k : Nat} (h : rdSch l = some (S, k)) : l.take k = schL S ∧ k ≤ l.length ∧ schOk S = true := by
  unfold rdSch at h
  cases h1 : rdSev 8 rdCol l with
  | none => rw [h1] at h; cases h
  | some y1 =>
    obtain ⟨cs, a⟩ := y1
    rw [h1] at h
    simp only at h
    cases h2 : rdPlaces (l.drop a) with
    | none => rw [h2] at h; cases h
    | some y2 =>
      obtain ⟨ks, b⟩ := y2
      rw [h2] at h
      simp only at h
      cases h3 : rdSev 3 rdPlaces (l.drop (a + b)) with
      | none => rw [h3] at h; cases h
      | some y3 =>
        obtain ⟨us, c⟩ := y3
        rw [h3] at h
        simp only at h
        split at h
        · rename_i hok
          cases h
          have k1 := snd_sev 8 snd_col l cs a h1
          have k2 := snd_places _ ks b h2
          have k3 := snd_sev 3 snd_places _ us c h3
          rw [List.length_drop] at k2 k3
          refine ⟨?_, by omega, hok⟩
          unfold schL
          simp only
          rw [take_two (take_two k1.1 k2.1) k3.1]
          simp
        · cases h
theorem fll_sch {S : Sch} (h : schOk S = true) (m : List UInt8) : rdSch (schL S ++ m) = some (S, (schL S).length) := by
  have hb := schOk_bd h
  obtain ⟨cs, ks, us⟩ := S
  unfold rdSch schL
  simp only [List.append_assoc]
  have e1 := fll_sev 8 (by decide) fll_col cs (encI ks ++ (numB us.length ++ (us.flatMap encI ++ m))) hb.cols hb.col
  rw [List.append_assoc] at e1
  rw [e1]
  simp only
  have d1 : ((numB cs.length ++ (cs.flatMap encCol ++ (encI ks ++ (numB us.length ++ (us.flatMap encI ++ m)))))).drop (numB cs.length ++ cs.flatMap encCol).length = encI ks ++ (numB us.length ++ (us.flatMap encI ++ m)) := by
    rw [← List.append_assoc, List.drop_left]
  rw [d1, fll_places ks _ hb.key]
  simp only
  rw [← List.drop_drop, d1, List.drop_left]
  have e3 := fll_sev 3 (by decide) fll_places us m hb.uqs hb.uq
  rw [List.append_assoc] at e3
  rw [e3]
  simp only
  rw [if_pos h]
  simp only [Option.some.injEq, Prod.mk.injEq, List.length_append, true_and]
  omega
/-- the schema that has just these bytes, as the program reads it -/
def decS (l : List UInt8) : Option Sch := match rdSch l with
  | some (S, k) => if k = l.length then some S else none
  | none => none
theorem decS_some {l : List UInt8} {S : Sch} : decS l = some S ↔ schOk S = true ∧ schL S = l := by
  constructor
  · intro h
    unfold decS at h
    cases hr : rdSch l with
    | none => rw [hr] at h; cases h
    | some y =>
      obtain ⟨T, k⟩ := y
      rw [hr] at h
      simp only at h
      split at h
      · rename_i hk
        cases h
        have := snd_sch hr
        rw [hk, List.take_length] at this
        exact ⟨this.2.2, this.1.symm⟩
      · cases h
  · rintro ⟨h, rfl⟩
    have := fll_sch h []
    rw [List.append_nil] at this
    unfold decS
    rw [this]
    simp
/-- no two schemas that may be have the same bytes -/
theorem schL_inj {S T : Sch} (hS : schOk S = true) (hT : schOk T = true) (h : schL S = schL T) : S = T := by
  have h1 := decS_some.2 ⟨hS, rfl⟩
  rw [h, decS_some.2 ⟨hT, rfl⟩] at h1
  exact (Option.some.inj h1).symm
end Go.Proofs.YtocmjlnhcloccaaGreatDoor
namespace Go.Proofs.YtocmjlnhcloccaaGreatDoor
open Go.RowKit

theorem numB_le9 (n : Nat) (h : n < 18446744073709551616) : (numB n).length ≤ 9 := by
  rw [numB_length]
  have := sizeOf8_le n h
  omega
def nsB (l : List Int) : List UInt8 := l.flatMap fun x => numB x.toNat
theorem nsB_len : ∀ l : List Int, (∀ x ∈ l, x ≤ 9223372036854775807) → (nsB l).length ≤ 9 * l.length
  | [], _ => Nat.le_refl _
  | x :: l, h => by
    have h1 := nsB_len l (fun y hy => h y (by simp [hy]))
    have h2 := numB_le9 x.toNat (by have := h x (by simp); omega)
    unfold nsB at h1 ⊢
    rw [List.flatMap_cons, List.length_append, List.length_cons]
    omega
theorem nsB_next {l : List Int} {k : Nat} {x : Int} (h : k < l.length) (hx : l[k] = x) : nsB (l.take (k + 1)) = nsB (l.take k) ++ numB x.toNat := by
  unfold nsB
  rw [List.take_succ_eq_append_getElem h, hx, List.flatMap_append]
  simp
theorem u64_nn {x : Int} (h0 : 0 ≤ x) (h1 : x ≤ 9223372036854775807) : IntKind.u64.wrap x = ((x.toNat : Nat) : Int) := by
  rw [u64_of, Int.emod_eq_of_lt h0 (by omega)]
set_option maxRecDepth 100000 in
set_option maxHeartbeats 2000000 in
theorem rnumbers_any (oa : Option Addr) (cap : Nat) (l : List Int) (w : World) (hi : IntsIn w oa l) (hl : l.length ≤ 1000) (hb : ∀ x ∈ l, 0 ≤ x ∧ x ≤ 9223372036854775807) :
    Calls Tryz.prog 51 #[.slice oa l.length cap] w (OwnBytes w (encI l)) := by
  have HI := Lib.hid hi
  have HBD := Lib.hid hb
  have hcv : IntKind.u64.wrap (l.length : Int) = ((l.length : Nat) : Int) := by rw [u64_nn (by omega) (by omega)]; simp
  have HN := Lib.hid (fun W n (h : n < 18446744073709551616) => rNumber_any n h W)
  clear hi hb
  go_enter Tryz.func51, Tryz.ntmps51
  go_wp2_with fail
  try rw [hcv]
  refine (HN.out _ l.length (by omega)).mono ?_
  rintro e w1 ⟨v, rfl, hown, hb1⟩
  have HO1 := Lib.hid hown
  have HB1 := Lib.hid hb1
  clear hown hb1 hcv
  go_wp2_with fail
  go_loopw [3, 4] (fun o i wr => ∃ (k : Nat) (L : List UInt8), k ≤ l.length ∧ i = .int .i64 k ∧ Hid (L = numB l.length ++ nsB (l.take k)) ∧ Hid (wr.ownsRow w.heap.size 5 1 o L.length (u8s L)) ∧ Hid (Below w.heap.size w wr)) (fun _ i _ => l.length - (intOf i).toNat)
  case atStart => exact ⟨0, _, Nat.zero_le _, rfl, Lib.hid (by rw [List.take_zero]; simp [nsB]), HO1, HB1⟩
  case round =>
    obtain ⟨k, L, hk, rfl, HL, HO, HB⟩ := hrel
    by_cases hlt : k < l.length
    · obtain ⟨x, hx⟩ : ∃ x, l[k] = x := ⟨_, rfl⟩
      obtain ⟨a, rfl, hc⟩ := HI.out.keep HB.out (Nat.le_refl _) k hlt
      rw [hx] at hc
      have hbx := HBD.out x (hx ▸ List.getElem_mem hlt)
      have hLl : L.length ≤ 9 + 9 * k := by
        have h := nsB_len (l.take k) (fun y hy => (HBD.out y (List.mem_of_mem_take hy)).2)
        have h2 := numB_le9 l.length (by omega)
        rw [HL.out, List.length_append]
        rw [List.length_take] at h
        omega
      obtain ⟨n, rfl⟩ := Int.eq_ofNat_of_zero_le hbx.1
      have hxn : n < 18446744073709551616 := by omega
      have HM := Lib.hid (show L ++ numB n = numB l.length ++ nsB (l.take (k + 1)) by rw [HL.out, nsB_next hlt hx, List.append_assoc, Int.toNat_natCast])
      have h9 := numB_le9 n hxn
      have hcv : IntKind.u64.wrap (n : Int) = (n : Int) := by rw [u64_nn (by omega) (by omega)]; simp
      have hk2 : (k : Int) < (l.length : Int) := by omega
      clear hx hbx
      go_wp2_with fail
      try rw [hcv]
      refine (HN.out _ n hxn).mono ?_
      rintro e w2 ⟨v2, rfl, hown2, hb2⟩
      have HS2 := Lib.hid (BytesOf.own hown2)
      have HB2 := Lib.hid (HB.out.trans (hb2.mono HB.out.size))
      have HO2 := Lib.hid (show w2.ownsRow w.heap.size 5 1 _ L.length (u8s L) from own_keep HO.out hb2)
      have hsz := HB2.out.size
      clear hown2 hb2 hcv hc
      go_wp2_with (at_builtin; refine wpList_append_bytes rfl _ _ rfl w.heap.size _ _ _ L (numB n) rfl rfl HO2.out rfl HS2.out ?c1 ?c2 ?_)
      case c1 => omega
      case c2 => exact hsz
      intro v3 w3 hown3 hg3
      have HB3 := Lib.hid (HB2.out.grown hg3 hsz (fun y hy => (HO2.out.lt y hy).1))
      have HO3 := Lib.hid hown3
      clear hown3 hg3
      go_wp2_with fail
      go_roundw
      case rel => exact ⟨k + 1, L ++ numB n, by omega, by go_num, HM, by rw [List.length_append]; exact HO3, HB3⟩
      case measure => simp [intOf]; omega
    · obtain rfl : k = l.length := by omega
      go_wp2_with fail
      go_ret
      have e : L = encI l := by rw [HL.out, List.take_length]; rfl
      rw [← e]
      exact ⟨_, rfl, HO.out, HB.out⟩
end Go.Proofs.YtocmjlnhcloccaaGreatDoor
namespace Go.Proofs.YtocmjlnhcloccaaGreatDoor
open Go.RowKit

/-- places in a block of places -/
def IntsT (W : World) (oa : Option Addr) (l : List Int) : Prop := IntsIn W oa l ∧ ∀ a, oa = some a → ∃ cs, W.heap[a.block]? = some (.cells cs 3 (0, 0))
theorem IntsT.below {W W' : World} {oa : Option Addr} {l : List Int} (h : IntsT W oa l) (hb : Below W.heap.size W W') : IntsT W' oa l :=
  ⟨h.1.keep hb (Nat.le_refl _), fun a ha => by
    obtain ⟨cs, hc⟩ := h.2 a ha
    exact ⟨cs, (hb.block _ (Array.getElem?_eq_some_iff.1 hc).1).trans hc⟩⟩
theorem IntsT.grown {W W' : World} {B n : Nat} {v : Value} {xs : List Value} {oa : Option Addr} {l : List Int} (h : IntsT W oa l) (hr : W.ownsRow B 5 1 v n xs) (hg : W.grownBy W' v.ownBlock) : IntsT W' oa l := by
  have hk : ∀ a, oa = some a → W'.heap[a.block]? = W.heap[a.block]? := fun a ha => by
    obtain ⟨cs, hc⟩ := h.2 a ha
    refine hg.block _ (Array.getElem?_eq_some_iff.1 hc).1 (fun e => ?_)
    rcases hr.2 with ⟨rfl, _⟩ | ⟨g, cap, cur, rfl, _, hgc, _⟩
    · cases e
    · have e' : a.block = g := Option.some.inj e
      rw [e', hgc] at hc
      simp only [Option.some.injEq, Obj.cells.injEq] at hc
      exact absurd hc.2.1 (by decide)
  refine ⟨fun j hj => ?_, fun a ha => ?_⟩
  · obtain ⟨a, ha, hc⟩ := h.1 j hj
    exact ⟨a, ha, (World.cell?_of_block (by rw [Addr.add_block]; exact hk a ha)).trans hc⟩
  · obtain ⟨cs, hc⟩ := h.2 a ha
    exact ⟨cs, (hk a ha).trans hc⟩
/-- bytes laid behind those of a row of one's own -/
def LaidBy (B : Nat) (w : World) (L : List UInt8) (e : Ending) (w' : World) : Prop := ∃ v, e = .returned v ∧ w'.ownsRow B 5 1 v L.length (u8s L) ∧ Below B w w'
set_option maxRecDepth 100000 in
set_option maxHeartbeats 2000000 in
theorem layNumbers_any (B : Nat) (v : Value) (L : List UInt8) (oa : Option Addr) (cap : Nat) (l : List Int) (w : World) (ho : w.ownsRow B 5 1 v L.length (u8s L)) (hB : B ≤ w.heap.size) (hi : IntsT w oa l) (hl : l.length ≤ 1000) (hL : L.length ≤ 100000) (hb : ∀ x ∈ l, 0 ≤ x ∧ x ≤ 9223372036854775807) :
    Calls Tryz.prog 73 #[v, .slice oa l.length cap] w (LaidBy B w (L ++ nsB l)) := by
  have HO0 := Lib.hid ho
  have HI0 := Lib.hid hi
  have HBD := Lib.hid hb
  have HN := Lib.hid (fun W n (h : n < 18446744073709551616) => Number_any n W h)
  clear hi hb ho
  go_enter Tryz.func73, Tryz.ntmps73
  go_wp2_with fail
  go_loopw [0, 6, 9] (fun o _ i wr => ∃ (k : Nat) (M : List UInt8), k ≤ l.length ∧ i = .int .i64 k ∧ Hid (M = L ++ nsB (l.take k)) ∧ Hid (wr.ownsRow B 5 1 o M.length (u8s M)) ∧ Hid (IntsT wr oa l) ∧ Hid (Below B w wr) ∧ B ≤ wr.heap.size) (fun _ _ i _ => l.length - (intOf i).toNat)
  case atStart => exact ⟨0, _, Nat.zero_le _, rfl, Lib.hid (by rw [List.take_zero]; simp [nsB]), HO0, HI0, Lib.hid (Below.refl _ _), hB⟩
  case round =>
    obtain ⟨k, M, hk, rfl, HM, HO, HI, HB, hBs⟩ := hrel
    by_cases hlt : k < l.length
    · obtain ⟨x, hx⟩ : ∃ x, l[k] = x := ⟨_, rfl⟩
      obtain ⟨a, rfl, hc⟩ := HI.out.1 k hlt
      rw [hx] at hc
      have hbx := HBD.out x (hx ▸ List.getElem_mem hlt)
      have hMl : M.length ≤ 100000 + 9 * k := by
        have h := nsB_len (l.take k) (fun y hy => (HBD.out y (List.mem_of_mem_take hy)).2)
        rw [HM.out, List.length_append]
        rw [List.length_take] at h
        omega
      obtain ⟨n, rfl⟩ := Int.eq_ofNat_of_zero_le hbx.1
      have hxn : n < 18446744073709551616 := by omega
      have HM2 := Lib.hid (show M ++ numB n = L ++ nsB (l.take (k + 1)) by rw [HM.out, nsB_next hlt hx, List.append_assoc, Int.toNat_natCast])
      have h9 := numB_le9 n hxn
      have hcv : IntKind.u64.wrap (n : Int) = (n : Int) := by rw [u64_nn (by omega) (by omega)]; simp
      have hk2 : (k : Int) < (l.length : Int) := by omega
      clear hx hbx
      go_wp2_with fail
      try rw [hcv]
      refine (HN.out _ n hxn).mono ?_
      rintro e w2 ⟨v2, rfl, g, room, hg2, rfl, hown2, hb2⟩
      have HS2 := Lib.hid (BytesOf.own hown2)
      have HB2 := Lib.hid (HB.out.trans (hb2.mono hBs))
      have HO2 := Lib.hid (own_keep HO.out hb2)
      have HI2 := Lib.hid (HI.out.below hb2)
      have hsz2 : B ≤ w2.heap.size := Nat.le_trans hBs hb2.size
      clear hown2 hb2 hcv hc hg2
      go_wp2_with (at_builtin; refine wpList_append_bytes rfl _ _ rfl B _ _ _ M (numB n) rfl rfl HO2.out rfl HS2.out ?c1 ?c2 ?_)
      case c1 => omega
      case c2 => exact hsz2
      intro v3 w3 hown3 hg3
      have HB3 := Lib.hid (HB2.out.grown hg3 hsz2 (fun y hy => (HO2.out.lt y hy).1))
      have HI3 := Lib.hid (HI2.out.grown HO2.out hg3)
      have HO3 := Lib.hid hown3
      have hsz3 : B ≤ w3.heap.size := Nat.le_trans hsz2 hg3.size
      clear hown3 hg3
      go_wp2_with fail
      go_roundw
      case rel => exact ⟨k + 1, M ++ numB n, by omega, by go_num, HM2, by rw [List.length_append]; exact HO3, HI3, HB3, hsz3⟩
      case measure => simp [intOf]; omega
    · obtain rfl : k = l.length := by omega
      go_wp2_with fail
      go_ret
      have e : M = L ++ nsB l := by rw [HM.out, List.take_length]
      rw [← e]
      exact ⟨_, rfl, HO.out, HB.out⟩
set_option maxRecDepth 100000 in
theorem truth_any (u : Bool) (w : World) : Calls Tryz.prog 75 #[.bool u] w fun e w' => e = .returned (.int .i64 (if u = true then 1 else 0)) ∧ w = w' := by
  cases u
  · go_enter Tryz.func75, Tryz.ntmps75
    go_wp2_with fail
    go_ret
    exact ⟨rfl, rfl⟩
  · go_enter Tryz.func75, Tryz.ntmps75
    go_wp2_with fail
    go_ret
    exact ⟨rfl, rfl⟩
end Go.Proofs.YtocmjlnhcloccaaGreatDoor
namespace Go.Proofs.YtocmjlnhcloccaaGreatDoor
open Go.RowKit

theorem wpList_append_bytes_at {w : World} {ops : Array Oper} {rest : List Oper} {o : Oper} {a : Act} {Q : Exit → Act → World → Prop} (hgd : o.guard = none) (s x : Operand)
    (ho : o.op = .call { callee := .builtin .append, args := #[s, x], argTypes := #[31, 31] })
    (base : Nat) (v vb : Value) (n : Nat) (l m : List UInt8) (hs : a.eval s = v) (hx : a.eval x = vb) (hown : w.ownsRow base 5 1 v n (u8s l)) (hn : n = l.length) (hsrc : BytesOf w vb m)
    (hlen : n + m.length ≤ 1000000) (hbase : base ≤ w.heap.size)
    (h : ∀ v' w', w'.ownsRow base 5 1 v' (l ++ m).length (u8s (l ++ m)) → w.grownBy w' v.ownBlock → (v'.ownBlock = v.ownBlock ∨ ∀ g, v'.ownBlock = some g → w.heap.size ≤ g) → wpList Tryz.prog ops Q rest (a.put o.dst v') w') : wpList Tryz.prog ops Q (o :: rest) a w := by
  subst hn
  obtain ⟨i0, hi0, hz0, hz1, hz2⟩ := info_parts infoU8
  rcases hsrc with ⟨rfl, rfl⟩ | ⟨ad, cap, rfl, hl, hc⟩
  · refine wpList_append_own_none hgd s x 31 ho base 5 i0 1 Tryz.underlying31 hi0 v l.length (u8s l) hs hown hx (h v w ?_ (World.grownBy.refl w _) (.inl rfl))
    rw [List.append_nil]
    exact hown
  · refine wpList_append_own_at w hgd s x 31 ho base 5 i0 (.int .u8 0) 1 1 Tryz.underlying31 hi0 hz0 hz1 hz2 rfl (by decide) v l.length (u8s l) hs hown ad m.length cap (u8s m) hx (by simp [u8s]) ?_ ?_ (by unfold maxLen; omega) (by omega) hbase ?_
    · intro j u hj
      have hj' : j < m.length := by have := (List.getElem?_eq_some_iff.1 hj).1; simpa [u8s] using this
      rw [hc j hj', ← hj]
      simp [u8s, hj']
    · intro u hu
      simp only [u8s, List.mem_map] at hu
      obtain ⟨c, _, rfl⟩ := hu
      rfl
    · intro v' w' hown' hg _ hat
      refine h v' w' ?_ hg (hat.imp_right fun e g hgg => by rw [e] at hgg; cases hgg; exact Nat.le_refl _)
      rw [List.length_append]
      unfold u8s at hown' ⊢
      rw [List.map_append]
      exact hown'

/-- all blocks but the row's lie as they lay; the row lies where it lay, or anew -/
structure GB (w : World) (v : Value) (w' : World) (v' : Value) : Prop where
  size : w.heap.size ≤ w'.heap.size
  same : ∀ k, k < w.heap.size → some k ≠ v.ownBlock → w'.heap[k]? = w.heap[k]?
  place : v'.ownBlock = v.ownBlock ∨ ∀ g, v'.ownBlock = some g → w.heap.size ≤ g
theorem GB.refl (w : World) (v : Value) : GB w v w v := ⟨Nat.le_refl _, fun _ _ _ => rfl, .inl rfl⟩
theorem GB.keep {w w1 w2 : World} {v v1 : Value} (h : GB w v w1 v1) (hb : Below w1.heap.size w1 w2) : GB w v w2 v1 :=
  ⟨Nat.le_trans h.size hb.size, fun k hk hn => (hb.block k (Nat.lt_of_lt_of_le hk h.size)).trans (h.same k hk hn), h.place⟩
theorem GB.trans {w w1 w2 : World} {v v1 v2 : Value} (h : GB w v w1 v1) (g : GB w1 v1 w2 v2) : GB w v w2 v2 := by
  refine ⟨Nat.le_trans h.size g.size, fun k hk hn => (g.same k (Nat.lt_of_lt_of_le hk h.size) (fun e => ?_)).trans (h.same k hk hn), ?_⟩
  · rcases h.place with p | p
    · exact hn (e.trans p)
    · have := p k e.symm
      omega
  · rcases g.place with q | q
    · rcases h.place with p | p
      · exact .inl (q.trans p)
      · exact .inr fun k e => p k (q ▸ e)
    · exact .inr fun k e => Nat.le_trans h.size (q k e)
theorem GB.grown {w w1 w2 : World} {v v1 v2 : Value} (h : GB w v w1 v1) (hg : w1.grownBy w2 v1.ownBlock) (hp : v2.ownBlock = v1.ownBlock ∨ ∀ g, v2.ownBlock = some g → w1.heap.size ≤ g) : GB w v w2 v2 :=
  h.trans ⟨hg.size, fun k hk hn => hg.block k hk hn, hp⟩
set_option maxRecDepth 100000 in
set_option maxHeartbeats 2000000 in
theorem layNumbersG_any (B : Nat) (v : Value) (L : List UInt8) (oa : Option Addr) (cap : Nat) (l : List Int) (w : World) (ho : w.ownsRow B 5 1 v L.length (u8s L)) (hB : B ≤ w.heap.size) (hi : IntsT w oa l) (hl : l.length ≤ 1000) (hL : L.length ≤ 100000) (hb : ∀ x ∈ l, 0 ≤ x ∧ x ≤ 9223372036854775807) :
    Calls Tryz.prog 73 #[v, .slice oa l.length cap] w fun e w' => ∃ v', e = .returned v' ∧ w'.ownsRow B 5 1 v' (L ++ nsB l).length (u8s (L ++ nsB l)) ∧ Below B w w' ∧ GB w v w' v' := by
  have HO0 := Lib.hid ho
  have HI0 := Lib.hid hi
  have HBD := Lib.hid hb
  have HN := Lib.hid (fun W n (h : n < 18446744073709551616) => Number_any n W h)
  clear hi hb ho
  go_enter Tryz.func73, Tryz.ntmps73
  go_wp2_with fail
  go_loopw [0, 6, 9] (fun o _ i wr => ∃ (k : Nat) (M : List UInt8), k ≤ l.length ∧ i = .int .i64 k ∧ Hid (M = L ++ nsB (l.take k)) ∧ Hid (wr.ownsRow B 5 1 o M.length (u8s M)) ∧ Hid (IntsT wr oa l) ∧ Hid (Below B w wr) ∧ Hid (GB w v wr o) ∧ B ≤ wr.heap.size) (fun _ _ i _ => l.length - (intOf i).toNat)
  case atStart => exact ⟨0, _, Nat.zero_le _, rfl, Lib.hid (by rw [List.take_zero]; simp [nsB]), HO0, HI0, Lib.hid (Below.refl _ _), Lib.hid (GB.refl _ _), hB⟩
  case round =>
    obtain ⟨k, M, hk, rfl, HM, HO, HI, HB, HG, hBs⟩ := hrel
    by_cases hlt : k < l.length
    · obtain ⟨x, hx⟩ : ∃ x, l[k] = x := ⟨_, rfl⟩
      obtain ⟨a, rfl, hc⟩ := HI.out.1 k hlt
      rw [hx] at hc
      have hbx := HBD.out x (hx ▸ List.getElem_mem hlt)
      have hMl : M.length ≤ 100000 + 9 * k := by
        have h := nsB_len (l.take k) (fun y hy => (HBD.out y (List.mem_of_mem_take hy)).2)
        rw [HM.out, List.length_append]
        rw [List.length_take] at h
        omega
      obtain ⟨n, rfl⟩ := Int.eq_ofNat_of_zero_le hbx.1
      have hxn : n < 18446744073709551616 := by omega
      have HM2 := Lib.hid (show M ++ numB n = L ++ nsB (l.take (k + 1)) by rw [HM.out, nsB_next hlt hx, List.append_assoc, Int.toNat_natCast])
      have h9 := numB_le9 n hxn
      have hcv : IntKind.u64.wrap (n : Int) = (n : Int) := by rw [u64_nn (by omega) (by omega)]; simp
      have hk2 : (k : Int) < (l.length : Int) := by omega
      clear hx hbx
      go_wp2_with fail
      try rw [hcv]
      refine (HN.out _ n hxn).mono ?_
      rintro e w2 ⟨v2, rfl, g, room, hg2, rfl, hown2, hb2⟩
      have HS2 := Lib.hid (BytesOf.own hown2)
      have HB2 := Lib.hid (HB.out.trans (hb2.mono hBs))
      have HO2 := Lib.hid (own_keep HO.out hb2)
      have HG2 := Lib.hid (HG.out.keep hb2)
      have HI2 := Lib.hid (HI.out.below hb2)
      have hsz2 : B ≤ w2.heap.size := Nat.le_trans hBs hb2.size
      clear hown2 hb2 hcv hc hg2
      go_wp2_with (at_builtin; refine wpList_append_bytes_at rfl _ _ rfl B _ _ _ M (numB n) rfl rfl HO2.out rfl HS2.out ?c1 ?c2 ?_)
      case c1 => omega
      case c2 => exact hsz2
      intro v3 w3 hown3 hg3 hat3
      have HG3 := Lib.hid (HG2.out.grown hg3 hat3)
      have HB3 := Lib.hid (HB2.out.grown hg3 hsz2 (fun y hy => (HO2.out.lt y hy).1))
      have HI3 := Lib.hid (HI2.out.grown HO2.out hg3)
      have HO3 := Lib.hid hown3
      have hsz3 : B ≤ w3.heap.size := Nat.le_trans hsz2 hg3.size
      clear hown3 hg3 hat3
      go_wp2_with fail
      go_roundw
      case rel => exact ⟨k + 1, M ++ numB n, by omega, by go_num, HM2, by rw [List.length_append]; exact HO3, HI3, HB3, HG3, hsz3⟩
      case measure => simp [intOf]; omega
    · obtain rfl : k = l.length := by omega
      go_wp2_with fail
      go_ret
      have e : M = L ++ nsB l := by rw [HM.out, List.take_length]
      rw [← e]
      exact ⟨_, rfl, HO.out, HB.out, HG.out⟩
end Go.Proofs.YtocmjlnhcloccaaGreatDoor
namespace Go.Proofs.YtocmjlnhcloccaaGreatDoor
open Go.RowKit Go.Shelf
attribute [local go_sem] Oper.semAt_some

def FxT (L : List (List Int)) (x : NSl) (W : World) : Prop := IntsT W x.2.1 (L.getD x.1 [])
/-- what lay from block N on lies -/
structure LoN (N : Nat) (w W : World) : Prop where
  size : w.heap.size ≤ W.heap.size
  same : ∀ k, N ≤ k → k < w.heap.size → W.heap[k]? = w.heap[k]?
theorem LoN.of {N : Nat} {w W : World} (h : Below w.heap.size w W) : LoN N w W := ⟨h.size, fun k _ hk => h.block k hk⟩
theorem LoN.trans {N : Nat} {w W W' : World} (h : LoN N w W) (k : Below W.heap.size W W') : LoN N w W' := ⟨Nat.le_trans h.size k.size, fun i hn hi => (k.block i (Nat.lt_of_lt_of_le hi h.size)).trans (h.same i hn hi)⟩
theorem LoN.kept {N : Nat} {w W W' : World} {B m : Nat} (h : LoN N w W) (k : KeepM B m (fun k => N ≤ k ∧ k < w.heap.size) W W') : LoN N w W' := ⟨Nat.le_trans h.size k.size, fun i hn hi => (k.same i (Nat.lt_of_lt_of_le hi h.size) (.inr ⟨hn, hi⟩)).trans (h.same i hn hi)⟩
theorem LoN.cell {N : Nat} {w W : World} (h : LoN N w W) {p : Addr} {v : Value} (hc : w.cell? p = some v) (hp : N ≤ p.block) : W.cell? p = some v := (World.cell?_of_block (h.same _ hp (World.block_lt_of_cell? w p hc))).trans hc
theorem LoN.ints {N : Nat} {w W : World} (h : LoN N w W) {oa : Option Addr} {l : List Int} (hi : IntsIn w oa l) (hp : ∀ a, oa = some a → N ≤ a.block) : IntsIn W oa l := fun j hj => by
  obtain ⟨a, e, hc⟩ := hi j hj
  exact ⟨a, e, h.cell hc (by rw [Addr.add_block]; exact hp a e)⟩
set_option maxRecDepth 100000 in
set_option maxHeartbeats 4000000 in
theorem sets1_turnsG (n : Nat) (hn : 1 ≤ n) (cb : Nat) (oo : Option Addr) (co : Nat) (L : List (List Int)) (hs : List (Option Addr × Nat)) (w : World) (hcb : w.cell? ⟨cb, 0, none⟩ = some (.slice oo L.length co)) (hS : SetsAt w oo L hs) (hl : L.length ≤ 100) (hll : ∀ l ∈ L, l.length ≤ 1000) (N : Nat) (hN1 : N ≤ cb) (hN2 : ∀ a, oo = some a → N ≤ a.block) (hN3 : ∀ j, j < L.length → ∀ a, (hAt hs j).1 = some a → N ≤ a.block) :
    SeqTurnsX Fence.wide n Tryz.prog 114 #[] #[.pointer (some ⟨cb, 0, none⟩)] (encO L) (fun k => N ≤ k ∧ k < w.heap.size) 0 (fun xs => xs.map (·.1) = List.range L.length) (SpO L) (FxT L) w := fun ll J Jx W hW hJ hJx hY h0 => by
  have hc0 := (LoN.of (N := N) hW).cell hcb hN1
  have HLo := Lib.hid (LoN.of (N := N) hW)
  have HS := Lib.hid hS
  have HLL := Lib.hid hll
  have HY := Lib.hid hY
  have HJ0 := Lib.hid h0
  clear hY h0 hW hS hcb hll
  refine callsIn_of_wp Tryz.func114 rfl trivial ?_ rfl
  simp only [Tryz.ntmps114, List.size_toArray, List.length_cons, List.length_nil, Nat.reduceAdd, Nat.reduceSub, Array.replicate_succ, Array.replicate_zero, List.push_toArray, List.append_toArray, List.nil_append, List.cons_append]
  gi_wp2
  gi_loopw [7] (fun i wr => ∃ (k : Nat) (pre : List NSl), k ≤ L.length ∧ i = .int .i64 k ∧ Hid (pre.map (·.1) = List.range k) ∧ Hid (J pre wr) ∧ Hid (LoN N w wr) ∧ W.heap.size ≤ wr.heap.size) (fun i _ => L.length - (intOf i).toNat)
  case atStart => exact ⟨0, [], Nat.zero_le _, rfl, Lib.hid rfl, HJ0, HLo, Nat.le_refl _⟩
  case round =>
    obtain ⟨k, pre, hk, rfl, HP, HJ, HLo2, hsz⟩ := hrel
    clear HJ0 HLo hc0
    by_cases hlt : k < L.length
    · obtain ⟨ao, rfl, hcell0, hcap, hi0⟩ := HS.out k hlt
      have hcell := HLo2.out.cell hcell0 (by rw [Addr.add_block]; exact hN2 _ rfl)
      have hint := HLo2.out.ints hi0 (hN3 k hlt)
      have hlk := HLL.out _ (List.getElem_mem hlt)
      have hgd : L.getD k [] = L[k] := by rw [List.getD_eq_getElem?_getD, List.getElem?_eq_getElem hlt]; rfl
      have HC := Lib.hid (CloneI_any (hAt hs k).1 (hAt hs k).2 L[k] _ hint hlk)
      have HGD := Lib.hid hgd
      clear hcell0 hi0 hint hgd
      generalize L[k] = l at *
      gi_wp2
      refine ⟨trivial, (callsIn_wide.2 HC.out).mono ?_⟩
      rintro e w3 ⟨ob, cb3, rfl, hN⟩
      have hYk := HY.out pre (k, (ob, cb3)) w3 (hJ.ext _ _ _ HJ.out hN.below) ⟨k + 1, snoc_fst HP.out, hlt⟩ (show IntsT w3 ob (L.getD k []) by rw [HGD.out]; exact ⟨hN.ints, hN.ty⟩) (by have := hN.below.size; omega)
      rw [show encO L (k, (ob, cb3)) = #[.int .i64 k, .slice ob l.length cb3] by unfold encO; rw [HGD.out]] at hYk
      obtain ⟨fn, tmps, assign, body, hy, hR⟩ := hYk
      have HLo3 := Lib.hid (HLo2.out.trans hN.below)
      have hs3 := hN.below.size
      clear hN hcell HC
      gi_wp2
      refine hR.mono ?_
      rintro e w4 (⟨rfl, hJ4, hk4⟩ | ⟨rfl, hJx4, _⟩)
      · have HJ4 := Lib.hid hJ4
        have HLo4 := Lib.hid (HLo3.out.kept hk4)
        have HP4 := Lib.hid (snoc_fst (h := (ob, cb3)) HP.out)
        have hs4 := hk4.size
        clear hJ4 hk4 hy hR HLo3 HLo2 HJ
        gi_wp2
        go_roundw
        case rel => exact ⟨k + 1, _, hlt, by go_num, HP4, HJ4, HLo4, by omega⟩
        case measure => simp [intOf]; omega
      · have HJ4 := Lib.hid hJx4
        have HP4 := Lib.hid (snoc_fst (h := (ob, cb3)) HP.out)
        clear hJx4 hy hR
        gi_wp2
        refine bodyPost_ret (results_none rfl _ _ _) rfl ?_
        exact ⟨⟨_, rfl⟩, .inr ⟨_, ⟨k + 1, HP4.out, hlt⟩, HJ4.out⟩⟩
    · obtain rfl : k = L.length := by omega
      gi_wp2
      go_end0
      exact ⟨⟨_, rfl⟩, .inl ⟨pre, HP.out, HJ.out⟩⟩
end Go.Proofs.YtocmjlnhcloccaaGreatDoor
