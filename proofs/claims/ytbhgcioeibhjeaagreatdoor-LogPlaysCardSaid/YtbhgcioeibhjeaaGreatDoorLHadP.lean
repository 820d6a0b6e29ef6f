/-
  log, pure: P10.4: behind a crash there are the first ones of the records, and perhaps a first part of the next.
-/
import Derived.Test.YtbhgcioeibhjeaaGreatDoorLEcT
import Derived.Test.YtbhgcioeibhjeaaGreatDoorDHad
import Derived.Test.YtbhgcioeibhjeaaGreatDoorLOps
namespace Go.Proofs.YtbhgcioeibhjeaaGreatDoor
open Go.RowKit

def catR (L : List (List UInt8)) : List UInt8 := (L.map recL).flatten
theorem catR_cons (b : List UInt8) (L : List (List UInt8)) : catR (b :: L) = recL b ++ catR L := rfl
theorem catR_append (L M : List (List UInt8)) : catR (L ++ M) = catR L ++ catR M := by simp [catR]
theorem catR_take {L : List (List UInt8)} {i : Nat} (h : i < L.length) : catR (L.take (i + 1)) = catR (L.take i) ++ recL L[i] := by
  rw [List.take_succ_eq_append_getElem h, catR_append]
  simp [catR]
theorem catR_len (L : List (List UInt8)) (h : ∀ b ∈ L, b.length ≤ 60) : (catR L).length ≤ 68 * L.length := by
  induction L with
  | nil => simp [catR]
  | cons b L ih =>
    have h1 := h b (by simp)
    have h2 := ih (fun c hc => h c (by simp [hc]))
    rw [catR_cons, List.length_append, recL_length, List.length_cons]
    omega
/-- a first part of a record -/
def Torn (t : List UInt8) : Prop := ∃ b, b.length ≤ 60000 ∧ t.length < (recL b).length ∧ (recL b).take t.length = t
theorem torn_nil : Torn [] := ⟨[], by simp, by rw [recL_length]; simp, by simp⟩
def recsAt : Nat → List (List UInt8) → List (Nat × List UInt8)
  | _, [] => []
  | i, b :: L => (i, b) :: recsAt (i + 8 + b.length) L
theorem bsR_recs : ∀ (L : List (List UInt8)) (i : Nat), bsR (recsAt i L) = L
  | [], _ => rfl
  | b :: L, i => by
    have := bsR_recs L (i + 8 + b.length)
    unfold bsR at this ⊢
    simp [recsAt, this]
theorem recs_len (L : List (List UInt8)) (i : Nat) : (recsAt i L).length = L.length := by
  have h := congrArg List.length (bsR_recs L i)
  unfold bsR at h
  rwa [List.length_map] at h
theorem endF_recs : ∀ (L : List (List UInt8)) (i : Nat), endF i (recsAt i L) = i + (catR L).length
  | [], i => by simp [endF, recsAt, catR]
  | b :: L, i => by
    rw [recsAt, endF_cons, endF_recs L, catR_cons, List.length_append, recL_length]
    simp only
    omega
theorem walk_recs {s : List UInt8} {O : Nat → Option (List UInt8)} (hO : StepOk s.length O) (hy : ∀ p b q, s = p ++ (recL b ++ q) → b.length ≤ 60000 → O p.length = some b) (hn : ∀ p t, s = p ++ t → Torn t → O p.length = none) :
    ∀ (L : List (List UInt8)) (p t : List UInt8), s = p ++ (catR L ++ t) → (∀ b ∈ L, b.length ≤ 60000) → Torn t → walkW s.length O p.length = recsAt p.length L
  | [], p, t, h, _, ht => walkW_none (hn p t (by rw [h]; simp [catR]) ht)
  | b :: L, p, t, h, hb, ht => by
    have h1 : s = p ++ (recL b ++ (catR L ++ t)) := by rw [h, catR_cons, List.append_assoc]
    rw [walkW_some hO (hy p b _ h1 (hb b (by simp))), recsAt]
    have h2 := walk_recs hO hy hn L (p ++ recL b) t (by rw [h1, List.append_assoc]) (fun c hc => hb c (by simp [hc])) ht
    have hl : (p ++ recL b).length = p.length + 8 + b.length := by rw [List.length_append, recL_length]; omega
    rw [hl] at h2
    rw [h2]
theorem walk_whole (L : List (List UInt8)) (t : List UInt8) (hb : ∀ b ∈ L, b.length ≤ 60000) (ht : Torn t) : walkW (catR L ++ t).length (wholeO (catR L ++ t)) 0 = recsAt 0 L := by
  refine walk_recs (step_whole _) (fun p b q h hl => ?_) (fun p u h hu => ?_) L [] t rfl hb ht
  · rw [h]
    exact wholeO_rec p b q hl
  · obtain ⟨b, h1, h2, h3⟩ := hu
    have := wholeO_torn p b u h1 h2 h3
    unfold wholeO
    rw [h, this]
theorem walk_piece (L : List (List UInt8)) (t : List UInt8) (hb : ∀ b ∈ L, b.length ≤ 60000) (ht : Torn t) : walkW (catR L ++ t).length (pieceO (catR L ++ t)) 0 = recsAt 0 L := by
  refine walk_recs (step_piece _) (fun p b q h hl => ?_) (fun p u h hu => ?_) L [] t rfl hb ht
  · rw [h]
    exact (wholeO_piece (wholeO_rec p b q hl)).1
  · obtain ⟨b, h1, h2, h3⟩ := hu
    rw [h]
    exact wholeO_torn p b u h1 h2 h3
theorem endW_endF (xs : List (Nat × List UInt8)) : endW xs = endF 0 xs := rfl
theorem wholeN_cat (L : List (List UInt8)) (t : List UInt8) (hb : ∀ b ∈ L, b.length ≤ 60000) (ht : Torn t) : wholeN (catR L ++ t) = (catR L).length := by
  unfold wholeN
  rw [walk_whole L t hb ht, endW_endF, endF_recs]
  omega
theorem RL_cat (L : List (List UInt8)) (hb : ∀ b ∈ L, b.length ≤ 60000) : RL (catR L) 0 = recsAt 0 L := by
  have h := walk_piece L [] hb torn_nil
  rw [List.append_nil] at h
  unfold RL
  rw [h]
  cases L with
  | nil => simp [recsAt]
  | cons b L =>
    have h1 : findO (catR (b :: L)) ((0 : Nat) : Int) = some b := findO_hit (ys := []) (x := (0, b)) (by rw [h]; exact ⟨recsAt (0 + 8 + b.length) L, rfl⟩) (fun y hy => by cases hy) rfl
    rw [h1]
    rfl
/-- what may be there -/
def GoodL (Hd : List (List UInt8)) (lo hi : Nat) (now : List UInt8) : Prop := ∃ m t, lo ≤ m ∧ m ≤ hi ∧ now = catR (Hd.take m) ++ t ∧ Torn t
theorem GoodL.mono {Hd : List (List UInt8)} {lo hi hi' : Nat} {now : List UInt8} (h : GoodL Hd lo hi now) (hh : hi ≤ hi') : GoodL Hd lo hi' now := by
  obtain ⟨m, t, h1, h2, h3⟩ := h
  exact ⟨m, t, h1, Nat.le_trans h2 hh, h3⟩
theorem good_clean (Hd : List (List UInt8)) {lo hi m : Nat} (h1 : lo ≤ m) (h2 : m ≤ hi) : GoodL Hd lo hi (catR (Hd.take m)) := ⟨m, [], h1, h2, (List.append_nil _).symm, torn_nil⟩
def KH (Hd : List (List UInt8)) (lo hi : Nat) (h : List (List UInt8)) : Prop := ∀ i a b, h[i]? = some a → h[nextI h i]? = some b → ∀ now, betw now a b → GoodL Hd lo hi now
theorem KH.mono {Hd : List (List UInt8)} {lo hi hi' : Nat} {h : List (List UInt8)} (k : KH Hd lo hi h) (hh : hi ≤ hi') : KH Hd lo hi' h := fun i a b h1 h2 now h3 => (k i a b h1 h2 now h3).mono hh
theorem betw_self {now a : List UInt8} (h : betw now a a) : now = a := by
  rcases h with h | ⟨h1, h2, h3, _⟩
  · exact h
  · rw [List.take_of_length_le h2] at h3
    exact h3.symm
theorem KH.one {Hd : List (List UInt8)} {lo hi : Nat} {a : List UInt8} (g : GoodL Hd lo hi a) : KH Hd lo hi [a] := fun i x y h1 h2 now h3 => by
  have e1 : x = a := by
    cases i with
    | zero => simpa using h1.symm
    | succ i => simp at h1
  have e2 : y = a := by
    have : nextI [a] i = 0 := by simp [nextI]
    rw [this] at h2
    simpa using h2.symm
  subst e1
  subst e2
  rw [betw_self h3]
  exact g
theorem KH.snoc {Hd : List (List UInt8)} {lo hi : Nat} {h : List (List UInt8)} {a c : List UInt8} (k : KH Hd lo hi h) (h0 : 0 < h.length) (hl : h[h.length - 1]? = some a) (hp : ∀ now, betw now a c → GoodL Hd lo hi now) (hc : GoodL Hd lo hi c) : KH Hd lo hi (h ++ [c]) := fun i x y h1 h2 now h3 => by
  have hlen : (h ++ [c]).length = h.length + 1 := by simp
  unfold nextI at h2
  rw [hlen] at h2
  by_cases hi1 : i + 1 < h.length
  · have e : min (i + 1) (h.length + 1 - 1) = i + 1 := by omega
    rw [e, List.getElem?_append_left hi1] at h2
    rw [List.getElem?_append_left (by omega)] at h1
    exact k i x y h1 (by unfold nextI; rw [show min (i + 1) (h.length - 1) = i + 1 by omega]; exact h2) now h3
  · by_cases hi2 : i + 1 = h.length
    · have e : min (i + 1) (h.length + 1 - 1) = h.length := by omega
      rw [e, List.getElem?_append_right (Nat.le_refl _)] at h2
      rw [List.getElem?_append_left (by omega), show i = h.length - 1 by omega, hl] at h1
      simp at h2
      cases h1
      subst h2
      exact hp now h3
    · have e : min (i + 1) (h.length + 1 - 1) = h.length := by omega
      rw [e, List.getElem?_append_right (Nat.le_refl _)] at h2
      simp at h2
      have hi3 : i < (h ++ [c]).length := (List.getElem?_eq_some_iff.1 h1).1
      rw [hlen] at hi3
      rw [List.getElem?_append_right (by omega), show i - h.length = 0 by omega] at h1
      simp at h1
      subst h1
      subst h2
      rw [betw_self h3]
      exact hc
theorem betw_app {Hd : List (List UInt8)} {lo hi i : Nat} (hi' : i < Hd.length) (hb : Hd[i].length ≤ 60000) (h1 : lo ≤ i) (h2 : i + 1 ≤ hi) {now : List UInt8} (h : betw now (catR (Hd.take i)) (catR (Hd.take (i + 1)))) : GoodL Hd lo hi now := by
  rcases h with h | ⟨q1, q2, q3, _⟩
  · rw [h]
    exact good_clean Hd h1 (by omega)
  · by_cases he : now.length = (catR (Hd.take (i + 1))).length
    · rw [he, List.take_length] at q3
      rw [← q3]
      exact good_clean Hd (by omega) h2
    · rw [catR_take hi'] at q1 q3 he
      rw [List.length_append] at q1 he
      refine ⟨i, (recL Hd[i]).take (now.length - (catR (Hd.take i)).length), h1, by omega, ?_, Hd[i], hb, ?_, ?_⟩
      · rw [List.take_append, List.take_of_length_le q2] at q3
        exact q3.symm
      · rw [List.length_take]; omega
      · rw [List.length_take, Nat.min_eq_left (by omega)]
theorem betw_cut {Hd : List (List UInt8)} {lo hi m : Nat} {t : List UInt8} (ht : Torn t) (h1 : lo ≤ m) (h2 : m ≤ hi) {now : List UInt8} (h : betw now (catR (Hd.take m) ++ t) (catR (Hd.take m))) : GoodL Hd lo hi now := by
  rcases h with h | ⟨q1, q2, q3, _⟩
  · exact ⟨m, t, h1, h2, h, ht⟩
  · rw [List.length_append] at q2
    rw [List.take_of_length_le (by omega)] at q3
    rw [← q3]
    exact good_clean Hd h1 h2
theorem sumF_one {F : Nat → List UInt8} (h : ∀ k, k < 64 → k ≠ 7 → F k = []) : sumF F = (F 7).length := by
  have h1 : (List.range 64).map (fun k => (F k).length) = (List.range 64).map (fun k => if k = 7 then (F 7).length else 0) := List.map_congr_left (fun k hk => by
    by_cases h7 : k = 7
    · subst h7; simp
    · rw [if_neg h7, h k (List.mem_range.1 hk) h7]; rfl)
  have h2 := sum_range_upd (fun k => if k = 7 then (F 7).length else 0) (fun _ => 0) 7 (fun k hk => if_neg hk) 64 (by decide)
  have h3 : ((List.range 64).map (fun _ => 0)).sum = 0 := by decide
  unfold sumF
  rw [h1]
  simp only [h3, if_true] at h2
  omega
/-- the disk between two calls of the law -/
structure SD (Hd : List (List UInt8)) (lo i : Nat) (D : Dk) : Prop where
  room : D.room = 5000
  f7 : D.F 7 = catR (Hd.take i)
  had : ∃ h, HadOf 7 D h ∧ KH Hd lo i h
  oth : ∀ k, k < 64 → k ≠ 7 → D.F k = [] ∧ ∃ h, HadOf k D h ∧ ∀ e ∈ h, e = []
  few : D.L.length ≤ i + 2
  lo : lo ≤ i
theorem SD.new (Hd : List (List UInt8)) : SD Hd 0 0 (newD 5000) :=
  ⟨rfl, by simp [catR]; rfl, ⟨_, HadOf.new 5000 7, KH.one ⟨0, [], Nat.le_refl _, Nat.le_refl _, by simp [catR], torn_nil⟩⟩, fun k _ _ => ⟨rfl, _, HadOf.new 5000 k, fun e he => by simpa using he⟩, Nat.zero_le _, Nat.le_refl _⟩
theorem had_last {f : Nat} {D : Dk} {h : List (List UInt8)} (x : HadOf f D h) (hi : D.Inv) : 0 < h.length ∧ h[h.length - 1]? = some (D.F f) := by
  obtain ⟨h0, hl⟩ := HadI.last x
  refine ⟨h0, ?_⟩
  rw [hl, hi.eq]
theorem SD.app {Hd : List (List UInt8)} {lo i : Nat} {D : Dk} (s : SD Hd lo i D) (hv : D.Inv) (hi : i < Hd.length) (hl : Hd.length ≤ 40) (hb : ∀ b ∈ Hd, b.length ≤ 60) : appE D 7 (recL Hd[i]).length = 0 ∧ SD Hd lo (i + 1) (D.app 7 (recL Hd[i])) := by
  have hbi := hb Hd[i] (List.getElem_mem hi)
  have hc := catR_len (Hd.take i) (fun b hm => hb b (List.mem_of_mem_take hm))
  rw [List.length_take, ← s.f7] at hc
  have hok : appE D 7 (recL Hd[i]).length = 0 := by
    unfold appE Dk.left
    rw [if_neg (by omega), if_neg]
    rw [s.room, sumF_one (fun k h1 h2 => (s.oth k h1 h2).1), recL_length]
    omega
  have hF7 : (D.app 7 (recL Hd[i])).F 7 = catR (Hd.take (i + 1)) := by
    unfold Dk.app
    rw [if_pos hok]
    show updF D.F 7 (D.F 7 ++ recL Hd[i]) 7 = _
    rw [updF_same, s.f7, catR_take hi]
  have hFk : ∀ k, k ≠ 7 → (D.app 7 (recL Hd[i])).F k = D.F k := fun k hk => by
    unfold Dk.app
    rw [if_pos hok]
    show updF D.F 7 (D.F 7 ++ recL Hd[i]) k = _
    rw [updF_other hk]
  refine ⟨hok, ?_, hF7, ?_, fun k h1 h2 => ⟨(hFk k h2).trans (s.oth k h1 h2).1, ?_⟩, ?_, by have := s.lo; omega⟩
  · unfold Dk.app
    rw [if_pos hok]
    exact s.room
  · obtain ⟨h, x, k⟩ := s.had
    refine ⟨_, x.app hv 7 _, ?_⟩
    rw [hF7]
    obtain ⟨h0, hlast⟩ := had_last x hv
    rw [s.f7] at hlast
    exact (k.mono (Nat.le_succ i)).snoc h0 hlast (fun now hn => betw_app hi (by omega) s.lo (Nat.le_refl _) hn) (good_clean Hd (by have := s.lo; omega) (Nat.le_refl _))
  · obtain ⟨h, x, k⟩ := (s.oth k h1 h2).2
    refine ⟨_, x.app hv 7 _, fun e he => ?_⟩
    rcases List.mem_append.1 he with he | he
    · exact k e he
    · rw [List.mem_singleton.1 he, hFk _ h2]
      exact (s.oth _ h1 h2).1
  · have := few_app D 7 (recL Hd[i])
    have := s.few
    omega
theorem SD.sync {Hd : List (List UInt8)} {lo i : Nat} {D : Dk} (s : SD Hd lo i D) : SD Hd i i D.synced :=
  ⟨s.room, s.f7, ⟨_, HadOf.sync, KH.one (by rw [s.f7]; exact good_clean Hd (Nat.le_refl _) (Nat.le_refl _))⟩, fun k h1 h2 => ⟨(s.oth k h1 h2).1, _, HadOf.sync, fun e he => by rw [List.mem_singleton.1 he]; exact (s.oth k h1 h2).1⟩, Nat.zero_le _, Nat.le_refl _⟩
theorem SD.crash {Hd : List (List UInt8)} {lo i : Nat} {D : Dk} (s : SD Hd lo i D) (keep torn : Nat) : GoodL Hd lo i ((D.crashed (min keep D.L.length) torn).F 7) ∧ ∀ k, k < 64 → k ≠ 7 → (D.crashed (min keep D.L.length) torn).F k = [] := by
  refine ⟨?_, fun k h1 h2 => ?_⟩
  · obtain ⟨h, x, k⟩ := s.had
    obtain ⟨j, a, b, h1, h2, h3⟩ := crash_had x keep torn
    exact k j a b h1 h2 _ h3
  · obtain ⟨h, x, k⟩ := (s.oth k h1 h2).2
    obtain ⟨j, a, b, h1, h2, h3⟩ := crash_had x keep torn
    have ea := k a (List.mem_of_getElem? h1)
    have eb := k b (List.mem_of_getElem? h2)
    subst ea
    subst eb
    exact betw_self h3
/-- opened anew, where the last part is whole -/
theorem SD.opened {Hd Hd2 : List (List UInt8)} {lo i m : Nat} {D : Dk} (s : SD Hd lo i D) (keep torn : Nat) (hF : (D.crashed (min keep D.L.length) torn).F 7 = catR (Hd.take m)) (h2 : Hd2.take m = Hd.take m) : SD Hd2 0 m (D.crashed (min keep D.L.length) torn) := by
  refine ⟨s.room, by rw [hF, h2], ⟨_, HadI.one, KH.one ?_⟩, fun k h1 h2 => ⟨(s.crash keep torn).2 k h1 h2, _, HadI.one, fun e he => ?_⟩, Nat.zero_le _, Nat.zero_le _⟩
  · show GoodL Hd2 0 m ((D.crashed (min keep D.L.length) torn).F 7)
    rw [hF, ← h2]
    exact good_clean Hd2 (Nat.zero_le _) (Nat.le_refl _)
  · rw [List.mem_singleton.1 he]
    exact (s.crash keep torn).2 k h1 h2
/-- .. and where it is torn -/
theorem SD.cut {Hd Hd2 : List (List UInt8)} {lo i m : Nat} {t : List UInt8} {D : Dk} (s : SD Hd lo i D) (hv : D.Inv) (keep torn : Nat) (hF : (D.crashed (min keep D.L.length) torn).F 7 = catR (Hd.take m) ++ t) (ht : Torn t) (h2 : Hd2.take m = Hd.take m) : SD Hd2 0 m ((D.crashed (min keep D.L.length) torn).cutd 7 ((catR (Hd.take m)).length : Nat)) := by
  have hv2 := hv.crashed (min keep D.L.length) torn
  have hoth := (s.crash keep torn).2
  generalize hD : D.crashed (min keep D.L.length) torn = E at *
  have hEL : E.L = [] := by rw [← hD]; rfl
  have hEG : E.G = E.F := by rw [← hD]; rfl
  have hroom : E.room = 5000 := by rw [← hD]; exact s.room
  have hok : cutE E 7 ((catR (Hd.take m)).length : Nat) = 0 := by
    unfold cutE
    rw [if_neg (by omega), if_neg (by omega), if_neg]
    show ¬ (((E.F 7).length : Nat) : Int) < _
    rw [hF, List.length_append]
    omega
  have hF7 : (E.cutd 7 ((catR (Hd.take m)).length : Nat)).F 7 = catR (Hd.take m) := by
    unfold Dk.cutd
    rw [if_pos hok]
    show updF E.F 7 ((E.F 7).take (catR (Hd.take m)).length) 7 = _
    rw [updF_same, hF, List.take_left]
  have hFk : ∀ k, k ≠ 7 → (E.cutd 7 ((catR (Hd.take m)).length : Nat)).F k = E.F k := fun k hk => by
    unfold Dk.cutd
    rw [if_pos hok]
    show updF E.F 7 ((E.F 7).take (catR (Hd.take m)).length) k = _
    rw [updF_other hk]
  have hone : ∀ f, HadOf f E [E.F f] := fun f => by
    unfold HadOf
    rw [hEL, ← hEG]
    exact HadI.one
  refine ⟨?_, by rw [hF7, h2], ⟨_, (hone 7).cutd hv2 7 _, ?_⟩, fun k h1 h2 => ⟨(hFk k h2).trans (hoth k h1 h2), _, (hone k).cutd hv2 7 _, fun e he => ?_⟩, ?_, Nat.zero_le _⟩
  · unfold Dk.cutd
    rw [if_pos hok]
    exact hroom
  · rw [hF7]
    refine KH.snoc (a := E.F 7) (KH.one (hi := m) ?_) (by simp) rfl (fun now hn => ?_) ?_
    · rw [hF, ← h2]
      exact ⟨m, t, Nat.zero_le _, Nat.le_refl _, rfl, ht⟩
    · rw [hF, ← h2] at hn
      exact betw_cut ht (Nat.zero_le _) (Nat.le_refl _) hn
    · rw [← h2]
      exact good_clean Hd2 (Nat.zero_le _) (Nat.le_refl _)
  · rcases List.mem_append.1 he with he | he
    · rw [List.mem_singleton.1 he]
      exact hoth k h1 h2
    · rw [List.mem_singleton.1 he, hFk _ h2]
      exact hoth k h1 h2
  · have := few_cutd E 7 ((catR (Hd.take m)).length : Nat)
    rw [hEL] at this
    simp at this
    omega
end Go.Proofs.YtbhgcioeibhjeaaGreatDoor
