/-
  parts that belong together.
-/
import Derived.Test.YtbhgcioeibhjeaaGreatDoorDFOp
import Derived.Deep.MidRow
import Derived.Lib.MinMax
import Derived.LoopN
namespace Go.Proofs.YtbhgcioeibhjeaaGreatDoor
open Go.RowKit

/-- a thing as the document has it -/
def thR : Th → List Value
  | .put f s => [.int .i64 f, .int .i64 0, .bool false, .string s]
  | .cut f m => [.int .i64 f, .int .i64 m, .bool true, .string ⟨#[]⟩]
theorem thR_length (t : Th) : (thR t).length = 4 := by cases t <;> rfl
theorem thR_one (t : Th) : ∀ v ∈ thR t, v.oneCell' = true := by
  intro v hv
  cases t <;> (simp only [thR, List.mem_cons, List.not_mem_nil, or_false] at hv; rcases hv with rfl | rfl | rfl | rfl <;> rfl)
def thsR (L : List Th) : List Value := L.flatMap thR
theorem thsR_length (L : List Th) : (thsR L).length = 4 * L.length := by
  induction L with
  | nil => rfl
  | cons t L ih => simp only [thsR, List.flatMap_cons, List.length_append, thR_length, List.length_cons] at ih ⊢; omega
theorem thsR_get (L : List Th) (k : Nat) (hk : k < L.length) (j : Nat) (hj : j < 4) : (thsR L)[4 * k + j]? = (thR L[k])[j]? := by
  induction L generalizing k with
  | nil => simp at hk
  | cons t L ih =>
    cases k with
    | zero =>
      show (thR t ++ thsR L)[4 * 0 + j]? = _
      rw [List.getElem?_append_left (by rw [thR_length]; omega)]
      simp
    | succ k =>
      show (thR t ++ thsR L)[4 * (k + 1) + j]? = _
      rw [List.getElem?_append_right (by rw [thR_length]; omega), thR_length, show 4 * (k + 1) + j - 4 = 4 * k + j by omega, ih k (by simpa using hk)]
      rfl
/-- a disk's cells, and its row of things -/
structure RDk (W : World) (c : Array Value) (D : Dk) (v : Value) : Prop where
  size : c.size = 66
  one : c.all (·.oneCell') = true
  room : c[0]? = some (.int .i64 D.room)
  file : ∀ f, f < 64 → c[1 + f]? = some (.string ⟨(D.G f).toArray⟩)
  things : c[65]? = some v
  row : W.ownsRow 0 98 4 v D.L.length (thsR D.L)
theorem RDk.keep {W W' : World} {c : Array Value} {D : Dk} {v : Value} (h : RDk W c D v) (hb : Below W.heap.size W W') : RDk W' c D v :=
  ⟨h.size, h.one, h.room, h.file, h.things, by
    refine ⟨h.row.1, ?_⟩
    rcases h.row.2 with h0 | ⟨g, cap, cur, e0, h1, h2, h3⟩
    · exact .inl h0
    · exact .inr ⟨g, cap, cur, e0, h1, (hb.block g (Array.getElem?_eq_some_iff.1 h2).1).trans h2, h3⟩⟩
theorem info66r : (Tryz.prog.info? 36).map (·.size) = some 66 := by kernel_rfl
theorem alloc_cellr {w : World} {c : Array Value} {t : TypeId} {i : Nat} {v : Value} (h : c[i]? = some v) : (w.alloc (.cells c t)).cell? ⟨w.heap.size, i, none⟩ = some v := by
  have hh := heap_alloc_at w (.cells c t)
  simp only [World.cell?]
  rw [hh]
  simpa using h
/-- what a thing makes of a file -/
def doneT (l : List UInt8) : Th → List UInt8
  | .put _ s => l ++ s.data.toList
  | .cut _ m => l.take m
theorem doneF_at (F : Nat → List UInt8) (t : Th) (f : Nat) : doneF F t f = if t.file = f then doneT (F f) t else F f := by
  cases t with
  | put g s =>
    show updF F g (F g ++ s.data.toList) f = _
    by_cases h : g = f
    · subst h; rw [updF_same]; simp [Th.file, doneT]
    · rw [updF_other (fun e => h e.symm)]; simp [Th.file, h]
  | cut g m =>
    show updF F g ((F g).take m) f = _
    by_cases h : g = f
    · subst h; rw [updF_same]; simp [Th.file, doneT]
    · rw [updF_other (fun e => h e.symm)]; simp [Th.file, h]
theorem doAll_take {G : Nat → List UInt8} {L : List Th} {k : Nat} (hk : k < L.length) : doAll G (L.take (k + 1)) = doneF (doAll G (L.take k)) L[k] := by
  rw [List.take_succ_eq_append_getElem hk, doAll_snoc]
set_option maxRecDepth 1000000 in
set_option maxHeartbeats 2000000 in
theorem rdone_any (l : List UInt8) (t : Th) (w : World) (hl : l.length ≤ 100000000) (ht : (doneT l t).length ≤ 100000000) (hm : ∀ f m, t = .cut f m → m ≤ 100000000) : Calls Tryz.prog 64 #[.string ⟨l.toArray⟩, .agg (thR t).toArray] w fun e w' => e = .returned (.string ⟨(doneT l t).toArray⟩) ∧ Below w.heap.size w w' := by
  have hsz : (⟨l.toArray⟩ : ByteArray).size = l.length := rfl
  cases t with
  | put f s =>
    have e : (⟨(doneT l (.put f s)).toArray⟩ : ByteArray) = (⟨l.toArray⟩ : ByteArray) ++ s := by
      apply ByteArray.ext
      simp [doneT, ByteArray.data_append]
    have hss : l.length + s.size ≤ 100000000 := by
      have h1 : (doneT l (.put f s)).length = l.length + s.data.toList.length := List.length_append
      have h2 : s.data.toList.length = s.size := by rw [Array.length_toList]; rfl
      omega
    rw [e]
    clear e ht hm
    have hso : ¬ 9223372036854775807 < (⟨l.toArray⟩ : ByteArray).size + s.size := by omega
    show Calls Tryz.prog 64 #[.string ⟨l.toArray⟩, .agg #[.int .i64 f, .int .i64 0, .bool false, .string s]] w _
    generalize (⟨l.toArray⟩ : ByteArray) = ls at *
    go_enter Tryz.func64, Tryz.ntmps64
    go_wp2_with fail
    go_ret
    exact ⟨rfl, (Below.refl _ w).alloc (Nat.le_refl _) _⟩
  | cut f m =>
    have hm' := hm f m rfl
    obtain ⟨k, hkk⟩ : ∃ k : Nat, min l.length m = k := ⟨_, rfl⟩
    have e : (⟨(doneT l (.cut f m)).toArray⟩ : ByteArray) = (⟨l.toArray⟩ : ByteArray).extract 0 k := by
      apply ByteArray.ext
      rw [ByteArray.data_extract]
      simp only [doneT, List.extract_toArray]
      rw [← hkk]
      by_cases h : l.length ≤ m
      · rw [Nat.min_eq_left h, List.take_of_length_le h]; simp
      · rw [Nat.min_eq_right (by omega)]; simp
    rw [e]
    clear e ht hm
    have hk1 : k ≤ (⟨l.toArray⟩ : ByteArray).size := by omega
    have hmin : min ((⟨l.toArray⟩ : ByteArray).size : Int) (m : Int) = (k : Int) := by omega
    have hki0 : (0 : Int) ≤ (k : Int) := by omega
    have hki1 : (k : Int) ≤ ((⟨l.toArray⟩ : ByteArray).size : Int) := by omega
    show Calls Tryz.prog 64 #[.string ⟨l.toArray⟩, .agg #[.int .i64 f, .int .i64 m, .bool true, .string ⟨#[]⟩]] w _
    clear hsz hkk
    have hls : (⟨l.toArray⟩ : ByteArray).size ≤ 100000000 := hl
    generalize (⟨l.toArray⟩ : ByteArray) = ls at *
    have hsl : ∀ W, (Instr.sliceAt 9 (.string ls) none (some (.int .i64 (k : Int))) none).run Tryz.prog W = .ok (.string (ls.extract 0 k)) W := fun W => by
      go_simp
    go_enter Tryz.func64, Tryz.ntmps64
    go_wp2_with fail
    go_ret
    exact ⟨rfl, (Below.refl _ w).alloc (Nat.le_refl _) _⟩
end Go.Proofs.YtbhgcioeibhjeaaGreatDoor
namespace Go.Proofs.YtbhgcioeibhjeaaGreatDoor
open Go.RowKit

theorem zeroCr_size : Tryz.zeroCells36.size = 66 := by kernel_rfl
theorem zeroCr_one : Tryz.zeroCells36.all (·.oneCell') = true := by kernel_rfl
theorem zeroCr_eq (n : Nat) : (Tryz.zeroCells36.setIfInBounds 0 (.int .i64 n)).toList = .int .i64 n :: (List.replicate 64 (.string ⟨#[]⟩) ++ [.slice none 0 0]) := by kernel_rfl
theorem newR (W : World) (n : Nat) : RDk W (Tryz.zeroCells36.setIfInBounds 0 (.int .i64 n)) (newD n) (.slice none 0 0) := by
  have hg : ∀ i, (Tryz.zeroCells36.setIfInBounds 0 (.int .i64 n))[i]? = (Value.int .i64 n :: (List.replicate 64 (.string ⟨#[]⟩) ++ [.slice none 0 0]))[i]? := fun i => by rw [← zeroCr_eq, Array.getElem?_toList]
  have hz : (Tryz.zeroCells36.setIfInBounds 0 (.int .i64 n)).size = 66 := by rw [Array.size_setIfInBounds]; exact zeroCr_size
  refine ⟨hz, ?_, by rw [hg]; rfl, fun f hf => ?_, by rw [hg]; rfl, ⟨rfl, .inl ⟨rfl, rfl⟩⟩⟩
  · refine Array.all_eq_true_iff_forall_mem.2 (fun v hv => ?_)
    rcases Array.mem_or_eq_of_mem_setIfInBounds hv with h1 | h1
    · exact (Array.all_eq_true_iff_forall_mem.1 zeroCr_one) v h1
    · rw [h1]; rfl
  · rw [hg, Nat.add_comm, List.getElem?_cons_succ, List.getElem?_append_left (by simpa using hf), List.getElem?_replicate, if_pos hf]
    rfl
theorem there_ofr {w : World} {b : Nat} {c : Array Value} {t : TypeId} (h : w.heap[b]? = some (.cells c t (0, 0))) (n : Nat) (hn : n ≤ c.size) : w.there b 0 n := fun j hj => by
  have hj' : j < c.size := by omega
  simp [World.cell?, World.frozen?, h, hj']
theorem below_setCellsr {B b : Nat} {a : World} (hb : B ≤ b) : ∀ (vs : List Value) (o : Nat) {W : World}, Below B a W → Below B a (W.setCells b o vs)
  | [], _, _, h => h
  | v :: r, o, w, h => below_setCellsr hb r (o + 1) (h.setCell (p := ⟨b, o, none⟩) hb v)
theorem load66r {W : World} {b : Nat} {l : List Value} (h : W.rangeAt b 0 l) (hl : l.length = 66) : (loadVar 36 ⟨b, 0, none⟩).run Tryz.prog W = .ok (.agg l.toArray) W :=
  run_loadVar_mid W b 0 36 l _ h Tryz.underlying36 rfl (by rw [hl]; exact info66r)
set_option maxRecDepth 1000000 in
set_option maxHeartbeats 2000000 in
theorem rrNew_any (n : Nat) (w : World) : Calls Tryz.prog 11 #[.int .i64 n] w fun e w' => ∃ c v, e = .returned (.agg c) ∧ RDk w' c (newD n) v ∧ Below w.heap.size w w' := by
  obtain ⟨z, hz⟩ : ∃ z, Tryz.zeroCells36.setIfInBounds 0 (.int .i64 (n : Int)) = z := ⟨_, rfl⟩
  have hR := newR w n
  rw [hz] at hR
  have hz6 := hR.size
  have hth : (w.alloc (.cells Tryz.zeroCells36 36)).there w.heap.size 0 z.size := there_ofr (heap_alloc_at w _) _ (by rw [hz6, zeroCr_size]; exact Nat.le_refl _)
  have hinf : (Tryz.prog.info? 36).map (·.size) = some z.size := by rw [hz6]; exact info66r
  have hone := hR.one
  have HR := Lib.hid hR
  clear hR
  go_enter Tryz.func11, Tryz.ntmps11
  go_wp2_with (first | (refine wpList_store_mid rfl 36 _ _ rfl _ _ z rfl rfl hth hinf hone ?_; simp only [Act.put]))
  have hld := load66r (World.rangeAt_setCells_same (w.alloc (.cells Tryz.zeroCells36 36)) w.heap.size 0 z.toList (by rw [Array.length_toList]; exact hth)) (by rw [Array.length_toList]; exact hz6)
  rw [Array.toArray_toList] at hld
  have hb : Below w.heap.size w ((w.alloc (.cells Tryz.zeroCells36 36)).setCells w.heap.size 0 z.toList) := below_setCellsr (Nat.le_refl _) _ _ ((Below.refl _ w).alloc (Nat.le_refl _) _)
  refine bodyPost_ret (v := .agg z) (by simp [results, Tryz.results11, asAddr, hld]) rfl ⟨z, _, rfl, HR.out.keep hb, hb⟩
/-- the things' addresses -/
theorem row_cells {W : World} {v : Value} {L : List Th} (h : W.ownsRow 0 98 4 v L.length (thsR L)) (k : Nat) (hk : k < L.length) :
    ∃ a cap, v = .slice (some a) L.length cap ∧ ∀ j u, (thR L[k])[j]? = some u → W.cell? ⟨(a.add (k * 4)).block, (a.add (k * 4)).off + j, none⟩ = some u := by
  rcases h.2 with ⟨_, e1⟩ | ⟨g, cap, cur, e0, _, h2, _, _, _, h6⟩
  · omega
  · refine ⟨_, cap, e0, fun j u hj => ?_⟩
    have hj4 : j < 4 := by
      have := (List.getElem?_eq_some_iff.1 hj).1
      rwa [thR_length] at this
    have e : ((⟨g, 0, none⟩ : Addr).add (k * 4)) = ⟨g, k * 4, none⟩ := by
      unfold Addr.add
      split
      · simp_all
      · simp
    rw [e]
    have hc : (thsR L)[4 * k + j]? = some u := by rw [thsR_get L k hk j hj4]; exact hj
    rw [← h6, List.getElem?_take_of_lt (by omega), Array.getElem?_toList] at hc
    simp only [World.cell?, h2]
    rw [show k * 4 + j = 4 * k + j by omega]
    simpa using hc
end Go.Proofs.YtbhgcioeibhjeaaGreatDoor
namespace Go.Proofs.YtbhgcioeibhjeaaGreatDoor
open Go.RowKit

theorem Dk.Inv.part {D : Dk} (h : D.Inv) (k f : Nat) (hf : f < 64) : (doAll D.G (D.L.take k) f).length ≤ 100000000 := by
  have h1 := len_le_sum (doAll D.G (D.L.take k)) f hf
  have h2 := h.sums k
  have h3 := h.room
  omega
theorem th_cells {W : World} {a : Addr} {t : Th} (h : ∀ j u, (thR t)[j]? = some u → W.cell? ⟨a.block, a.off + j, none⟩ = some u) (ha : a.spot = none) :
    W.cell? a = some (.int .i64 t.file) ∧ ∃ m c s, thR t = [.int .i64 t.file, .int .i64 m, .bool c, .string s] ∧ W.cell? ⟨a.block, a.off + 1, none⟩ = some (.int .i64 m) ∧ W.cell? ⟨a.block, a.off + 2, none⟩ = some (.bool c) ∧ W.cell? ⟨a.block, a.off + 3, none⟩ = some (.string s) := by
  have h0 : a = ⟨a.block, a.off + 0, none⟩ := by cases a; simp_all
  cases t with
  | put f s => exact ⟨by rw [h0]; exact h 0 _ rfl, 0, false, s, rfl, h 1 _ rfl, h 2 _ rfl, h 3 _ rfl⟩
  | cut f m => exact ⟨by rw [h0]; exact h 0 _ rfl, m, true, _, rfl, h 1 _ rfl, h 2 _ rfl, h 3 _ rfl⟩
set_option maxRecDepth 1000000 in
set_option maxHeartbeats 4000000 in
theorem rrFile_any {w : World} {c : Array Value} {D : Dk} {v : Value} (h : RDk w c D v) (hi : D.Inv) (f : Nat) (hf : f < 64) : Calls Tryz.prog 31 #[.agg c, .int .i64 f] w fun e w' => e = .returned (.string ⟨(D.F f).toArray⟩) ∧ Below w.heap.size w w' := by
  have c1 := h.file f hf
  have c2 := h.things
  have hb : Below w.heap.size w (w.alloc (.cells c 36)) := (Below.refl _ w).alloc (Nat.le_refl _) _
  have hf0 : (0 : Int) ≤ (f : Int) := by omega
  have hf1 : (f : Int) < 64 := by omega
  have HR := Lib.hid (fun wr (hb : Below w.heap.size w wr) => (h.keep hb).row)
  have HB := Lib.hid hb
  have HV : Hid (∀ wr, Below (w.heap.size + 1) (w.alloc (.cells c 36)) wr → wr.cell? ⟨w.heap.size, 65, none⟩ = some v) := Lib.hid fun wr hbr => by
    rw [hbr.cell (p := ⟨w.heap.size, 65, none⟩) (Nat.lt_succ_self _)]
    exact alloc_cellr c2
  have HP := Lib.hid (fun k => hi.part k f hf)
  have HK : Hid (∀ k, D.L.length ≤ k → doAll D.G (D.L.take k) f = D.F f) := Lib.hid fun k hk => by rw [List.take_of_length_le hk, ← hi.eq]
  have HM : Hid (∀ k (hk : k < D.L.length) g m, D.L[k] = .cut g m → m ≤ 100000000) := Lib.hid fun k hk g m e => by
    have h1 := hi.oks k _ (List.getElem?_eq_getElem hk)
    rw [e] at h1
    have h2 := hi.part k g h1.1
    have h3 := h1.2
    omega
  have HD : Hid (∀ k (hk : k < D.L.length), doAll D.G (D.L.take (k + 1)) f = if D.L[k].file = f then doneT (doAll D.G (D.L.take k) f) D.L[k] else doAll D.G (D.L.take k) f) := Lib.hid fun k hk => by rw [doAll_take hk, doneF_at]
  have hfew := hi.few
  have HF0 : Hid (doAll D.G (D.L.take 0) f = D.G f) := Lib.hid rfl
  clear hi h hb
  generalize doAll D.G = DA at *
  obtain ⟨n, hn⟩ : ∃ n, D.L.length = n := ⟨_, rfl⟩
  go_enter Tryz.func31, Tryz.ntmps31
  go_wp2_with fail
  go_loopw [5, 6] (fun s i wr => ∃ k : Nat, k ≤ n ∧ s = .string ⟨(DA (D.L.take k) f).toArray⟩ ∧ i = .int .i64 k ∧ Below (w.heap.size + 1) (w.alloc (.cells c 36)) wr) (fun _ i _ => n - (intOf i).toNat)
  case atStart => exact ⟨0, by omega, by rw [HF0.out], rfl, Below.refl _ _⟩
  case round =>
    obtain ⟨k, hk, rfl, rfl, hbr⟩ := hrel
    have hcv := HV.out wr hbr
    have hbw : Below w.heap.size w wr := HB.out.trans (hbr.mono (Nat.le_succ _))
    have hrow := HR.out wr hbw
    have HBW := Lib.hid hbw
    have HBR := Lib.hid hbr
    clear hbw hbr
    by_cases hlt : k < n
    · have hkL : k < D.L.length := by omega
      obtain ⟨a, cap, hvf, hcs⟩ := row_cells hrow k hkL
      obtain ⟨t, ht⟩ : ∃ t, D.L[k] = t := ⟨_, rfl⟩
      rw [ht] at hcs
      have hD := HD.out k hkL
      rw [ht] at hD
      have hmm := HM.out k hkL
      rw [ht] at hmm
      have ha : (a.add (k * 4)).spot = none := by
        rcases hrow.2 with ⟨_, e1⟩ | ⟨g, _, _, e0, _⟩
        · omega
        · rw [hvf] at e0
          cases e0
          unfold Addr.add
          split <;> rfl
      obtain ⟨k0, m, cc, s, hT, k1, k2, k3⟩ := th_cells hcs ha
      rw [hn] at hvf
      subst hvf
      have hlp := HP.out k
      have hlp1 := HP.out (k + 1)
      rw [hD] at hlp1
      clear hrow hcs HR HP HM HD
      generalize hq : DA (List.take k D.L) f = lq at *
      by_cases he : t.file = f
      · rw [if_pos he] at hD hlp1
        have HC := Lib.hid (fun W => rdone_any lq t W hlp hlp1 (fun g m e => hmm g m e))
        rw [hT] at HC
        rw [he] at k0 HC
        have HD := Lib.hid hD
        clear hD hT he hmm hlp hlp1 ht ha
        go_wp2_with (first | (go_at_call 64; refine (HC.out _).mono ?_; rintro e w3 ⟨rfl, hb3⟩))
        go_roundw
        case rel => exact ⟨k + 1, by omega, by rw [HD.out], by go_num, HBR.out.trans (hb3.mono (by have := HBR.out.size; simp at this; omega))⟩
        case measure => simp [intOf]; omega
      · rw [if_neg he] at hD
        have HD := Lib.hid hD
        have hne : ¬ ((t.file : Int) = f) := by omega
        clear hD hT he hmm hlp hlp1 ht ha
        generalize t.file = tf at *
        go_wp2_with fail
        go_roundw
        case rel => exact ⟨k + 1, by omega, by rw [HD.out], by go_num, HBR.out⟩
        case measure => simp [intOf]; omega
    · have hK := HK.out k (by omega)
      obtain ⟨oa, cap, hvf⟩ : ∃ oa cap, v = .slice oa n cap := by
        rw [← hn]
        rcases hrow.2 with ⟨e0, e1⟩ | ⟨g, _, _, e0, _⟩
        · exact ⟨none, 0, by rw [e0, e1]⟩
        · exact ⟨_, _, e0⟩
      subst hvf
      obtain rfl : k = n := by omega
      clear hrow HR HP HM HD
      rw [hK]
      go_wp2_with fail
      go_ret
      exact ⟨rfl, HBW.out⟩
theorem sum_left (D : Dk) (k : Nat) : ((List.range (k + 1)).map fun f => (D.F f).length).sum = ((List.range k).map fun f => (D.F f).length).sum + (D.F k).length := by
  rw [List.range_succ, List.map_append, List.sum_append]
  simp
set_option maxRecDepth 1000000 in
set_option maxHeartbeats 2000000 in
theorem rrLeft_any {w : World} {c : Array Value} {D : Dk} {v : Value} (h : RDk w c D v) (hi : D.Inv) : Calls Tryz.prog 19 #[.agg c] w fun e w' => e = .returned (.int .i64 D.left) ∧ Below w.heap.size w w' := by
  have c0 := h.room
  have HF := Lib.hid (fun (f : Nat) (hf : f < 64) (W : World) (hb : Below w.heap.size w W) => rrFile_any (h.keep hb) hi f hf)
  have hg : ∀ j v, c.toList[j]? = some v → (w.alloc (.cells c 36)).cell? ⟨w.heap.size, j, none⟩ = some v := fun j v hv => alloc_cellr (by simpa using hv)
  have HG : Hid (∀ W, Below (w.heap.size + 1) (w.alloc (.cells c 36)) W → W.rangeAt w.heap.size 0 c.toList ∧ Below w.heap.size w W) := Lib.hid fun W hb => ⟨fun j v hv => by
    rw [Nat.zero_add, hb.cell (p := ⟨w.heap.size, j, none⟩) (Nat.lt_succ_self _)]
    exact hg j v hv, ((Below.refl _ w).alloc (Nat.le_refl _) _).trans (hb.mono (Nat.le_succ _))⟩
  have hinf : (Tryz.prog.info? 36).map (·.size) = some c.toList.length := by rw [Array.length_toList, h.size]; exact info66r
  have HS : Hid (∀ k, ((List.range (k + 1)).map fun f => (D.F f).length).sum = ((List.range k).map fun f => (D.F f).length).sum + (D.F k).length) := Lib.hid (sum_left D)
  have HL : Hid (∀ f, f < 64 → (D.F f).length ≤ 16777216) := Lib.hid fun f hf => by
    have h1 := len_le_sum D.F f hf
    have h2 := hi.sum
    have h3 := hi.room
    omega
  have HZ : Hid (D.left = (D.room : Int) - ((List.range 64).map fun f => (D.F f).length).sum) := Lib.hid rfl
  have hroom := hi.room
  clear h hi hg
  generalize D.left = dl at *
  generalize hS : (fun k => ((List.range k).map fun f => (D.F f).length).sum) = S at *
  have hSk : ∀ k, ((List.range k).map fun f => (D.F f).length).sum = S k := fun k => by rw [← hS]
  simp only [hSk] at HS HZ
  have hS0 : S 0 = 0 := by rw [← hS]; rfl
  clear hSk hS
  go_enter Tryz.func19, Tryz.ntmps19
  go_wp2_with fail
  go_loopw [3, 4] (fun n i wr => ∃ k : Nat, k ≤ 64 ∧ n = .int .i64 ((D.room : Int) - S k) ∧ S k ≤ k * 16777216 ∧ i = .int .i64 k ∧ Below (w.heap.size + 1) (w.alloc (.cells c 36)) wr) (fun _ i _ => 64 - (intOf i).toNat)
  case atStart => exact ⟨0, by omega, by rw [hS0]; simp, by omega, rfl, Below.refl _ _⟩
  case round =>
    obtain ⟨k, hk, rfl, hsk, rfl, hbr⟩ := hrel
    by_cases hlt : k < 64
    · obtain ⟨hr, hbw⟩ := HG.out wr hbr
      have hu := Tryz.underlying36
      have HC := Lib.hid (HF.out k hlt wr hbw)
      have hl := HL.out k hlt
      have hs1 := HS.out k
      generalize D.F k = lk at *
      have hln : (⟨lk.toArray⟩ : ByteArray).size = lk.length := rfl
      generalize (⟨lk.toArray⟩ : ByteArray) = ls at *
      have hwr : IntKind.i64.wrap ((D.room : Int) - (S k : Int) - (ls.size : Int)) = (D.room : Int) - (S (k + 1) : Int) := by rw [IntKind.wrap_i64]; omega
      have HH := Lib.hid hbr
      clear hbw hbr
      go_wp2_with (first | (refine wpList_load_mid rfl 36 _ rfl _ _ rfl _ _ hr hu rfl hinf ?_; simp only [Act.put, List.setIfInBounds_toArray, List.set_cons_zero, List.set_cons_succ]) | (go_at_call 31; refine HC.out.mono ?_; rintro e w2 ⟨rfl, hb2⟩))
      go_roundw
      case rel => exact ⟨k + 1, by omega, by first | rfl | (congr 1; omega), by omega, by go_num, HH.out.trans (hb2.mono (by have := HH.out.size; simp at this; omega))⟩
      case measure => simp [intOf]; omega
    · have hk64 : S k = S 64 := by rw [show k = 64 by omega]
      have hbw := (HG.out wr hbr).2
      have HK64 := Lib.hid hk64
      clear hk64
      go_wp2_with fail
      go_ret
      exact ⟨by rw [HZ.out, HK64.out]; rfl, hbw⟩
end Go.Proofs.YtbhgcioeibhjeaaGreatDoor
namespace Go.Proofs.YtbhgcioeibhjeaaGreatDoor
open Go.RowKit

/-- the receiver's box, and the result's -/
structure BBr (w W : World) (c d : Array Value) : Prop where
  c0 : W.heap[w.heap.size]? = some (.cells c 36 (0, 0))
  d0 : W.heap[w.heap.size + 1]? = some (.cells d 36 (0, 0))
  below : Below w.heap.size w W
theorem BBr.start (w : World) (c d : Array Value) : BBr w ((w.alloc (.cells c 36)).alloc (.cells d 36)) c d :=
  ⟨by rw [Below.heap_alloc _ _ _ (by simp)]; exact heap_alloc_at w _, by have h := heap_alloc_at (w.alloc (.cells c 36)) (.cells d 36); rwa [World.size_alloc] at h, ((Below.refl _ w).alloc (Nat.le_refl _) _).alloc (by simp) _⟩
theorem BBr.two {w W : World} {c d : Array Value} (h : BBr w W c d) : w.heap.size + 2 ≤ W.heap.size := by
  have := (Array.getElem?_eq_some_iff.1 h.d0).1
  omega
theorem BBr.keep {w W W' : World} {c d : Array Value} (h : BBr w W c d) (hb : Below W.heap.size W W') : BBr w W' c d :=
  ⟨(hb.block _ (by have := h.two; omega)).trans h.c0, (hb.block _ (by have := h.two; omega)).trans h.d0, h.below.trans (hb.mono h.below.size)⟩
theorem BBr.range {w W : World} {c d : Array Value} (h : BBr w W c d) : W.rangeAt w.heap.size 0 c.toList := fun j v hv => by
  rw [Nat.zero_add]
  simp only [World.cell?]
  rw [h.c0]
  simpa using hv
theorem BBr.cell {w W : World} {c d : Array Value} (h : BBr w W c d) {j : Nat} {v : Value} (hv : c[j]? = some v) : W.cell? ⟨w.heap.size, j, none⟩ = some v := by
  simp only [World.cell?]
  rw [h.c0]
  simpa using hv
theorem BBr.there {w W : World} {c d : Array Value} (h : BBr w W c d) (hd : d.size = 66) : W.there (w.heap.size + 1) 0 66 := there_ofr h.d0 _ (by omega)
/-- the result's box is written, and told -/
theorem BBr.told {w W : World} {c d : Array Value} {l : List Value} (h : BBr w W c d) (hd : d.size = 66) (hl : l.length = 66) : (loadVar 36 ⟨w.heap.size + 1, 0, none⟩).run Tryz.prog (W.setCells (w.heap.size + 1) 0 l) = .ok (.agg l.toArray) (W.setCells (w.heap.size + 1) 0 l) ∧ Below w.heap.size w (W.setCells (w.heap.size + 1) 0 l) :=
  ⟨load66r (World.rangeAt_setCells_same W (w.heap.size + 1) 0 l (by rw [hl]; exact h.there hd)) hl, below_setCellsr (by omega) l 0 h.below⟩
theorem BBr.set {w W : World} {c d : Array Value} (h : BBr w W c d) (j : Nat) (v : Value) : BBr w (W.setCell ⟨w.heap.size, j, none⟩ v) (c.setIfInBounds j v) d := by
  refine ⟨?_, (Below.heap_setCell _ _ _ _ (by show w.heap.size + 1 ≠ w.heap.size; omega)).trans h.d0, h.below.setCell (p := ⟨w.heap.size, j, none⟩) (Nat.le_refl _) v⟩
  unfold World.setCell
  rw [Array.getElem?_modify, if_pos rfl, h.c0]
  rfl
theorem BBr.frozen {w W : World} {c d : Array Value} (h : BBr w W c d) (j : Nat) : W.frozen? ⟨w.heap.size, j, none⟩ = false := by
  simp [World.frozen?, h.c0]
theorem one_setr {c : Array Value} (h : c.all (·.oneCell') = true) (i : Nat) (oa : Option Addr) (n z : Nat) : (c.setIfInBounds i (.slice oa n z)).all (·.oneCell') = true := by
  refine Array.all_eq_true_iff_forall_mem.2 (fun v hv => ?_)
  rcases Array.mem_or_eq_of_mem_setIfInBounds hv with h1 | h1
  · exact (Array.all_eq_true_iff_forall_mem.1 h) v h1
  · rw [h1]; rfl
theorem infoThr : (Tryz.prog.info? 98).map (fun i => (i.zero, i.size, i.bytes)) = some (some (.agg #[.int .i64 0, .int .i64 0, .bool false, .string ⟨#[]⟩]), 4, 40) := by kernel_rfl
theorem app_nothingr (b : Nat) (W : World) : (Builtin.append_ #[34, 34] 34 #[.slice (some ⟨b, 0, none⟩) 0 0, .slice none 0 0]).run Tryz.prog W = .ok (.slice (some ⟨b, 0, none⟩) 0 0) W := by kernel_rfl
theorem thsR_one (L : List Th) : ∀ u ∈ thsR L, u.oneCell' = true := by
  intro u hu
  obtain ⟨t, _, ht⟩ := List.mem_flatMap.1 hu
  exact thR_one t u ht
/-- a new row of things that lie in a row -/
theorem app_copy (w1 : World) (v : Value) (L M : List Th) (hv : w1.ownsRow 0 98 4 v L.length (thsR L)) (hL : L.length ≤ 1000) (hM : M <+: L) (v0 : Value) (hv0 : v0 = .slice none 0 0 ∧ M.length = 0 ∨ ∃ a c, v = .slice (some a) L.length c ∧ v0 = .slice (some a) M.length c) :
    ∃ v1 w2, (Builtin.append_ #[34, 34] 34 #[.slice (some ⟨w1.heap.size, 0, none⟩) 0 0, v0]).run Tryz.prog (w1.alloc (.cells #[] 98)) = .ok v1 w2 ∧ w2.ownsRow w1.heap.size 98 4 v1 M.length (thsR M) ∧ Below w1.heap.size w1 w2 := by
  obtain ⟨i0, hi0, hz0, hz1, hz2⟩ := info_parts infoThr
  obtain ⟨w2, hw2⟩ : ∃ w2, w1.alloc (.cells #[] 98) = w2 := ⟨_, rfl⟩
  have hn2 : w2.heap[w1.heap.size]? = some (.cells #[] 98 (0, 0)) := by rw [← hw2]; exact heap_alloc_at w1 _
  have hb2 : Below w1.heap.size w1 w2 := by rw [← hw2]; exact (Below.refl _ w1).alloc (Nat.le_refl _) _
  have hown : w2.ownsRow w1.heap.size 98 4 (.slice (some ⟨w1.heap.size, 0, none⟩) 0 0) 0 [] := ⟨rfl, .inr ⟨w1.heap.size, 0, #[], rfl, Nat.le_refl _, hn2, Nat.le_refl _, Nat.zero_le _, rfl, rfl⟩⟩
  rw [hw2]
  have hlen : M.length ≤ L.length := hM.length_le
  rcases hv0 with ⟨e0, e1⟩ | ⟨a, c, e0, e1⟩
  · subst e0
    have : M = [] := List.length_eq_zero_iff.1 e1
    subst this
    exact ⟨_, _, app_nothingr _ _, hown, hb2⟩
  · subst e1
    rcases hv.2 with ⟨h0, _⟩ | ⟨g, cap, cur, h0, _, h2, _, _, _, h6⟩
    · rw [h0] at e0; cases e0
    · rw [h0] at e0
      cases e0
      have hg : w2.heap[g]? = some (.cells cur 98 (0, 0)) := (hb2.block g (Array.getElem?_eq_some_iff.1 h2).1).trans h2
      obtain ⟨v', w4, hr, hrow, hgr, _⟩ := run_append_own_at (P := Tryz.prog) w2 w1.heap.size 34 34 98 i0 _ 4 40 Tryz.underlying34 hi0 hz0 hz1 hz2 rfl (by decide) _ 0 [] hown ⟨g, 0, none⟩ M.length c (thsR M) (by rw [thsR_length]; omega) (fun j u hj => by
        have e : ((⟨g, 0, none⟩ : Addr).add j) = ⟨g, j, none⟩ := by
          unfold Addr.add
          split
          · simp_all
          · simp
        have hjM : j < 4 * M.length := by rw [← thsR_length]; exact (List.getElem?_eq_some_iff.1 hj).1
        have hjL : (thsR L)[j]? = some u := by
          obtain ⟨R, hR⟩ := hM
          rw [← hR]
          show ((M ++ R).flatMap thR)[j]? = _
          rw [List.flatMap_append, List.getElem?_append_left (by show j < (thsR M).length; rw [thsR_length]; exact hjM)]
          exact hj
        rw [← h6, List.getElem?_take_of_lt (by omega), Array.getElem?_toList] at hjL
        rw [e]
        simp only [World.cell?, hg]
        simpa using hjL) (thsR_one M) (by unfold maxLen; omega) (by omega) hb2.size
      rw [Nat.zero_add] at hrow
      refine ⟨v', w4, hr, hrow, hb2.grown hgr hb2.size (fun k hk => ?_)⟩
      simp [Value.ownBlock] at hk
      omega
/-- a thing more -/
theorem app_more (B : Nat) (w2 : World) (v1 : Value) (M : List Th) (hv : w2.ownsRow B 98 4 v1 M.length (thsR M)) (hM : M.length ≤ 1000) (hB : B ≤ w2.heap.size) (x : Th) :
    ∃ q z w4, (Builtin.append_ #[34, 34] 34 #[v1, .slice (some ⟨w2.heap.size, 0, none⟩) 1 1]).run Tryz.prog (w2.alloc (.cells (thR x).toArray 98)) = .ok (.slice (some ⟨q, 0, none⟩) (M.length + 1) z) w4 ∧ w4.ownsRow B 98 4 (.slice (some ⟨q, 0, none⟩) (M.length + 1) z) (M ++ [x]).length (thsR (M ++ [x])) ∧ Below B w2 w4 := by
  obtain ⟨i0, hi0, hz0, hz1, hz2⟩ := info_parts infoThr
  have hcells := lit_cells w2 (thR x) 98
  have hb3 : Below w2.heap.size w2 (w2.alloc (.cells (thR x).toArray 98)) := (Below.refl _ w2).alloc (Nat.le_refl _) _
  have hown : (w2.alloc (.cells (thR x).toArray 98)).ownsRow B 98 4 v1 M.length (thsR M) := by
    refine ⟨hv.1, ?_⟩
    rcases hv.2 with h0 | ⟨g, cap, cur, e0, h1, h2, h3⟩
    · exact .inl h0
    · exact .inr ⟨g, cap, cur, e0, h1, (hb3.block g (Array.getElem?_eq_some_iff.1 h2).1).trans h2, h3⟩
  obtain ⟨w3, hw3⟩ : ∃ w3, w2.alloc (.cells (thR x).toArray 98) = w3 := ⟨_, rfl⟩
  rw [hw3] at hcells hb3 hown ⊢
  obtain ⟨v', w4, hr, hrow, hgr, hnil, hwhere⟩ := run_append_own_at (P := Tryz.prog) w3 B 34 34 98 i0 _ 4 40 Tryz.underlying34 hi0 hz0 hz1 hz2 rfl (by decide) v1 M.length (thsR M) hown ⟨w2.heap.size, 0, none⟩ 1 1 (thR x) (by rw [thR_length]) hcells (thR_one x) (by unfold maxLen; omega) (by omega) (Nat.le_trans hB hb3.size)
  have hbel : Below B w2 w4 := (hb3.mono hB).grown hgr (Nat.le_trans hB hb3.size) (fun k hk => by
    rcases hv.2 with ⟨e0, _⟩ | ⟨g, cap, cur, e0, h1, _⟩
    · rw [e0] at hk; cases hk
    · rw [e0] at hk
      simp [Value.ownBlock] at hk
      omega)
  have e : thsR (M ++ [x]) = thsR M ++ thR x := by simp [thsR]
  rcases hrow.2 with ⟨e0, e1⟩ | ⟨g, cap, cur, e0, h3⟩
  · omega
  · subst e0
    refine ⟨g, cap, w4, hr, ?_, hbel⟩
    rw [e, List.length_append]
    exact hrow
theorem ownsRow_zero {W : World} {B : Nat} {v : Value} {n : Nat} {xs : List Value} (h : W.ownsRow B 98 4 v n xs) : W.ownsRow 0 98 4 v n xs := by
  refine ⟨h.1, ?_⟩
  rcases h.2 with h0 | ⟨g, cap, cur, e0, _, h2⟩
  · exact .inl h0
  · exact .inr ⟨g, cap, cur, e0, Nat.zero_le _, h2⟩
/-- the disk behind a thing more -/
theorem RDk.did {W W' : World} {c : Array Value} {D : Dk} {v : Value} (h : RDk W c D v) {oa : Option Addr} {n z : Nat} (t : Th) (hrow : W'.ownsRow 0 98 4 (.slice oa n z) (D.L ++ [t]).length (thsR (D.L ++ [t]))) : RDk W' (c.setIfInBounds 65 (.slice oa n z)) (D.did t) (.slice oa n z) := by
  refine ⟨by rw [Array.size_setIfInBounds]; exact h.size, one_setr h.one _ _ _ _, ?_, fun f hf => ?_, ?_, hrow⟩
  · rw [Array.getElem?_setIfInBounds_ne (by decide)]
    exact h.room
  · rw [Array.getElem?_setIfInBounds_ne (by omega)]
    exact h.file f hf
  · rw [Array.getElem?_setIfInBounds_self_of_lt (by rw [h.size]; decide)]
end Go.Proofs.YtbhgcioeibhjeaaGreatDoor
namespace Go.Proofs.YtbhgcioeibhjeaaGreatDoor
open Go.RowKit

/-- a disk of the document's, somewhere -/
def RDs (W : World) (c : Array Value) (D : Dk) : Prop := ∃ v, RDk W c D v
theorem RDs.keep {W W' : World} {c : Array Value} {D : Dk} (h : RDs W c D) (hb : Below W.heap.size W W') : RDs W' c D := by
  obtain ⟨v, h⟩ := h
  exact ⟨v, h.keep hb⟩
theorem heap_setCellsr (b : Nat) : ∀ (vs : List Value) (o : Nat) (W : World) (k : Nat), k ≠ b → (W.setCells b o vs).heap[k]? = W.heap[k]?
  | [], _, _, _, _ => rfl
  | v :: r, o, W, k, hk => (heap_setCellsr b r (o + 1) (W.setCell ⟨b, o, none⟩ v) k hk).trans (Below.heap_setCell _ _ _ _ hk)
/-- the row lies beyond the boxes -/
theorem ownsRow_far {W W' : World} {B : Nat} {v : Value} {n : Nat} {xs : List Value} (h : W.ownsRow B 98 4 v n xs) (hk : ∀ k, B ≤ k → W'.heap[k]? = W.heap[k]?) : W'.ownsRow B 98 4 v n xs := by
  refine ⟨h.1, ?_⟩
  rcases h.2 with h0 | ⟨g, cap, cur, e0, h1, h2, h3⟩
  · exact .inl h0
  · exact .inr ⟨g, cap, cur, e0, h1, (hk g h1).trans h2, h3⟩
/-- what is told in the end: the receiver's box with another row, the result's box -/
theorem BBr.more {w w1 W : World} {c : Array Value} {D : Dk} {v : Value} (hR : RDk w c D v) (h : BBr w W c Tryz.zeroCells36) (h1 : w.heap.size + 2 ≤ w1.heap.size) (t : Th) (q n z : Nat) (hrow : W.ownsRow w1.heap.size 98 4 (.slice (some ⟨q, 0, none⟩) n z) (D.L ++ [t]).length (thsR (D.L ++ [t]))) :
    ∃ c5 w5, W.setCell ⟨w.heap.size, 65, none⟩ (.slice (some ⟨q, 0, none⟩) n z) = w5 ∧ c5.size = 66 ∧ c5.all (·.oneCell') = true ∧ w5.rangeAt w.heap.size 0 c5.toList ∧ w5.there (w.heap.size + 1) 0 c5.size ∧ Hid ((loadVar 36 ⟨w.heap.size + 1, 0, none⟩).run Tryz.prog (w5.setCells (w.heap.size + 1) 0 c5.toList) = .ok (.agg c5) (w5.setCells (w.heap.size + 1) 0 c5.toList) ∧ Below w.heap.size w (w5.setCells (w.heap.size + 1) 0 c5.toList) ∧ RDk (w5.setCells (w.heap.size + 1) 0 c5.toList) c5 (D.did t) (.slice (some ⟨q, 0, none⟩) n z)) := by
  have h5 := h.set 65 (.slice (some ⟨q, 0, none⟩) n z)
  have hs : (c.setIfInBounds 65 (.slice (some ⟨q, 0, none⟩) n z)).size = 66 := by rw [Array.size_setIfInBounds]; exact hR.size
  have h2 := h5.told (l := (c.setIfInBounds 65 (.slice (some ⟨q, 0, none⟩) n z)).toList) zeroCr_size (by rw [Array.length_toList]; exact hs)
  rw [Array.toArray_toList] at h2
  refine ⟨_, _, rfl, hs, one_setr hR.one _ _ _ _, h5.range, by rw [hs]; exact h5.there zeroCr_size, Lib.hid ⟨h2.1, h2.2, ?_⟩⟩
  refine hR.did t (ownsRow_zero (ownsRow_far hrow (fun k hk => ?_)))
  rw [heap_setCellsr _ _ _ _ _ (by omega)]
  exact Below.heap_setCell _ _ _ _ (by show k ≠ w.heap.size; omega)
theorem thing_form {W : World} {v : Value} {L : List Th} (h : W.ownsRow 0 98 4 v L.length (thsR L)) : v = .slice none 0 0 ∧ L.length = 0 ∨ ∃ a c, v = .slice (some a) L.length c ∧ v = .slice (some a) L.length c := by
  rcases h.2 with h0 | ⟨g, cap, cur, e0, _⟩
  · exact .inl h0
  · exact .inr ⟨_, cap, e0, e0⟩
set_option maxRecDepth 1000000 in
set_option maxHeartbeats 4000000 in
theorem rrApp_full {w : World} {c : Array Value} {D : Dk} {v : Value} (hR : RDk w c D v) (hi : D.Inv) (f : Nat) (hf : f < 64) (s : ByteArray) (hs : D.left < (s.size : Int)) : Calls Tryz.prog 15 #[.agg c, .int .i64 f, .string s] w fun e w' => e = .returned (.tuple #[.agg c, .int .i64 190]) ∧ Below w.heap.size w w' := by
  have h0 := BBr.start w c Tryz.zeroCells36
  have hu := Tryz.underlying36
  have hinf : (Tryz.prog.info? 36).map (·.size) = some c.toList.length := by rw [Array.length_toList, hR.size]; exact info66r
  have hinf2 : (Tryz.prog.info? 36).map (·.size) = some c.size := by rw [hR.size]; exact info66r
  have hone := hR.one
  have hcc : c.toList.toArray = c := Array.toArray_toList
  have HK : Hid (∀ W, BBr w W c Tryz.zeroCells36 → W.rangeAt w.heap.size 0 c.toList ∧ W.there (w.heap.size + 1) 0 c.size ∧ (loadVar 36 ⟨w.heap.size + 1, 0, none⟩).run Tryz.prog (W.setCells (w.heap.size + 1) 0 c.toList) = .ok (.agg c) (W.setCells (w.heap.size + 1) 0 c.toList) ∧ Below w.heap.size w (W.setCells (w.heap.size + 1) 0 c.toList)) := Lib.hid fun W h => by
    have h2 := h.told (l := c.toList) zeroCr_size (by rw [Array.length_toList]; exact hR.size)
    rw [Array.toArray_toList] at h2
    exact ⟨h.range, by rw [hR.size]; exact h.there zeroCr_size, h2⟩
  obtain ⟨hr, ht, hl, hbl⟩ := HK.out _ h0
  have HB0 := Lib.hid h0
  clear h0
  have HL := Lib.hid (fun W (hb : Below w.heap.size w W) => rrLeft_any (hR.keep hb) hi)
  have hf0 : ¬ ((f : Int) < 0) := by omega
  have hf1 : ¬ (63 < (f : Int)) := by omega
  clear hR hi hl hbl
  generalize D.left = dl at *
  go_enter Tryz.func15, Tryz.ntmps15
  go_wp2_with (first | (refine wpList_load_mid rfl 36 _ rfl _ _ rfl _ _ hr hu rfl hinf ?_; simp only [Act.put, hcc, List.setIfInBounds_toArray, List.set_cons_zero, List.set_cons_succ]) | (go_at_call 19; refine (HL.out _ HB0.out.below).mono ?_; rintro e w1 ⟨rfl, hb1⟩; obtain ⟨hr1, ht1, hl1, hbl1⟩ := HK.out w1 (HB0.out.keep hb1)) | (refine wpList_load_mid rfl 36 _ rfl _ _ rfl _ _ hr1 hu rfl hinf ?_; simp only [Act.put, hcc, List.setIfInBounds_toArray, List.set_cons_zero, List.set_cons_succ]) | (refine wpList_store_mid rfl 36 _ _ rfl _ _ c rfl rfl ht1 hinf2 hone ?_; simp only [Act.put]))
  refine bodyPost_ret (v := .tuple #[.agg c, .int .i64 190]) (by simp [results, Tryz.results15, asAddr, hl1]) rfl ⟨rfl, hbl1⟩
set_option maxRecDepth 1000000 in
set_option maxHeartbeats 4000000 in
theorem rrApp_ok {w : World} {c : Array Value} {D : Dk} {v : Value} (hR : RDk w c D v) (hi : D.Inv) (f : Nat) (hf : f < 64) (s : ByteArray) (hs : ¬ D.left < (s.size : Int)) : Calls Tryz.prog 15 #[.agg c, .int .i64 f, .string s] w fun e w' => ∃ c', e = .returned (.tuple #[.agg c', .int .i64 0]) ∧ RDs w' c' (D.did (.put f s)) ∧ Below w.heap.size w w' := by
  have h0 := BBr.start w c Tryz.zeroCells36
  have hu := Tryz.underlying36
  have hinf : (Tryz.prog.info? 36).map (·.size) = some c.toList.length := by rw [Array.length_toList, hR.size]; exact info66r
  have hinf2 : (Tryz.prog.info? 36).map (·.size) = some c.size := by rw [hR.size]; exact info66r
  have hone := hR.one
  have hcc : c.toList.toArray = c := Array.toArray_toList
  have HK : Hid (∀ W, BBr w W c Tryz.zeroCells36 → W.rangeAt w.heap.size 0 c.toList ∧ W.there (w.heap.size + 1) 0 c.size ∧ (loadVar 36 ⟨w.heap.size + 1, 0, none⟩).run Tryz.prog (W.setCells (w.heap.size + 1) 0 c.toList) = .ok (.agg c) (W.setCells (w.heap.size + 1) 0 c.toList) ∧ Below w.heap.size w (W.setCells (w.heap.size + 1) 0 c.toList)) := Lib.hid fun W h => by
    have h2 := h.told (l := c.toList) zeroCr_size (by rw [Array.length_toList]; exact hR.size)
    rw [Array.toArray_toList] at h2
    exact ⟨h.range, by rw [hR.size]; exact h.there zeroCr_size, h2⟩
  obtain ⟨hr, ht, hl, hbl⟩ := HK.out _ h0
  have HB0 := Lib.hid h0
  clear h0
  have hfew := hi.few
  have HN := Lib.hid hR.things
  have HRK := Lib.hid (fun W (hb : Below w.heap.size w W) => hR.keep hb)
  have HM := Lib.hid (fun (w1 W : World) (h : BBr w W c Tryz.zeroCells36) (h1 : w.heap.size + 2 ≤ w1.heap.size) (q n z : Nat) (hrow : W.ownsRow w1.heap.size 98 4 (.slice (some ⟨q, 0, none⟩) n z) (D.L ++ [Th.put f s]).length (thsR (D.L ++ [Th.put f s]))) => h.more (w1 := w1) hR h1 (Th.put f s) q n z hrow)
  have hf0 : ¬ ((f : Int) < 0) := by omega
  have hf1 : ¬ (63 < (f : Int)) := by omega
  have HL := Lib.hid (fun W (hb : Below w.heap.size w W) => rrLeft_any (hR.keep hb) hi)
  clear hR hi hl hbl
  generalize D.left = dl at *
  go_enter Tryz.func15, Tryz.ntmps15
  go_upto_region 5 with (first | (refine wpList_load_mid rfl 36 _ rfl _ _ rfl _ _ hr hu rfl hinf ?_; simp only [Act.put, hcc, List.setIfInBounds_toArray, List.set_cons_zero, List.set_cons_succ]) | (go_at_call 19; refine (HL.out _ HB0.out.below).mono ?_; rintro e w1 ⟨rfl, hb1⟩))
  have HB1 := Lib.hid (HB0.out.keep hb1)
  have hrow1 := (HRK.out w1 (HB0.out.below.trans (hb1.mono HB0.out.below.size))).row
  obtain ⟨v1, w2, hr2, hrow2, hb2⟩ := app_copy w1 v D.L D.L hrow1 (by omega) (List.prefix_refl _) v (thing_form hrow1)
  obtain ⟨q, z, w4, hr4, hrow4, hb4⟩ := app_more w1.heap.size w2 v1 D.L hrow2 (by omega) hb2.size (Th.put f s)
  have HB4 := Lib.hid (HB1.out.keep (hb2.trans hb4))
  have hc2 : (w1.alloc (.cells #[] 98)).cell? ⟨w.heap.size, 65, none⟩ = some v := (HB1.out.keep ((Below.refl _ w1).alloc (Nat.le_refl _) (.cells #[] 98))).cell HN.out
  have hc4 : w4.cell? ⟨w.heap.size, 65, none⟩ = some v := HB4.out.cell HN.out
  have hf4 : w4.frozen? ⟨w.heap.size, 65, none⟩ = false := HB4.out.frozen 65
  obtain ⟨c5, w5, hw5, hs5, ho5, hr5, ht5, H5⟩ := HM.out w1 w4 HB4.out HB1.out.two q (D.L.length + 1) z hrow4
  have hcc5 : c5.toList.toArray = c5 := Array.toArray_toList
  have hinf5 : (Tryz.prog.info? 36).map (·.size) = some c5.toList.length := by rw [Array.length_toList, hs5]; exact info66r
  have hinf6 : (Tryz.prog.info? 36).map (·.size) = some c5.size := by rw [hs5]; exact info66r
  simp only [thR] at hr4
  generalize D.L.length + 1 = n5 at *
  clear hr ht hinf hinf2 hone hcc hb1 hb2 hb4 HK HM HL HRK hrow1 hrow2 hrow4 hs5
  go_wp2_with (first | (at_builtin; refine wpList_app rfl _ _ _ _ rfl (.slice (some ⟨w1.heap.size, 0, none⟩) 0 0) v rfl rfl _ w2 hr2 ?_; clear hr2) | (at_builtin; refine wpList_app rfl _ _ _ _ rfl v1 (.slice (some ⟨w2.heap.size, 0, none⟩) 1 1) rfl rfl _ w4 hr4 ?_) | (refine wpList_load_mid rfl 36 _ rfl _ _ rfl _ _ hr5 hu rfl hinf5 ?_; simp only [Act.put, hcc5, List.setIfInBounds_toArray, List.set_cons_zero, List.set_cons_succ]) | (refine wpList_store_mid rfl 36 _ _ rfl _ _ c5 rfl rfl ht5 hinf6 ho5 ?_; simp only [Act.put]))
  have hl5 := H5.out.1
  refine bodyPost_ret (v := .tuple #[.agg c5, .int .i64 0]) (by simp [results, Tryz.results15, asAddr, hl5]) rfl ⟨c5, rfl, ⟨_, H5.out.2.2⟩, H5.out.2.1⟩
set_option maxRecDepth 1000000 in
set_option maxHeartbeats 4000000 in
theorem rrCut_ok {w : World} {c : Array Value} {D : Dk} {v : Value} (hR : RDk w c D v) (hi : D.Inv) (f : Nat) (hf : f < 64) (m : Nat) (hm : m ≤ (D.F f).length) : Calls Tryz.prog 32 #[.agg c, .int .i64 f, .int .i64 m] w fun e w' => ∃ c', e = .returned (.tuple #[.agg c', .int .i64 0]) ∧ RDs w' c' (D.did (.cut f m)) ∧ Below w.heap.size w w' := by
  have h0 := BBr.start w c Tryz.zeroCells36
  have hu := Tryz.underlying36
  have hinf : (Tryz.prog.info? 36).map (·.size) = some c.toList.length := by rw [Array.length_toList, hR.size]; exact info66r
  have hinf2 : (Tryz.prog.info? 36).map (·.size) = some c.size := by rw [hR.size]; exact info66r
  have hone := hR.one
  have hcc : c.toList.toArray = c := Array.toArray_toList
  have HK : Hid (∀ W, BBr w W c Tryz.zeroCells36 → W.rangeAt w.heap.size 0 c.toList ∧ W.there (w.heap.size + 1) 0 c.size ∧ (loadVar 36 ⟨w.heap.size + 1, 0, none⟩).run Tryz.prog (W.setCells (w.heap.size + 1) 0 c.toList) = .ok (.agg c) (W.setCells (w.heap.size + 1) 0 c.toList) ∧ Below w.heap.size w (W.setCells (w.heap.size + 1) 0 c.toList)) := Lib.hid fun W h => by
    have h2 := h.told (l := c.toList) zeroCr_size (by rw [Array.length_toList]; exact hR.size)
    rw [Array.toArray_toList] at h2
    exact ⟨h.range, by rw [hR.size]; exact h.there zeroCr_size, h2⟩
  obtain ⟨hr, ht, hl, hbl⟩ := HK.out _ h0
  have HB0 := Lib.hid h0
  clear h0
  have hfew := hi.few
  have HN := Lib.hid hR.things
  have HRK := Lib.hid (fun W (hb : Below w.heap.size w W) => hR.keep hb)
  have HM := Lib.hid (fun (w1 W : World) (h : BBr w W c Tryz.zeroCells36) (h1 : w.heap.size + 2 ≤ w1.heap.size) (q n z : Nat) (hrow : W.ownsRow w1.heap.size 98 4 (.slice (some ⟨q, 0, none⟩) n z) (D.L ++ [Th.cut f m]).length (thsR (D.L ++ [Th.cut f m]))) => h.more (w1 := w1) hR h1 (Th.cut f m) q n z hrow)
  have hf0 : ¬ ((f : Int) < 0) := by omega
  have hf1 : ¬ (63 < (f : Int)) := by omega
  have HL := Lib.hid (fun W (hb : Below w.heap.size w W) => rrFile_any (hR.keep hb) hi f hf)
  have hm0 : ¬ ((m : Int) < 0) := by omega
  have hm1 : ¬ (((⟨(D.F f).toArray⟩ : ByteArray).size : Int) < (m : Int)) := by show ¬ (((D.F f).length : Int) < m); omega
  clear hR hi hl hbl hm
  generalize (⟨(D.F f).toArray⟩ : ByteArray) = fs at *
  go_enter Tryz.func32, Tryz.ntmps32
  go_upto_region 5 with (first | (refine wpList_load_mid rfl 36 _ rfl _ _ rfl _ _ hr hu rfl hinf ?_; simp only [Act.put, hcc, List.setIfInBounds_toArray, List.set_cons_zero, List.set_cons_succ]) | (refine wp_load_mid 36 _ rfl _ _ rfl _ _ hr hu rfl hinf ?_; simp only [Act.put, hcc, List.setIfInBounds_toArray, List.set_cons_zero, List.set_cons_succ]) | (go_at_call 31; refine (HL.out _ HB0.out.below).mono ?_; rintro e w1 ⟨rfl, hb1⟩))
  have HB1 := Lib.hid (HB0.out.keep hb1)
  have hrow1 := (HRK.out w1 (HB0.out.below.trans (hb1.mono HB0.out.below.size))).row
  obtain ⟨v1, w2, hr2, hrow2, hb2⟩ := app_copy w1 v D.L D.L hrow1 (by omega) (List.prefix_refl _) v (thing_form hrow1)
  obtain ⟨q, z, w4, hr4, hrow4, hb4⟩ := app_more w1.heap.size w2 v1 D.L hrow2 (by omega) hb2.size (Th.cut f m)
  have HB4 := Lib.hid (HB1.out.keep (hb2.trans hb4))
  have hc2 : (w1.alloc (.cells #[] 98)).cell? ⟨w.heap.size, 65, none⟩ = some v := (HB1.out.keep ((Below.refl _ w1).alloc (Nat.le_refl _) (.cells #[] 98))).cell HN.out
  have hc4 : w4.cell? ⟨w.heap.size, 65, none⟩ = some v := HB4.out.cell HN.out
  have hf4 : w4.frozen? ⟨w.heap.size, 65, none⟩ = false := HB4.out.frozen 65
  obtain ⟨c5, w5, hw5, hs5, ho5, hr5, ht5, H5⟩ := HM.out w1 w4 HB4.out HB1.out.two q (D.L.length + 1) z hrow4
  have hcc5 : c5.toList.toArray = c5 := Array.toArray_toList
  have hinf5 : (Tryz.prog.info? 36).map (·.size) = some c5.toList.length := by rw [Array.length_toList, hs5]; exact info66r
  have hinf6 : (Tryz.prog.info? 36).map (·.size) = some c5.size := by rw [hs5]; exact info66r
  simp only [thR] at hr4
  generalize D.L.length + 1 = n5 at *
  clear hr ht hinf hinf2 hone hcc hb1 hb2 hb4 HK HM HL HRK hrow1 hrow2 hrow4 hs5
  go_wp2_with (first | (at_builtin; refine wpList_app rfl _ _ _ _ rfl (.slice (some ⟨w1.heap.size, 0, none⟩) 0 0) v rfl rfl _ w2 hr2 ?_; clear hr2) | (at_builtin; refine wpList_app rfl _ _ _ _ rfl v1 (.slice (some ⟨w2.heap.size, 0, none⟩) 1 1) rfl rfl _ w4 hr4 ?_) | (refine wpList_load_mid rfl 36 _ rfl _ _ rfl _ _ hr5 hu rfl hinf5 ?_; simp only [Act.put, hcc5, List.setIfInBounds_toArray, List.set_cons_zero, List.set_cons_succ]) | (refine wpList_store_mid rfl 36 _ _ rfl _ _ c5 rfl rfl ht5 hinf6 ho5 ?_; simp only [Act.put]))
  have hl5 := H5.out.1
  refine bodyPost_ret (v := .tuple #[.agg c5, .int .i64 0]) (by simp [results, Tryz.results32, asAddr, hl5]) rfl ⟨c5, rfl, ⟨_, H5.out.2.2⟩, H5.out.2.1⟩
end Go.Proofs.YtbhgcioeibhjeaaGreatDoor
