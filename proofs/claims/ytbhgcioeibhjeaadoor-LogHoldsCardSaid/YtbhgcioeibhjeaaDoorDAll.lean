/-
  disk: how many bytes all files have; left; mayPut, mayCut.
-/
import Derived.Test.YtbhgcioeibhjeaaDoorDAsk
import Derived.LoopN
namespace Go.Proofs.YtbhgcioeibhjeaaDoor
open Go.RowKit

/-- a step that touches neither cells nor the world outside -/
def QuietSem {α : Type} : Sem α → Prop
  | .pure _ => True
  | .getObj _ k => ∀ o, QuietSem (k o)
  | .setObj _ _ k => QuietSem k
  | .choose _ k => ∀ n, QuietSem (k n)
  | .halt _ => True
  | _ => False
theorem QuietSem.bind {α β : Type} : ∀ {m : Sem α} {f : α → Sem β}, QuietSem m → (∀ a, QuietSem (f a)) → QuietSem (m.bind f)
  | .pure a, _, _, hf => hf a
  | .getObj _ _, _, h, hf => fun o => QuietSem.bind (h o) hf
  | .setObj _ _ k, _, h, hf => QuietSem.bind (m := k) h hf
  | .choose _ _, _, h, hf => fun n => QuietSem.bind (h n) hf
  | .halt _, _, _, _ => trivial
theorem QuietSem.tape {α : Type} {P : Program} (m : Sem α) : ∀ (w : World) (r : α) (w' : World), QuietSem m → m.run P w = .ok r w' → w'.tape = w.tape := by
  induction m with
  | pure _ =>
    intro w r w' _ hr
    simp only [Sem.run] at hr
    cases hr
    rfl
  | getObj _ _ ih =>
    intro w r w' h hr
    simp only [Sem.run] at hr
    split at hr
    · cases hr
    · exact ih _ _ _ _ (h _) hr
    · cases hr
  | setObj _ _ _ ih =>
    intro w r w' h hr
    simp only [Sem.run] at hr
    split at hr
    · cases hr
    · have h1 := ih _ _ _ h hr
      exact h1
    · cases hr
  | choose _ _ ih =>
    intro w r w' h hr
    simp only [Sem.run] at hr
    split at hr
    · exact ih _ _ _ _ (h _) hr
    · have h1 := ih _ _ _ _ (h _) hr
      exact h1
  | halt _ =>
    intro w r w' _ hr
    simp only [Sem.run] at hr
    cases hr
  | _ => exact fun _ _ _ h => h.elim
theorem quiet_getObj (r : Nat) : QuietSem (getObj r) := fun _ => trivial
theorem quiet_setObj (r : Nat) (o : Obj) : QuietSem (setObj r o) := trivial
theorem quiet_choose (q : Question) : QuietSem (choose q) := fun _ => trivial
theorem next_quiet (r : Nat) (ty : TypeId) : QuietSem (Instr.next (.pointer (some ⟨r, 0, none⟩)) false ty) := by
  unfold Instr.next
  refine QuietSem.bind (quiet_getObj r) fun o => ?_
  cases o <;> try trivial
  rename_i m since seen last
  cases m with
  | none => trivial
  | some m =>
    refine QuietSem.bind (quiet_getObj m) fun o => ?_
    cases o <;> try trivial
    dsimp only
    split
    · trivial
    · refine QuietSem.bind (quiet_choose _) fun n => ?_
      split
      · exact QuietSem.bind (quiet_setObj _ _) fun _ => trivial
      · trivial
      · trivial
theorem next_tape {P : Program} {r : Nat} {ty : TypeId} {w w' : World} {v : Value} (h : (Instr.next (.pointer (some ⟨r, 0, none⟩)) false ty).run P w = .ok v w') : w'.tape = w.tape := QuietSem.tape _ _ _ _ (next_quiet r ty) h
/-- how long a slice is -/
def vlen : Value → Nat
  | .slice _ n _ => n
  | _ => 0
theorem SlAt.vlen {w : World} {v : Value} {l : List UInt8} (h : SlAt w v l) : Proofs.YtbhgcioeibhjeaaDoor.vlen v = l.length := by
  obtain ⟨oa, cap, rfl⟩ := h.len
  rfl
def sumF (F : Nat → List UInt8) : Nat := ((List.range 64).map (fun f => (F f).length)).sum
def seenL (es : List MapEntry) (seen : Array Nat) : Nat := ((es.filter (fun e => seen.contains e.born)).map (fun e => vlen e.val)).sum
theorem seenL_other (seen : Array Nat) (b : Nat) : ∀ (es : List MapEntry), b ∉ es.map (·.born) → seenL es (seen.push b) = seenL es seen
  | [], _ => rfl
  | e :: es, h => by
    have h1 : e.born ≠ b := fun q => h (by simp [q])
    have ih := seenL_other seen b es (fun q => h (by simp [q]))
    have hc : (seen.push b).contains e.born = seen.contains e.born := by rw [contains_push]; simp [h1]
    unfold seenL at *
    simp only [List.filter_cons, hc]
    split
    · simp only [List.map_cons, List.sum_cons, ih]
    · exact ih
theorem seenL_push (seen : Array Nat) (e : MapEntry) (hs : seen.contains e.born = false) : ∀ (es : List MapEntry), (es.map (·.born)).Nodup → e ∈ es → seenL es (seen.push e.born) = seenL es seen + vlen e.val
  | [], _, h => by cases h
  | x :: es, hn, he => by
    simp only [List.map_cons, List.nodup_cons] at hn
    by_cases hx : x = e
    · subst hx
      have ih := seenL_other seen x.born es hn.1
      have hc : (seen.push x.born).contains x.born = true := by rw [contains_push]; simp
      unfold seenL at *
      simp only [List.filter_cons, hc, hs]
      simp only [if_true, List.map_cons, List.sum_cons, ih]
      simp [Nat.add_comm]
    · have he' : e ∈ es := by
        rcases List.mem_cons.1 he with h | h
        · exact absurd h.symm hx
        · exact h
      have hne : x.born ≠ e.born := fun q => hn.1 (by rw [q]; exact List.mem_map.2 ⟨e, he', rfl⟩)
      have ih := seenL_push seen e hs es hn.2 he'
      have hc : (seen.push e.born).contains x.born = seen.contains x.born := by rw [contains_push]; simp [hne]
      unfold seenL at *
      simp only [List.filter_cons, hc]
      split
      · simp only [List.map_cons, List.sum_cons, ih, Nat.add_assoc]
      · exact ih
theorem seenL_none : ∀ (es : List MapEntry), seenL es #[] = 0
  | [] => rfl
  | e :: es => by
    have ih := seenL_none es
    unfold seenL at *
    simpa using ih
theorem seenL_all (es : Array MapEntry) (seen : Array Nat) (h : (leftOf es seen).size = 0) : seenL es.toList seen = (es.toList.map fun e => vlen e.val).sum := by
  have ha := all_seen es seen h
  unfold seenL
  rw [List.filter_eq_self.2 (fun x hx => ha x hx)]
theorem seenL_le (es : List MapEntry) (seen : Array Nat) : seenL es seen ≤ (es.map fun e => vlen e.val).sum := by
  induction es with
  | nil => exact Nat.le_refl _
  | cons e es ih =>
    unfold seenL at *
    simp only [List.filter_cons, List.map_cons, List.sum_cons]
    split
    · simp only [List.map_cons, List.sum_cons]; omega
    · omega
/-- a map's entries, told by the numbers of files -/
theorem sum_range_pick (g : Nat → Nat) : ∀ (n : Nat) (ks : List Nat), ks.Nodup → (∀ k ∈ ks, k < n) → (∀ k, k < n → k ∉ ks → g k = 0) → (ks.map g).sum = ((List.range n).map g).sum
  | 0, ks, _, hlt, _ => by
    cases ks with
    | nil => rfl
    | cons k ks => exact absurd (hlt k (.head _)) (Nat.not_lt_zero _)
  | n + 1, ks, hnd, hlt, hz => by
    rw [List.range_succ, List.map_append, List.sum_append]
    by_cases hn : n ∈ ks
    · have hp := List.perm_cons_erase hn
      have hnd' := (hp.nodup_iff.1 hnd)
      rw [List.nodup_cons] at hnd'
      have ih := sum_range_pick g n (ks.erase n) hnd'.2 (fun k hk => by
        have h1 := hlt k (List.mem_of_mem_erase hk)
        have h2 : k ≠ n := fun e => hnd'.1 (by subst e; exact hk)
        omega) (fun k hk hk2 => hz k (by omega) (fun hm => hk2 ((List.mem_erase_of_ne (by omega)).2 hm)))
      rw [← ih]
      have hs := (hp.map g).sum_nat
      rw [hs]
      simp [Nat.add_comm]
    · have ih := sum_range_pick g n ks hnd (fun k hk => by
        have h1 := hlt k hk
        have h2 : k ≠ n := fun e => hn (by rw [← e]; exact hk)
        omega) (fun k hk hk2 => hz k (by omega) hk2)
      have hg := hz n (by omega) hn
      rw [ih]
      simp [hg]
theorem Fs.sum {w : World} {r : Nat} {V : Nat → Value} {F : Nat → List UInt8} (h : Fs w r V F) {es : Array MapEntry} {c : Nat} (he : FMapE es c V) : (es.toList.map fun e => vlen e.val).sum = sumF F := by
  have hk : ∀ x ∈ es.toList, ∃ f : Nat, x.key = .int .i64 f ∧ f < 64 ∧ vlen x.val = (F f).length ∧ F f ≠ [] := fun x hx => by
    obtain ⟨f, h1, h2, h3, h4⟩ := he.sound x hx
    exact ⟨f, h2, h1, by rw [h3]; exact (h.row f).vlen, fun e => h4 ((h.row f).nil_iff.2 e)⟩
  let kf : MapEntry → Nat := fun x => match x.key with | .int _ z => z.toNat | _ => 0
  have hkf : ∀ x ∈ es.toList, x.key = .int .i64 (kf x : Int) ∧ kf x < 64 ∧ vlen x.val = (F (kf x)).length := fun x hx => by
    obtain ⟨f, h1, h2, h3, _⟩ := hk x hx
    have e : kf x = f := by simp [kf, h1]
    rw [e]
    exact ⟨h1, h2, h3⟩
  have hnd : (es.toList.map kf).Nodup := by
    have hp := List.pairwise_map.1 he.st.2.2
    refine List.pairwise_map.2 (List.Pairwise.imp_of_mem ?_ hp)
    intro x y hx hy hne e
    exact hne (by rw [(hkf x hx).1, (hkf y hy).1, e])
  have h1 : (es.toList.map fun e => vlen e.val).sum = ((es.toList.map kf).map (fun f => (F f).length)).sum := by
    rw [List.map_map]
    congr 1
    exact List.map_congr_left (fun x hx => (hkf x hx).2.2)
  rw [h1]
  refine sum_range_pick _ 64 _ hnd (fun k hk => ?_) (fun k _ hk => ?_)
  · obtain ⟨x, hx, rfl⟩ := List.mem_map.1 hk
    exact (hkf x hx).2.1
  · refine List.length_eq_zero_iff.2 ?_
    refine Classical.byContradiction fun hne => hk ?_
    obtain ⟨x, hx, hxk⟩ := he.full k (fun e => hne ((h.row k).nil_iff.1 e))
    refine List.mem_map.2 ⟨x, hx, ?_⟩
    simp [kf, hxk]
set_option maxRecDepth 1000000 in
set_option maxHeartbeats 1000000 in
theorem all_any (r : Nat) (V : Nat → Value) (F : Nat → List UInt8) (w : World) (h : Fs w r V F) (hs : sumF F ≤ 1000000000) :
    Calls Tryd.prog 83 #[.map (some r)] w fun e w' => e = .returned (.int .i64 (sumF F)) ∧ Below w.heap.size w w' := by
  obtain ⟨es, clock, hb, he⟩ := h.map
  have hsum := h.sum he
  have hst := he.st
  have hsl : ∀ x ∈ es.toList, ∃ oa cap, x.val = .slice oa (vlen x.val) cap := fun x hx => by
    obtain ⟨f, _, _, h3, _⟩ := he.sound x hx
    obtain ⟨oa, cap, e⟩ := (h.row f).len
    rw [h3, e]
    exact ⟨oa, cap, rfl⟩
  have hle := fun seen => seenL_le es.toList seen
  rw [hsum] at hle
  have HSUM := Lib.hid hsum
  have HSL := Lib.hid hsl
  have HLE := Lib.hid hle
  clear h he hsum hsl hle
  have hrg := run_range_map (P := Tryd.prog) w 60 3 22 r es clock Tryd.underlying60 hb
  go_enter Tryd.func83, Tryd.ntmps83
  go_wp2_with fail
  go_loopw [3] (fun s w' => ∃ (w1 : World) (seen : Array Nat), (w1.Alike w ∧ w1.tape = w.tape) ∧ w' = w1.alloc (.mapIter (some r) clock seen clock) ∧ s = .int .i64 (seenL es.toList seen : Nat)) (fun _ w' => (leftOf es (w'.iterSeen w.heap.size)).size)
  case atStart => exact ⟨w, #[], ⟨⟨rfl, rfl, rfl⟩, rfl⟩, rfl, by rw [seenL_none]; rfl⟩
  case round =>
    obtain ⟨w1, seen, ⟨hal, htp⟩, rfl, rfl⟩ := hrel
    have hsz : w1.heap.size = w.heap.size := by rw [hal.1]
    have hb1 : w1.heap[r]? = some (.map es clock) := by rw [hal.1]; exact hb
    have law := run_next_map (P := Tryd.prog) w1 0 r clock clock seen es clock hb1 hst.1 (Nat.le_refl _)
    rw [hsz] at law
    rcases law with ⟨h0, hrun⟩ | ⟨e, he, w2, hal2, hrun⟩
    · have hnx : ∀ ty, (Instr.next (.pointer (some ⟨w.heap.size, 0, none⟩)) false ty).run Tryd.prog (w1.alloc (.mapIter (some r) clock seen clock)) = _ := fun _ => hrun
      go_wp2_with fail
      go_ret
      rw [seenL_all es seen h0, HSUM.out]
      exact ⟨rfl, hal.2.1, htp, hal.2.2, by rw [World.size_alloc]; omega, fun k hk => (Below.heap_alloc _ _ _ (by omega)).trans (by rw [hal.1])⟩
    · have htp2 : w2.tape = w.tape := (next_tape hrun).trans htp
      obtain ⟨oa, cap, hval⟩ := HSL.out e (mem_left he).1
      have hpush := seenL_push seen e (mem_left he).2 es.toList hst.2.1 (mem_left he).1
      have hle2 := HLE.out (seen.push e.born)
      rw [hpush] at hle2
      have HPUSH := Lib.hid hpush
      generalize hvl : vlen e.val = vl at *
      rw [hval] at hrun
      have hnx : ∀ ty, (Instr.next (.pointer (some ⟨w.heap.size, 0, none⟩)) false ty).run Tryd.prog (w1.alloc (.mapIter (some r) clock seen clock)) = _ := fun _ => hrun
      have hsz2 : w2.heap.size = w.heap.size := by rw [hal2.1, hal.1]
      have hb2 : w2.heap[r]? = some (.map es clock) := by rw [hal2.1]; exact hb1
      have hen := run_entry_map (P := Tryd.prog) w2 r clock seen es clock e hb2 (mem_left he).1 hst.2.1
      rw [hsz2, hval] at hen
      clear hpush
      go_wp2_with fail
      go_roundw
      case rel =>
        refine ⟨w2, seen.push e.born, ⟨⟨hal2.1.trans hal.1, hal2.2.1.trans hal.2.1, hal2.2.2.trans hal.2.2⟩, htp2⟩, rfl, ?_⟩
        rw [HPUSH.out]
        go_num
      case measure =>
        rw [← hsz2, World.iterSeen_alloc, hsz2, ← hsz, World.iterSeen_alloc]
        exact left_shrinks es seen e he
end Go.Proofs.YtbhgcioeibhjeaaDoor
