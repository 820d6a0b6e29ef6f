/-
  convert.known: the map of ways, whatever the order in which its entries are laid; look-ups in it.
-/
import Derived.Test.YtmgeefhacnadcaaGreatDoorVRest
import Derived.WideKeyRuns
namespace Go.Proofs.YtmgeefhacnadcaaGreatDoor
open Go.RowKit

def wv (a b : Nat) : Value := .agg #[.func (.func a) #[] #[], .func (.func b) #[] #[]]
def kk (a b : Int) : Value := .agg #[.int .i64 a, .int .i64 b]
theorem kindT : Tryz.prog.plainKey 22 = true := by kernel_rfl
theorem cellT : Tryz.prog.cellsOf 22 = 1 := by kernel_rfl
theorem int_eq (d : Nat) (a c : Int) (W : World) : (Op.equalIn (d + 1) 22 (.int .i64 a) (.int .i64 c)).run Tryz.prog W = .ok (a == c) W := by
  simp [Op.equalIn, run_underlying Tryz.underlying22]
theorem key_eq (a b c d : Int) (W : World) : (Op.equal 85 (kk a b) (kk c d)).run Tryz.prog W = .ok (a == c && b == d) W := by
  obtain ⟨i, hi⟩ := info_of_underlying Tryz.underlying22
  refine (run_equalIn_array W 9999 #[.int .i64 a, .int .i64 b] #[.int .i64 c, .int .i64 d] Tryz.underlying85 hi).trans ?_
  have p0 : ∀ x y : Int, (part 22 #[.int .i64 x, .int .i64 y] 0).run Tryz.prog W = .ok (.int .i64 x) W := fun x y => run_part_plain W kindT rfl
  have p1 : ∀ x y : Int, (part 22 #[.int .i64 x, .int .i64 y] 1).run Tryz.prog W = .ok (.int .i64 y) W := fun x y => run_part_plain W kindT rfl
  have e : ∀ x y : Int, (Op.equalIn 9999 22 (.int .i64 x) (.int .i64 y)).run Tryz.prog W = .ok (x == y) W := fun x y => int_eq 9998 x y W
  rw [cellT]
  cases h : a == c <;> simp [List.range, List.range.loop, Op.eqItems, p0, p1, e, h, Result.andThen]
  cases h' : b == d <;> simp <;> simpa using h'
theorem key_check (e : Bool) (a b : Int) (W : World) : (Instr.checkKey e 10000 85 (kk a b)).run Tryz.prog W = .ok () W := by kernel_rfl
theorem kk_inj {a b c d : Int} (h : kk a b = kk c d) : a = c ∧ b = d := by
  simp [kk] at h
  exact h
theorem ask_none (a b : Int) (W : World) : ∀ (es : List MapEntry) (i : Nat), (∀ e ∈ es, ∃ c d, e.key = kk c d ∧ ¬ (a = c ∧ b = d)) → (Instr.findAsking 85 (kk a b) es i).run Tryz.prog W = .ok none W
  | [], _, _ => rfl
  | e :: es, i, h => by
    obtain ⟨c, d, hk, hn⟩ := h e (List.mem_cons_self ..)
    have hb : (a == c && b == d) = false := by
      rw [Bool.and_eq_false_iff, beq_eq_false_iff_ne, beq_eq_false_iff_ne]
      by_cases h1 : a = c
      · exact .inr fun h2 => hn ⟨h1, h2⟩
      · exact .inl h1
    have he := key_eq a b c d W
    rw [hb] at he
    have ih := ask_none a b W es (i + 1) (fun e' he' => h e' (List.mem_cons_of_mem _ he'))
    simp [Instr.findAsking, hk, he, Result.andThen, ih]
theorem ask_some (a b : Int) (v : Value) (W : World) : ∀ (es : List MapEntry) (i : Nat), (∀ e ∈ es, ∃ c d, e.key = kk c d ∧ (a = c ∧ b = d → e.val = v)) → (∃ e ∈ es, e.key = kk a b) → ∃ j, (Instr.findAsking 85 (kk a b) es i).run Tryz.prog W = .ok (some (j, v)) W
  | [], _, _, h => by obtain ⟨e, he, _⟩ := h; cases he
  | e :: es, i, h, hx => by
    obtain ⟨c, d, hk, hn⟩ := h e (List.mem_cons_self ..)
    have he := key_eq a b c d W
    by_cases hcd : a = c ∧ b = d
    · refine ⟨i, ?_⟩
      rw [show (a == c && b == d) = true by simp [hcd.1, hcd.2]] at he
      simp [Instr.findAsking, hk, he, Result.andThen, hn hcd]
    · have hb : (a == c && b == d) = false := by
        rw [Bool.and_eq_false_iff, beq_eq_false_iff_ne, beq_eq_false_iff_ne]
        by_cases h1 : a = c
        · exact .inr fun h2 => hcd ⟨h1, h2⟩
        · exact .inl h1
      obtain ⟨j, ih⟩ := ask_some a b v W es (i + 1) (fun e' he' => h e' (List.mem_cons_of_mem _ he')) (by
        obtain ⟨e', he', hk'⟩ := hx
        rcases List.mem_cons.1 he' with e0 | he'
        · rw [e0, hk] at hk'
          have := kk_inj hk'
          exact absurd ⟨this.1.symm, this.2.symm⟩ hcd
        · exact ⟨e', he', hk'⟩)
      refine ⟨j, ?_⟩
      rw [hb] at he
      simp [Instr.findAsking, hk, he, Result.andThen, ih]
theorem find_none (a b : Int) (es : List MapEntry) (W : World) (h : ∀ e ∈ es, ∃ c d, e.key = kk c d ∧ ¬ (a = c ∧ b = d)) : (Instr.findKey 85 (kk a b) es).run Tryz.prog W = .ok none W := by
  exact (run_findKey_eq (P := Tryz.prog) (k := 85) W (by kernel_rfl) _ _).trans (ask_none a b W es 0 h)
theorem find_some (a b : Int) (v : Value) (es : List MapEntry) (W : World) (h : ∀ e ∈ es, ∃ c d, e.key = kk c d ∧ (a = c ∧ b = d → e.val = v)) (hx : ∃ e ∈ es, e.key = kk a b) : ∃ j, (Instr.findKey 85 (kk a b) es).run Tryz.prog W = .ok (some (j, v)) W := by
  obtain ⟨j, hj⟩ := ask_some a b v W es 0 h hx
  exact ⟨j, (run_findKey_eq (P := Tryz.prog) (k := 85) W (by kernel_rfl) _ _).trans hj⟩
theorem run_insert_at {P : Program} (w : World) {t kt et : TypeId} {r : Nat} (es : Array MapEntry) (c : Nat) (k v : Value) (ht : P.underlying t = some (.map kt et)) (hb : w.heap[r]? = some (.map es c)) (hc : ∀ W, (Instr.checkKey false 10000 kt k).run P W = .ok () W) (hf : ∀ W, (Instr.findKey kt k es.toList).run P W = .ok none W) :
    (Instr.mapUpdate t (.map (some r)) k v).run P w = .ok () { w with heap := w.heap.setIfInBounds r (.map (es.push ⟨k, v, c⟩) (c + 1)) } := by
  simp [Instr.mapUpdate, run_underlying ht, MapKept.run_getObj_map hb, hc, hf, MapKept.run_setObj_map _ hb, Result.andThen]
theorem run_lookup_key {P : Program} (w : World) {t kt et : TypeId} {r : Nat} {es : Array MapEntry} {c : Nat} {k : Value} {j : Nat} {v : Value} (ht : P.underlying t = some (.map kt et)) (hb : w.heap[r]? = some (.map es c)) (hc : ∀ e W, (Instr.checkKey e 10000 kt k).run P W = .ok () W) (hf : (Instr.findKey kt k es.toList).run P w = .ok (some (j, v)) w) (ok : Bool) :
    (Instr.lookup t (.map (some r)) k ok).run P w = .ok (if ok then .tuple #[v, .bool true] else v) w := by
  cases ok <;> simp [Instr.lookup, run_underlying ht, MapKept.run_getObj_map hb, hc, hf, Result.andThen]
theorem run_lookup_nokey {P : Program} (w : World) {t kt et : TypeId} {r : Nat} {es : Array MapEntry} {c : Nat} {k : Value} {z : Value} (ht : P.underlying t = some (.map kt et)) (hb : w.heap[r]? = some (.map es c)) (hc : ∀ e W, (Instr.checkKey e 10000 kt k).run P W = .ok () W) (hf : (Instr.findKey kt k es.toList).run P w = .ok none w) (hz : (zeroValue et).run P w = .ok z w) (ok : Bool) :
    (Instr.lookup t (.map (some r)) k ok).run P w = .ok (if ok then .tuple #[z, .bool false] else z) w := by
  cases ok <;> simp [Instr.lookup, run_underlying ht, MapKept.run_getObj_map hb, hc, hf, Result.andThen, hz]

/-- the ways: from, to, the function that turns, the one that tells whether it is sure -/
def waysL : List (Int × Int × Nat × Nat) := [(1, 1, 42, 43), (1, 2, 44, 45), (1, 3, 46, 45), (1, 4, 47, 48), (2, 1, 49, 50), (2, 2, 42, 43), (2, 3, 51, 45), (2, 4, 52, 53), (3, 1, 54, 55), (3, 2, 56, 55), (3, 3, 42, 43), (4, 1, 57, 45), (4, 2, 58, 45), (4, 4, 42, 43)]
def wk (i : Nat) : Int × Int × Nat × Nat := waysL.getD ((i - 3) / 3) (0, 0, 0, 0)
def IsEnt (x : Int × Int × Nat × Nat) (e : MapEntry) : Prop := e.key = kk x.1 x.2.1 ∧ e.val = wv x.2.2.1 x.2.2.2
def allI : List Nat := [3, 6, 9, 12, 15, 18, 21, 24, 27, 30, 33, 36, 39, 42]
set_option maxRecDepth 100000 in
theorem keys_apart : ∀ i ∈ allI, ∀ k ∈ allI, i ≠ k → ¬ ((wk i).1 = (wk k).1 ∧ (wk i).2.1 = (wk k).2.1) := by decide +kernel
set_option maxRecDepth 100000 in
theorem ways_of : ∀ i ∈ allI, wk i ∈ waysL := by decide +kernel
set_option maxRecDepth 100000 in
theorem ways_all : ∀ x ∈ waysL, ∃ i ∈ allI, wk i = x := by decide +kernel
set_option maxRecDepth 100000 in
theorem ways_one : ∀ x ∈ waysL, ∀ y ∈ waysL, x.1 = y.1 → x.2.1 = y.2.1 → x = y := by decide +kernel
/-- a map's entries are the ways -/
def IsWays (es : Array MapEntry) : Prop := (∀ x ∈ waysL, ∃ e ∈ es.toList, IsEnt x e) ∧ ∀ e ∈ es.toList, ∃ x ∈ waysL, IsEnt x e
/-- so far: the ones of 'done' are laid -/
def KJ (w0 : World) (r : Nat) (done : List Nat) (w : World) : Prop :=
  ∃ es : Array MapEntry, w.heap[r]? = some (.map es done.length) ∧ (∀ i ∈ done, ∃ e ∈ es.toList, IsEnt (wk i) e) ∧ (∀ e ∈ es.toList, ∃ i ∈ done, IsEnt (wk i) e) ∧ Below w0.heap.size w0 w
theorem no_key {es : Array MapEntry} {i : Nat} {done : List Nat} (hi : i ∈ allI) (hn : i ∉ done) (hs : ∀ x ∈ done, x ∈ allI) (h : ∀ e ∈ es.toList, ∃ k ∈ done, IsEnt (wk k) e) (W : World) : (Instr.findKey 85 (kk (wk i).1 (wk i).2.1) es.toList).run Tryz.prog W = .ok none W := by
  refine find_none _ _ _ W fun e he => ?_
  obtain ⟨k, hk, hE⟩ := h e he
  exact ⟨_, _, hE.1, keys_apart i hi k (hs k hk) (fun h => hn (by rw [h]; exact hk))⟩
theorem KJ.next {w0 w : World} {r i : Nat} {done : List Nat} (h : KJ w0 r done w) (hr : w0.heap.size ≤ r) (hi : i ∈ allI) (hn : i ∉ done) (hs : ∀ x ∈ done, x ∈ allI) :
    ∃ w', (Instr.mapUpdate 69 (.map (some r)) (kk (wk i).1 (wk i).2.1) (wv (wk i).2.2.1 (wk i).2.2.2)).run Tryz.prog w = .ok () w' ∧ KJ w0 r (i :: done) w' := by
  obtain ⟨es, hb, h1, h2, hB⟩ := h
  refine ⟨_, run_insert_at w es _ _ _ Tryz.underlying69 hb (key_check false _ _) (no_key hi hn hs h2), es.push ⟨kk (wk i).1 (wk i).2.1, wv (wk i).2.2.1 (wk i).2.2.2, done.length⟩, ?_, ?_, ?_, ?_⟩
  · simp [(Array.getElem?_eq_some_iff.1 hb).1]
  · intro k hk
    rcases List.mem_cons.1 hk with rfl | hk
    · exact ⟨⟨kk (wk k).1 (wk k).2.1, wv (wk k).2.2.1 (wk k).2.2.2, done.length⟩, by simp, rfl, rfl⟩
    · obtain ⟨e, he, hE⟩ := h1 k hk
      exact ⟨e, by simp [List.mem_append]; exact .inl (by simpa using he), hE⟩
  · intro e he
    rw [Array.toList_push, List.mem_append] at he
    rcases he with he | he
    · obtain ⟨k, hk, hE⟩ := h2 e he
      exact ⟨k, List.mem_cons_of_mem _ hk, hE⟩
    · rw [List.mem_singleton] at he
      subst he
      exact ⟨i, List.mem_cons_self .., rfl, rfl⟩
  · exact ⟨hB.os, hB.tape, hB.output, by simp; exact hB.size, fun k hk => by
      show (w.heap.setIfInBounds r _)[k]? = _
      rw [Array.getElem?_setIfInBounds_ne (by omega)]
      exact hB.block k hk⟩
theorem KJ.ways {w0 w : World} {r : Nat} {done : List Nat} (h : KJ w0 r done w) (ha : ∀ x ∈ allI, x ∈ done) (hs : ∀ x ∈ done, x ∈ allI) : ∃ es c, w.heap[r]? = some (.map es c) ∧ IsWays es := by
  obtain ⟨es, hb, h1, h2, _⟩ := h
  refine ⟨es, _, hb, fun x hx => ?_, fun e he => ?_⟩
  · obtain ⟨i, hi, rfl⟩ := ways_all x hx
    exact h1 i (ha i hi)
  · obtain ⟨i, hi, hE⟩ := h2 e he
    exact ⟨_, ways_of i (hs i hi), hE⟩

theorem ways_found {a b : Int} {f g : Nat} (hx : (a, b, f, g) ∈ waysL) {w : World} {r c : Nat} {es : Array MapEntry} (hb : w.heap[r]? = some (.map es c)) (hw : IsWays es) :
    (Instr.lookup 69 (.map (some r)) (.agg #[.int .i64 a, .int .i64 b]) true).run Tryz.prog w = .ok (.tuple #[.agg #[.func (.func f) #[] #[], .func (.func g) #[] #[]], .bool true]) w := by
  obtain ⟨j, hj⟩ := find_some a b (wv f g) es.toList w (fun e he => by
    obtain ⟨y, hy, hE⟩ := hw.2 e he
    refine ⟨_, _, hE.1, fun hab => ?_⟩
    have := ways_one _ hx y hy hab.1 hab.2
    subst this
    exact hE.2) (by obtain ⟨e, he, hE⟩ := hw.1 _ hx; exact ⟨e, he, hE.1⟩)
  exact run_lookup_key w Tryz.underlying69 hb (fun e => key_check e a b) hj true
theorem ways_none {a b : Int} (hx : ∀ x ∈ waysL, ¬ (a = x.1 ∧ b = x.2.1)) {w : World} {r c : Nat} {es : Array MapEntry} (hb : w.heap[r]? = some (.map es c)) (hw : IsWays es) :
    (Instr.lookup 69 (.map (some r)) (.agg #[.int .i64 a, .int .i64 b]) true).run Tryz.prog w = .ok (.tuple #[.agg #[.nilFunc, .nilFunc], .bool false]) w :=
  run_lookup_nokey w Tryz.underlying69 hb (fun e => key_check e a b) (find_none a b es.toList w fun e he => by
    obtain ⟨y, hy, hE⟩ := hw.2 e he
    exact ⟨_, _, hE.1, hx y hy⟩) (by kernel_rfl) true

set_option maxRecDepth 100000 in
set_option maxHeartbeats 4000000 in
theorem known_any (w : World) :
    Calls Tryz.prog 26 #[] w fun e w' => e = .returned (.map (some w.heap.size)) ∧ (∃ es c, w'.heap[w.heap.size]? = some (.map es c) ∧ IsWays es) ∧ Below w.heap.size w w' := by
  have hmm := @run_makeMap Tryz.prog
  go_enter Tryz.func26, Tryz.ntmps26
  go_wp2_with fail
  refine wp_region_any (by kernel_rfl) ?_
  refine wpAny_take (i := 1) (oi := { dst := some 2, op := Go.Op.build 85 #[(0, Go.Operand.const (Go.Value.int Go.IntKind.i64 1)), (1, Go.Operand.const (Go.Value.int Go.IntKind.i64 1))], type := 85, pos := "way.go:18", after := #[], guard := none }) (v := ?v1) rfl (by kernel_rfl) (by kernel_rfl) (by kernel_rfl) (fun _ _ _ h => h) (Or.inl ⟨by rfl, ?hy1⟩) ?rest1
  case hy1 => (intro W; go_simp; try with_reducible rfl)
  try simp only [Act.put, List.setIfInBounds_toArray, List.set_cons_zero, List.set_cons_succ]
  refine wpAny_take (i := 2) (oi := { dst := some 3, op := Go.Op.build 78 #[(0, Go.Operand.func 42), (1, Go.Operand.func 43)], type := 78, pos := "way.go:18", after := #[], guard := none }) (v := ?v2) rfl (by kernel_rfl) (by kernel_rfl) (by kernel_rfl) (fun _ _ _ h => h) (Or.inl ⟨by rfl, ?hy2⟩) ?rest2
  case hy2 => (intro W; go_simp; try with_reducible rfl)
  try simp only [Act.put, List.setIfInBounds_toArray, List.set_cons_zero, List.set_cons_succ]
  refine wpAny_take (i := 4) (oi := { dst := some 4, op := Go.Op.build 85 #[(0, Go.Operand.const (Go.Value.int Go.IntKind.i64 1)), (1, Go.Operand.const (Go.Value.int Go.IntKind.i64 2))], type := 85, pos := "way.go:18", after := #[], guard := none }) (v := ?v4) rfl (by kernel_rfl) (by kernel_rfl) (by kernel_rfl) (fun _ _ _ h => h) (Or.inl ⟨by rfl, ?hy4⟩) ?rest4
  case hy4 => (intro W; go_simp; try with_reducible rfl)
  try simp only [Act.put, List.setIfInBounds_toArray, List.set_cons_zero, List.set_cons_succ]
  refine wpAny_take (i := 5) (oi := { dst := some 5, op := Go.Op.build 78 #[(0, Go.Operand.func 44), (1, Go.Operand.func 45)], type := 78, pos := "way.go:18", after := #[], guard := none }) (v := ?v5) rfl (by kernel_rfl) (by kernel_rfl) (by kernel_rfl) (fun _ _ _ h => h) (Or.inl ⟨by rfl, ?hy5⟩) ?rest5
  case hy5 => (intro W; go_simp; try with_reducible rfl)
  try simp only [Act.put, List.setIfInBounds_toArray, List.set_cons_zero, List.set_cons_succ]
  refine wpAny_take (i := 7) (oi := { dst := some 6, op := Go.Op.build 85 #[(0, Go.Operand.const (Go.Value.int Go.IntKind.i64 1)), (1, Go.Operand.const (Go.Value.int Go.IntKind.i64 3))], type := 85, pos := "way.go:18", after := #[], guard := none }) (v := ?v7) rfl (by kernel_rfl) (by kernel_rfl) (by kernel_rfl) (fun _ _ _ h => h) (Or.inl ⟨by rfl, ?hy7⟩) ?rest7
  case hy7 => (intro W; go_simp; try with_reducible rfl)
  try simp only [Act.put, List.setIfInBounds_toArray, List.set_cons_zero, List.set_cons_succ]
  refine wpAny_take (i := 8) (oi := { dst := some 7, op := Go.Op.build 78 #[(0, Go.Operand.func 46), (1, Go.Operand.func 45)], type := 78, pos := "way.go:18", after := #[], guard := none }) (v := ?v8) rfl (by kernel_rfl) (by kernel_rfl) (by kernel_rfl) (fun _ _ _ h => h) (Or.inl ⟨by rfl, ?hy8⟩) ?rest8
  case hy8 => (intro W; go_simp; try with_reducible rfl)
  try simp only [Act.put, List.setIfInBounds_toArray, List.set_cons_zero, List.set_cons_succ]
  refine wpAny_take (i := 10) (oi := { dst := some 8, op := Go.Op.build 85 #[(0, Go.Operand.const (Go.Value.int Go.IntKind.i64 1)), (1, Go.Operand.const (Go.Value.int Go.IntKind.i64 4))], type := 85, pos := "way.go:18", after := #[], guard := none }) (v := ?v10) rfl (by kernel_rfl) (by kernel_rfl) (by kernel_rfl) (fun _ _ _ h => h) (Or.inl ⟨by rfl, ?hy10⟩) ?rest10
  case hy10 => (intro W; go_simp; try with_reducible rfl)
  try simp only [Act.put, List.setIfInBounds_toArray, List.set_cons_zero, List.set_cons_succ]
  refine wpAny_take (i := 11) (oi := { dst := some 9, op := Go.Op.build 78 #[(0, Go.Operand.func 47), (1, Go.Operand.func 48)], type := 78, pos := "way.go:18", after := #[], guard := none }) (v := ?v11) rfl (by kernel_rfl) (by kernel_rfl) (by kernel_rfl) (fun _ _ _ h => h) (Or.inl ⟨by rfl, ?hy11⟩) ?rest11
  case hy11 => (intro W; go_simp; try with_reducible rfl)
  try simp only [Act.put, List.setIfInBounds_toArray, List.set_cons_zero, List.set_cons_succ]
  refine wpAny_take (i := 13) (oi := { dst := some 10, op := Go.Op.build 85 #[(0, Go.Operand.const (Go.Value.int Go.IntKind.i64 2)), (1, Go.Operand.const (Go.Value.int Go.IntKind.i64 1))], type := 85, pos := "way.go:18", after := #[], guard := none }) (v := ?v13) rfl (by kernel_rfl) (by kernel_rfl) (by kernel_rfl) (fun _ _ _ h => h) (Or.inl ⟨by rfl, ?hy13⟩) ?rest13
  case hy13 => (intro W; go_simp; try with_reducible rfl)
  try simp only [Act.put, List.setIfInBounds_toArray, List.set_cons_zero, List.set_cons_succ]
  refine wpAny_take (i := 14) (oi := { dst := some 11, op := Go.Op.build 78 #[(0, Go.Operand.func 49), (1, Go.Operand.func 50)], type := 78, pos := "way.go:18", after := #[], guard := none }) (v := ?v14) rfl (by kernel_rfl) (by kernel_rfl) (by kernel_rfl) (fun _ _ _ h => h) (Or.inl ⟨by rfl, ?hy14⟩) ?rest14
  case hy14 => (intro W; go_simp; try with_reducible rfl)
  try simp only [Act.put, List.setIfInBounds_toArray, List.set_cons_zero, List.set_cons_succ]
  refine wpAny_take (i := 16) (oi := { dst := some 12, op := Go.Op.build 85 #[(0, Go.Operand.const (Go.Value.int Go.IntKind.i64 2)), (1, Go.Operand.const (Go.Value.int Go.IntKind.i64 2))], type := 85, pos := "way.go:18", after := #[], guard := none }) (v := ?v16) rfl (by kernel_rfl) (by kernel_rfl) (by kernel_rfl) (fun _ _ _ h => h) (Or.inl ⟨by rfl, ?hy16⟩) ?rest16
  case hy16 => (intro W; go_simp; try with_reducible rfl)
  try simp only [Act.put, List.setIfInBounds_toArray, List.set_cons_zero, List.set_cons_succ]
  refine wpAny_take (i := 17) (oi := { dst := some 13, op := Go.Op.build 78 #[(0, Go.Operand.func 42), (1, Go.Operand.func 43)], type := 78, pos := "way.go:18", after := #[], guard := none }) (v := ?v17) rfl (by kernel_rfl) (by kernel_rfl) (by kernel_rfl) (fun _ _ _ h => h) (Or.inl ⟨by rfl, ?hy17⟩) ?rest17
  case hy17 => (intro W; go_simp; try with_reducible rfl)
  try simp only [Act.put, List.setIfInBounds_toArray, List.set_cons_zero, List.set_cons_succ]
  refine wpAny_take (i := 19) (oi := { dst := some 14, op := Go.Op.build 85 #[(0, Go.Operand.const (Go.Value.int Go.IntKind.i64 2)), (1, Go.Operand.const (Go.Value.int Go.IntKind.i64 3))], type := 85, pos := "way.go:18", after := #[], guard := none }) (v := ?v19) rfl (by kernel_rfl) (by kernel_rfl) (by kernel_rfl) (fun _ _ _ h => h) (Or.inl ⟨by rfl, ?hy19⟩) ?rest19
  case hy19 => (intro W; go_simp; try with_reducible rfl)
  try simp only [Act.put, List.setIfInBounds_toArray, List.set_cons_zero, List.set_cons_succ]
  refine wpAny_take (i := 20) (oi := { dst := some 15, op := Go.Op.build 78 #[(0, Go.Operand.func 51), (1, Go.Operand.func 45)], type := 78, pos := "way.go:18", after := #[], guard := none }) (v := ?v20) rfl (by kernel_rfl) (by kernel_rfl) (by kernel_rfl) (fun _ _ _ h => h) (Or.inl ⟨by rfl, ?hy20⟩) ?rest20
  case hy20 => (intro W; go_simp; try with_reducible rfl)
  try simp only [Act.put, List.setIfInBounds_toArray, List.set_cons_zero, List.set_cons_succ]
  refine wpAny_take (i := 22) (oi := { dst := some 16, op := Go.Op.build 85 #[(0, Go.Operand.const (Go.Value.int Go.IntKind.i64 2)), (1, Go.Operand.const (Go.Value.int Go.IntKind.i64 4))], type := 85, pos := "way.go:18", after := #[], guard := none }) (v := ?v22) rfl (by kernel_rfl) (by kernel_rfl) (by kernel_rfl) (fun _ _ _ h => h) (Or.inl ⟨by rfl, ?hy22⟩) ?rest22
  case hy22 => (intro W; go_simp; try with_reducible rfl)
  try simp only [Act.put, List.setIfInBounds_toArray, List.set_cons_zero, List.set_cons_succ]
  refine wpAny_take (i := 23) (oi := { dst := some 17, op := Go.Op.build 78 #[(0, Go.Operand.func 52), (1, Go.Operand.func 53)], type := 78, pos := "way.go:18", after := #[], guard := none }) (v := ?v23) rfl (by kernel_rfl) (by kernel_rfl) (by kernel_rfl) (fun _ _ _ h => h) (Or.inl ⟨by rfl, ?hy23⟩) ?rest23
  case hy23 => (intro W; go_simp; try with_reducible rfl)
  try simp only [Act.put, List.setIfInBounds_toArray, List.set_cons_zero, List.set_cons_succ]
  refine wpAny_take (i := 25) (oi := { dst := some 18, op := Go.Op.build 85 #[(0, Go.Operand.const (Go.Value.int Go.IntKind.i64 3)), (1, Go.Operand.const (Go.Value.int Go.IntKind.i64 1))], type := 85, pos := "way.go:18", after := #[], guard := none }) (v := ?v25) rfl (by kernel_rfl) (by kernel_rfl) (by kernel_rfl) (fun _ _ _ h => h) (Or.inl ⟨by rfl, ?hy25⟩) ?rest25
  case hy25 => (intro W; go_simp; try with_reducible rfl)
  try simp only [Act.put, List.setIfInBounds_toArray, List.set_cons_zero, List.set_cons_succ]
  refine wpAny_take (i := 26) (oi := { dst := some 19, op := Go.Op.build 78 #[(0, Go.Operand.func 54), (1, Go.Operand.func 55)], type := 78, pos := "way.go:18", after := #[], guard := none }) (v := ?v26) rfl (by kernel_rfl) (by kernel_rfl) (by kernel_rfl) (fun _ _ _ h => h) (Or.inl ⟨by rfl, ?hy26⟩) ?rest26
  case hy26 => (intro W; go_simp; try with_reducible rfl)
  try simp only [Act.put, List.setIfInBounds_toArray, List.set_cons_zero, List.set_cons_succ]
  refine wpAny_take (i := 28) (oi := { dst := some 20, op := Go.Op.build 85 #[(0, Go.Operand.const (Go.Value.int Go.IntKind.i64 3)), (1, Go.Operand.const (Go.Value.int Go.IntKind.i64 2))], type := 85, pos := "way.go:18", after := #[], guard := none }) (v := ?v28) rfl (by kernel_rfl) (by kernel_rfl) (by kernel_rfl) (fun _ _ _ h => h) (Or.inl ⟨by rfl, ?hy28⟩) ?rest28
  case hy28 => (intro W; go_simp; try with_reducible rfl)
  try simp only [Act.put, List.setIfInBounds_toArray, List.set_cons_zero, List.set_cons_succ]
  refine wpAny_take (i := 29) (oi := { dst := some 21, op := Go.Op.build 78 #[(0, Go.Operand.func 56), (1, Go.Operand.func 55)], type := 78, pos := "way.go:18", after := #[], guard := none }) (v := ?v29) rfl (by kernel_rfl) (by kernel_rfl) (by kernel_rfl) (fun _ _ _ h => h) (Or.inl ⟨by rfl, ?hy29⟩) ?rest29
  case hy29 => (intro W; go_simp; try with_reducible rfl)
  try simp only [Act.put, List.setIfInBounds_toArray, List.set_cons_zero, List.set_cons_succ]
  refine wpAny_take (i := 31) (oi := { dst := some 22, op := Go.Op.build 85 #[(0, Go.Operand.const (Go.Value.int Go.IntKind.i64 3)), (1, Go.Operand.const (Go.Value.int Go.IntKind.i64 3))], type := 85, pos := "way.go:18", after := #[], guard := none }) (v := ?v31) rfl (by kernel_rfl) (by kernel_rfl) (by kernel_rfl) (fun _ _ _ h => h) (Or.inl ⟨by rfl, ?hy31⟩) ?rest31
  case hy31 => (intro W; go_simp; try with_reducible rfl)
  try simp only [Act.put, List.setIfInBounds_toArray, List.set_cons_zero, List.set_cons_succ]
  refine wpAny_take (i := 32) (oi := { dst := some 23, op := Go.Op.build 78 #[(0, Go.Operand.func 42), (1, Go.Operand.func 43)], type := 78, pos := "way.go:18", after := #[], guard := none }) (v := ?v32) rfl (by kernel_rfl) (by kernel_rfl) (by kernel_rfl) (fun _ _ _ h => h) (Or.inl ⟨by rfl, ?hy32⟩) ?rest32
  case hy32 => (intro W; go_simp; try with_reducible rfl)
  try simp only [Act.put, List.setIfInBounds_toArray, List.set_cons_zero, List.set_cons_succ]
  refine wpAny_take (i := 34) (oi := { dst := some 24, op := Go.Op.build 85 #[(0, Go.Operand.const (Go.Value.int Go.IntKind.i64 4)), (1, Go.Operand.const (Go.Value.int Go.IntKind.i64 1))], type := 85, pos := "way.go:18", after := #[], guard := none }) (v := ?v34) rfl (by kernel_rfl) (by kernel_rfl) (by kernel_rfl) (fun _ _ _ h => h) (Or.inl ⟨by rfl, ?hy34⟩) ?rest34
  case hy34 => (intro W; go_simp; try with_reducible rfl)
  try simp only [Act.put, List.setIfInBounds_toArray, List.set_cons_zero, List.set_cons_succ]
  refine wpAny_take (i := 35) (oi := { dst := some 25, op := Go.Op.build 78 #[(0, Go.Operand.func 57), (1, Go.Operand.func 45)], type := 78, pos := "way.go:18", after := #[], guard := none }) (v := ?v35) rfl (by kernel_rfl) (by kernel_rfl) (by kernel_rfl) (fun _ _ _ h => h) (Or.inl ⟨by rfl, ?hy35⟩) ?rest35
  case hy35 => (intro W; go_simp; try with_reducible rfl)
  try simp only [Act.put, List.setIfInBounds_toArray, List.set_cons_zero, List.set_cons_succ]
  refine wpAny_take (i := 37) (oi := { dst := some 26, op := Go.Op.build 85 #[(0, Go.Operand.const (Go.Value.int Go.IntKind.i64 4)), (1, Go.Operand.const (Go.Value.int Go.IntKind.i64 2))], type := 85, pos := "way.go:18", after := #[], guard := none }) (v := ?v37) rfl (by kernel_rfl) (by kernel_rfl) (by kernel_rfl) (fun _ _ _ h => h) (Or.inl ⟨by rfl, ?hy37⟩) ?rest37
  case hy37 => (intro W; go_simp; try with_reducible rfl)
  try simp only [Act.put, List.setIfInBounds_toArray, List.set_cons_zero, List.set_cons_succ]
  refine wpAny_take (i := 38) (oi := { dst := some 27, op := Go.Op.build 78 #[(0, Go.Operand.func 58), (1, Go.Operand.func 45)], type := 78, pos := "way.go:18", after := #[], guard := none }) (v := ?v38) rfl (by kernel_rfl) (by kernel_rfl) (by kernel_rfl) (fun _ _ _ h => h) (Or.inl ⟨by rfl, ?hy38⟩) ?rest38
  case hy38 => (intro W; go_simp; try with_reducible rfl)
  try simp only [Act.put, List.setIfInBounds_toArray, List.set_cons_zero, List.set_cons_succ]
  refine wpAny_take (i := 40) (oi := { dst := some 28, op := Go.Op.build 85 #[(0, Go.Operand.const (Go.Value.int Go.IntKind.i64 4)), (1, Go.Operand.const (Go.Value.int Go.IntKind.i64 4))], type := 85, pos := "way.go:18", after := #[], guard := none }) (v := ?v40) rfl (by kernel_rfl) (by kernel_rfl) (by kernel_rfl) (fun _ _ _ h => h) (Or.inl ⟨by rfl, ?hy40⟩) ?rest40
  case hy40 => (intro W; go_simp; try with_reducible rfl)
  try simp only [Act.put, List.setIfInBounds_toArray, List.set_cons_zero, List.set_cons_succ]
  refine wpAny_take (i := 41) (oi := { dst := some 29, op := Go.Op.build 78 #[(0, Go.Operand.func 42), (1, Go.Operand.func 43)], type := 78, pos := "way.go:18", after := #[], guard := none }) (v := ?v41) rfl (by kernel_rfl) (by kernel_rfl) (by kernel_rfl) (fun _ _ _ h => h) (Or.inl ⟨by rfl, ?hy41⟩) ?rest41
  case hy41 => (intro W; go_simp; try with_reducible rfl)
  try simp only [Act.put, List.setIfInBounds_toArray, List.set_cons_zero, List.set_cons_succ]
  refine wpAny_ready (rs := [0]) (by kernel_rfl) (by simp) ?_
  refine AllReady.cons (o := { dst := some 1, op := Go.Op.makeMap 69 none, type := 69, pos := "way.go:18", after := #[], guard := none }) rfl (fun K hK => ?_) AllReady.nil
  go_simp
  refine hK _ _ ?_
  clear hK K
  try simp only [Act.put, List.setIfInBounds_toArray, List.set_cons_zero, List.set_cons_succ]
  refine wpAny_rest (P := Tryz.prog) allI [43, 44] _ _ (KJ w w.heap.size) 2 (by kernel_rfl) (by decide +kernel) ?ins ?fin 14 [] _ rfl List.nodup_nil (fun _ h => by cases h) ?start
  case start => exact ⟨#[], (show (w.alloc (.map #[] 0)).heap[w.heap.size]? = some (.map #[] 0) from heap_alloc_at _ _), fun _ h => absurd h List.not_mem_nil, fun _ h => absurd h List.not_mem_nil, ((Below.refl _ _).alloc (Nat.le_refl _) _).drew⟩
  case ins =>
    intro done i W hi hn hs hJ K hK
    obtain ⟨W', hX, hJ'⟩ := hJ.next (Nat.le_refl _) hi hn hs
    have HK := Lib.hid (hK W' hJ')
    clear hK hJ hJ' hn hs
    simp only [allI, List.mem_cons, List.not_mem_nil, or_false] at hi
    rcases hi with rfl | rfl | rfl | rfl | rfl | rfl | rfl | rfl | rfl | rfl | rfl | rfl | rfl | rfl
    · replace hX : (Instr.mapUpdate 69 (.map (some w.heap.size)) (.agg #[.int .i64 1, .int .i64 1]) (.agg #[.func (.func 42) #[] #[], .func (.func 43) #[] #[]])).run Tryz.prog W = .ok () W' := hX
      refine wpOp_step (o := { dst := none, op := Go.Op.insert 69 (Go.Operand.tmp 1) (Go.Operand.tmp 2) (Go.Operand.tmp 3), type := 0, pos := "way.go:18", after := #[{ on := 0, ground := Go.Ground.data }, { on := 1, ground := Go.Ground.data }, { on := 2, ground := Go.Ground.data }], guard := none }) rfl (fun K' hK' => ?_)
      go_simp
      exact hK' _ _ HK.out
    · replace hX : (Instr.mapUpdate 69 (.map (some w.heap.size)) (.agg #[.int .i64 1, .int .i64 2]) (.agg #[.func (.func 44) #[] #[], .func (.func 45) #[] #[]])).run Tryz.prog W = .ok () W' := hX
      refine wpOp_step (o := { dst := none, op := Go.Op.insert 69 (Go.Operand.tmp 1) (Go.Operand.tmp 4) (Go.Operand.tmp 5), type := 0, pos := "way.go:18", after := #[{ on := 0, ground := Go.Ground.data }, { on := 4, ground := Go.Ground.data }, { on := 5, ground := Go.Ground.data }], guard := none }) rfl (fun K' hK' => ?_)
      go_simp
      exact hK' _ _ HK.out
    · replace hX : (Instr.mapUpdate 69 (.map (some w.heap.size)) (.agg #[.int .i64 1, .int .i64 3]) (.agg #[.func (.func 46) #[] #[], .func (.func 45) #[] #[]])).run Tryz.prog W = .ok () W' := hX
      refine wpOp_step (o := { dst := none, op := Go.Op.insert 69 (Go.Operand.tmp 1) (Go.Operand.tmp 6) (Go.Operand.tmp 7), type := 0, pos := "way.go:18", after := #[{ on := 0, ground := Go.Ground.data }, { on := 7, ground := Go.Ground.data }, { on := 8, ground := Go.Ground.data }], guard := none }) rfl (fun K' hK' => ?_)
      go_simp
      exact hK' _ _ HK.out
    · replace hX : (Instr.mapUpdate 69 (.map (some w.heap.size)) (.agg #[.int .i64 1, .int .i64 4]) (.agg #[.func (.func 47) #[] #[], .func (.func 48) #[] #[]])).run Tryz.prog W = .ok () W' := hX
      refine wpOp_step (o := { dst := none, op := Go.Op.insert 69 (Go.Operand.tmp 1) (Go.Operand.tmp 8) (Go.Operand.tmp 9), type := 0, pos := "way.go:18", after := #[{ on := 0, ground := Go.Ground.data }, { on := 10, ground := Go.Ground.data }, { on := 11, ground := Go.Ground.data }], guard := none }) rfl (fun K' hK' => ?_)
      go_simp
      exact hK' _ _ HK.out
    · replace hX : (Instr.mapUpdate 69 (.map (some w.heap.size)) (.agg #[.int .i64 2, .int .i64 1]) (.agg #[.func (.func 49) #[] #[], .func (.func 50) #[] #[]])).run Tryz.prog W = .ok () W' := hX
      refine wpOp_step (o := { dst := none, op := Go.Op.insert 69 (Go.Operand.tmp 1) (Go.Operand.tmp 10) (Go.Operand.tmp 11), type := 0, pos := "way.go:18", after := #[{ on := 0, ground := Go.Ground.data }, { on := 13, ground := Go.Ground.data }, { on := 14, ground := Go.Ground.data }], guard := none }) rfl (fun K' hK' => ?_)
      go_simp
      exact hK' _ _ HK.out
    · replace hX : (Instr.mapUpdate 69 (.map (some w.heap.size)) (.agg #[.int .i64 2, .int .i64 2]) (.agg #[.func (.func 42) #[] #[], .func (.func 43) #[] #[]])).run Tryz.prog W = .ok () W' := hX
      refine wpOp_step (o := { dst := none, op := Go.Op.insert 69 (Go.Operand.tmp 1) (Go.Operand.tmp 12) (Go.Operand.tmp 13), type := 0, pos := "way.go:18", after := #[{ on := 0, ground := Go.Ground.data }, { on := 16, ground := Go.Ground.data }, { on := 17, ground := Go.Ground.data }], guard := none }) rfl (fun K' hK' => ?_)
      go_simp
      exact hK' _ _ HK.out
    · replace hX : (Instr.mapUpdate 69 (.map (some w.heap.size)) (.agg #[.int .i64 2, .int .i64 3]) (.agg #[.func (.func 51) #[] #[], .func (.func 45) #[] #[]])).run Tryz.prog W = .ok () W' := hX
      refine wpOp_step (o := { dst := none, op := Go.Op.insert 69 (Go.Operand.tmp 1) (Go.Operand.tmp 14) (Go.Operand.tmp 15), type := 0, pos := "way.go:18", after := #[{ on := 0, ground := Go.Ground.data }, { on := 19, ground := Go.Ground.data }, { on := 20, ground := Go.Ground.data }], guard := none }) rfl (fun K' hK' => ?_)
      go_simp
      exact hK' _ _ HK.out
    · replace hX : (Instr.mapUpdate 69 (.map (some w.heap.size)) (.agg #[.int .i64 2, .int .i64 4]) (.agg #[.func (.func 52) #[] #[], .func (.func 53) #[] #[]])).run Tryz.prog W = .ok () W' := hX
      refine wpOp_step (o := { dst := none, op := Go.Op.insert 69 (Go.Operand.tmp 1) (Go.Operand.tmp 16) (Go.Operand.tmp 17), type := 0, pos := "way.go:18", after := #[{ on := 0, ground := Go.Ground.data }, { on := 22, ground := Go.Ground.data }, { on := 23, ground := Go.Ground.data }], guard := none }) rfl (fun K' hK' => ?_)
      go_simp
      exact hK' _ _ HK.out
    · replace hX : (Instr.mapUpdate 69 (.map (some w.heap.size)) (.agg #[.int .i64 3, .int .i64 1]) (.agg #[.func (.func 54) #[] #[], .func (.func 55) #[] #[]])).run Tryz.prog W = .ok () W' := hX
      refine wpOp_step (o := { dst := none, op := Go.Op.insert 69 (Go.Operand.tmp 1) (Go.Operand.tmp 18) (Go.Operand.tmp 19), type := 0, pos := "way.go:18", after := #[{ on := 0, ground := Go.Ground.data }, { on := 25, ground := Go.Ground.data }, { on := 26, ground := Go.Ground.data }], guard := none }) rfl (fun K' hK' => ?_)
      go_simp
      exact hK' _ _ HK.out
    · replace hX : (Instr.mapUpdate 69 (.map (some w.heap.size)) (.agg #[.int .i64 3, .int .i64 2]) (.agg #[.func (.func 56) #[] #[], .func (.func 55) #[] #[]])).run Tryz.prog W = .ok () W' := hX
      refine wpOp_step (o := { dst := none, op := Go.Op.insert 69 (Go.Operand.tmp 1) (Go.Operand.tmp 20) (Go.Operand.tmp 21), type := 0, pos := "way.go:18", after := #[{ on := 0, ground := Go.Ground.data }, { on := 28, ground := Go.Ground.data }, { on := 29, ground := Go.Ground.data }], guard := none }) rfl (fun K' hK' => ?_)
      go_simp
      exact hK' _ _ HK.out
    · replace hX : (Instr.mapUpdate 69 (.map (some w.heap.size)) (.agg #[.int .i64 3, .int .i64 3]) (.agg #[.func (.func 42) #[] #[], .func (.func 43) #[] #[]])).run Tryz.prog W = .ok () W' := hX
      refine wpOp_step (o := { dst := none, op := Go.Op.insert 69 (Go.Operand.tmp 1) (Go.Operand.tmp 22) (Go.Operand.tmp 23), type := 0, pos := "way.go:18", after := #[{ on := 0, ground := Go.Ground.data }, { on := 31, ground := Go.Ground.data }, { on := 32, ground := Go.Ground.data }], guard := none }) rfl (fun K' hK' => ?_)
      go_simp
      exact hK' _ _ HK.out
    · replace hX : (Instr.mapUpdate 69 (.map (some w.heap.size)) (.agg #[.int .i64 4, .int .i64 1]) (.agg #[.func (.func 57) #[] #[], .func (.func 45) #[] #[]])).run Tryz.prog W = .ok () W' := hX
      refine wpOp_step (o := { dst := none, op := Go.Op.insert 69 (Go.Operand.tmp 1) (Go.Operand.tmp 24) (Go.Operand.tmp 25), type := 0, pos := "way.go:18", after := #[{ on := 0, ground := Go.Ground.data }, { on := 34, ground := Go.Ground.data }, { on := 35, ground := Go.Ground.data }], guard := none }) rfl (fun K' hK' => ?_)
      go_simp
      exact hK' _ _ HK.out
    · replace hX : (Instr.mapUpdate 69 (.map (some w.heap.size)) (.agg #[.int .i64 4, .int .i64 2]) (.agg #[.func (.func 58) #[] #[], .func (.func 45) #[] #[]])).run Tryz.prog W = .ok () W' := hX
      refine wpOp_step (o := { dst := none, op := Go.Op.insert 69 (Go.Operand.tmp 1) (Go.Operand.tmp 26) (Go.Operand.tmp 27), type := 0, pos := "way.go:18", after := #[{ on := 0, ground := Go.Ground.data }, { on := 37, ground := Go.Ground.data }, { on := 38, ground := Go.Ground.data }], guard := none }) rfl (fun K' hK' => ?_)
      go_simp
      exact hK' _ _ HK.out
    · replace hX : (Instr.mapUpdate 69 (.map (some w.heap.size)) (.agg #[.int .i64 4, .int .i64 4]) (.agg #[.func (.func 42) #[] #[], .func (.func 43) #[] #[]])).run Tryz.prog W = .ok () W' := hX
      refine wpOp_step (o := { dst := none, op := Go.Op.insert 69 (Go.Operand.tmp 1) (Go.Operand.tmp 28) (Go.Operand.tmp 29), type := 0, pos := "way.go:18", after := #[{ on := 0, ground := Go.Ground.data }, { on := 40, ground := Go.Ground.data }, { on := 41, ground := Go.Ground.data }], guard := none }) rfl (fun K' hK' => ?_)
      go_simp
      exact hK' _ _ HK.out
  case fin =>
    intro done W ha hs hJ
    obtain ⟨es, c, hE, hW⟩ := hJ.ways ha hs
    obtain ⟨_, _, _, _, hB⟩ := hJ
    have HE := Lib.hid (And.intro hE hW)
    have HB := Lib.hid hB
    clear hE hW hB ha hs hmm
    refine wpAny_take (i := 43) (oi := { dst := some 30, op := Go.Op.move (Go.Operand.tmp 1), type := 69, pos := "way.go:18", after := #[{ on := 0, ground := Go.Ground.data }, { on := 1, ground := Go.Ground.data }, { on := 2, ground := Go.Ground.data }, { on := 3, ground := Go.Ground.data }, { on := 4, ground := Go.Ground.data }, { on := 5, ground := Go.Ground.data }, { on := 6, ground := Go.Ground.data }, { on := 7, ground := Go.Ground.data }, { on := 8, ground := Go.Ground.data }, { on := 9, ground := Go.Ground.data }, { on := 10, ground := Go.Ground.data }, { on := 11, ground := Go.Ground.data }, { on := 12, ground := Go.Ground.data }, { on := 13, ground := Go.Ground.data }, { on := 14, ground := Go.Ground.data }, { on := 15, ground := Go.Ground.data }, { on := 16, ground := Go.Ground.data }, { on := 17, ground := Go.Ground.data }, { on := 18, ground := Go.Ground.data }, { on := 19, ground := Go.Ground.data }, { on := 20, ground := Go.Ground.data }, { on := 21, ground := Go.Ground.data }, { on := 22, ground := Go.Ground.data }, { on := 23, ground := Go.Ground.data }, { on := 24, ground := Go.Ground.data }, { on := 25, ground := Go.Ground.data }, { on := 26, ground := Go.Ground.data }, { on := 27, ground := Go.Ground.data }, { on := 28, ground := Go.Ground.data }, { on := 29, ground := Go.Ground.data }, { on := 30, ground := Go.Ground.data }, { on := 31, ground := Go.Ground.data }, { on := 32, ground := Go.Ground.data }, { on := 33, ground := Go.Ground.data }, { on := 34, ground := Go.Ground.data }, { on := 35, ground := Go.Ground.data }, { on := 36, ground := Go.Ground.data }, { on := 37, ground := Go.Ground.data }, { on := 38, ground := Go.Ground.data }, { on := 39, ground := Go.Ground.data }, { on := 40, ground := Go.Ground.data }, { on := 41, ground := Go.Ground.data }, { on := 42, ground := Go.Ground.data }], guard := none }) (v := ?v43) rfl (by kernel_rfl) (by kernel_rfl) (by kernel_rfl) (fun _ _ _ h => h) (Or.inl ⟨by rfl, ?hy43⟩) ?rest43
    case hy43 => (intro W; go_simp; try with_reducible rfl)
    try simp only [Act.put, List.setIfInBounds_toArray, List.set_cons_zero, List.set_cons_succ]
    refine wpAny_take (i := 44) (oi := { dst := some 0, op := Go.Op.assign (Go.Operand.tmp 30), type := 69, pos := "way.go:18", after := #[{ on := 43, ground := Go.Ground.data }, { on := 0, ground := Go.Ground.phase }, { on := 1, ground := Go.Ground.phase }, { on := 2, ground := Go.Ground.phase }, { on := 3, ground := Go.Ground.phase }, { on := 4, ground := Go.Ground.phase }, { on := 5, ground := Go.Ground.phase }, { on := 6, ground := Go.Ground.phase }, { on := 7, ground := Go.Ground.phase }, { on := 8, ground := Go.Ground.phase }, { on := 9, ground := Go.Ground.phase }, { on := 10, ground := Go.Ground.phase }, { on := 11, ground := Go.Ground.phase }, { on := 12, ground := Go.Ground.phase }, { on := 13, ground := Go.Ground.phase }, { on := 14, ground := Go.Ground.phase }, { on := 15, ground := Go.Ground.phase }, { on := 16, ground := Go.Ground.phase }, { on := 17, ground := Go.Ground.phase }, { on := 18, ground := Go.Ground.phase }, { on := 19, ground := Go.Ground.phase }, { on := 20, ground := Go.Ground.phase }, { on := 21, ground := Go.Ground.phase }, { on := 22, ground := Go.Ground.phase }, { on := 23, ground := Go.Ground.phase }, { on := 24, ground := Go.Ground.phase }, { on := 25, ground := Go.Ground.phase }, { on := 26, ground := Go.Ground.phase }, { on := 27, ground := Go.Ground.phase }, { on := 28, ground := Go.Ground.phase }, { on := 29, ground := Go.Ground.phase }, { on := 30, ground := Go.Ground.phase }, { on := 31, ground := Go.Ground.phase }, { on := 32, ground := Go.Ground.phase }, { on := 33, ground := Go.Ground.phase }, { on := 34, ground := Go.Ground.phase }, { on := 35, ground := Go.Ground.phase }, { on := 36, ground := Go.Ground.phase }, { on := 37, ground := Go.Ground.phase }, { on := 38, ground := Go.Ground.phase }, { on := 39, ground := Go.Ground.phase }, { on := 40, ground := Go.Ground.phase }, { on := 41, ground := Go.Ground.phase }, { on := 42, ground := Go.Ground.phase }, { on := 43, ground := Go.Ground.phase }], guard := none }) (v := ?v44) rfl (by kernel_rfl) (by kernel_rfl) (by kernel_rfl) (fun _ _ _ h => h) (Or.inl ⟨by rfl, ?hy44⟩) ?rest44
    case hy44 => (intro W; go_simp; try with_reducible rfl)
    try simp only [Act.put, List.setIfInBounds_toArray, List.set_cons_zero]
    refine wpAny_done (by kernel_rfl) ?_ _
    try dsimp only
    try simp only [Act.put, List.setIfInBounds_toArray, List.set_cons_zero, List.set_cons_succ]
    go_wp2_with fail
    go_ret
    exact ⟨rfl, ⟨es, c, HE.out⟩, HB.out⟩
end Go.Proofs.YtmgeefhacnadcaaGreatDoor
