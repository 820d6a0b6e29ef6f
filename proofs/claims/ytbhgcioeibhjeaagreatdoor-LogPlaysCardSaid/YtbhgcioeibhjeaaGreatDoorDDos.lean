/-
  disk: things done.
-/
import Derived.Test.YtbhgcioeibhjeaaGreatDoorDAsks
import Derived.Test.YtbhgcioeibhjeaaGreatDoorDCut
import Derived.Deep.RegionLaw
import Derived.Maps.AppendAt
namespace Go.Proofs.YtbhgcioeibhjeaaGreatDoor
open Go.RowKit

/-- a disk as the document has it -/
structure Dk where
  room : Nat
  F : Nat → List UInt8
  G : Nat → List UInt8
  L : List Th
structure DkW (N : Nat) (w : World) (Φ : Nat → Prop) (p mf ms : Nat) (V U : Nat → Value) (lv : Value) (B : List (Th × Nat × Nat)) (D : Dk) : Prop where
  p0 : w.heap[p]? = some (.cells #[.map (some mf), .map (some ms), lv, .int .i64 D.room] 72 (0, 0))
  ff : Fs w mf V D.F
  gg : Fs w ms U D.G
  ne : mf ≠ ms
  cross : ∀ f f' g, f ≠ f' → (V f).ownBlock = some g → (U f').ownBlock ≠ some g
  share : ∀ f g, (V f).ownBlock = some g → (U f).ownBlock = some g → (D.G f).length ≤ (D.F f).length ∨ capOf (V f) = (D.F f).length
  row : w.ownsRow N 95 6 lv B.length (B.flatMap fun x => thC x.1 x.2.1 x.2.2)
  bx : ∀ x ∈ B, BoxIn w x.1 x.2.1 x.2.2
  lb : B.map (·.1) = D.L
  fp : Φ p
  fmf : Φ mf
  fms : Φ ms
  fv : ∀ f g, (V f).ownBlock = some g → Φ g
  fu : ∀ f g, (U f).ownBlock = some g → Φ g
  fl : ∀ g, lv.ownBlock = some g → Φ g
  fb : ∀ x ∈ B, Φ x.2.1 ∧ Φ x.2.2
  lt : ∀ k, Φ k → N ≤ k ∧ k < w.heap.size
def DkAt (N : Nat) (w : World) (Φ : Nat → Prop) (p : Nat) (D : Dk) : Prop := ∃ mf ms V U lv B, DkW N w Φ p mf ms V U lv B D
/-- what a call on a disk does to memory: its own blocks, and new ones -/
structure TurnD (w w' : World) (Φ Φ' : Nat → Prop) : Prop where
  os : w'.os = w.os
  tape : w'.tape = w.tape
  output : w'.output = w.output
  size : w.heap.size ≤ w'.heap.size
  block : ∀ k, k < w.heap.size → ¬ Φ k → w'.heap[k]? = w.heap[k]?
  new : ∀ k, Φ' k → Φ k ∨ w.heap.size ≤ k
theorem TurnD.of_below {w w' : World} {Φ : Nat → Prop} (h : Below w.heap.size w w') : TurnD w w' Φ Φ := ⟨h.os, h.tape, h.output, h.size, fun k hk _ => h.block k hk, fun _ hk => .inl hk⟩
theorem TurnD.trans {w w' w'' : World} {Φ Φ' Φ'' : Nat → Prop} (h : TurnD w w' Φ Φ') (h' : TurnD w' w'' Φ' Φ'') : TurnD w w'' Φ Φ'' :=
  ⟨h'.os.trans h.os, h'.tape.trans h.tape, h'.output.trans h.output, Nat.le_trans h.size h'.size, fun k hk hn => (h'.block k (Nat.lt_of_lt_of_le hk h.size) (fun hp => by
    rcases h.new k hp with h0 | h0
    · exact hn h0
    · omega)).trans (h.block k hk hn), fun k hk => by
    rcases h'.new k hk with h0 | h0
    · exact h.new k h0
    · exact .inr (Nat.le_trans h.size h0)⟩
theorem TurnD.below {N : Nat} {w w' : World} {Φ Φ' : Nat → Prop} (h : TurnD w w' Φ Φ') (hN : ∀ k, Φ k → N ≤ k) (hs : N ≤ w.heap.size) : Below N w w' :=
  ⟨h.os, h.tape, h.output, h.size, fun k hk => h.block k (Nat.lt_of_lt_of_le hk hs) (fun hp => by have := hN k hp; omega)⟩
theorem DkW.isDisk {N : Nat} {w : World} {Φ : Nat → Prop} {p mf ms : Nat} {V U : Nat → Value} {lv : Value} {B : List (Th × Nat × Nat)} {D : Dk} (h : DkW N w Φ p mf ms V U lv B D) : IsDisk w p mf := by
  simp [IsDisk, World.cell?, h.p0]
theorem Fs.keep {w w' : World} {r : Nat} {V : Nat → Value} {F : Nat → List UInt8} (h : Fs w r V F) (hr : w'.heap[r]? = w.heap[r]?) (hv : ∀ f g, (V f).ownBlock = some g → w'.heap[g]? = w.heap[g]?) : Fs w' r V F :=
  ⟨h.map.keep hr, fun f => (h.row f).keep (hv f), h.apart⟩
theorem ownsRow_same {w w' : World} {base e size n : Nat} {v : Value} {xs : List Value} (h : w.ownsRow base e size v n xs) (hb : ∀ g, v.ownBlock = some g → w'.heap[g]? = w.heap[g]?) : w'.ownsRow base e size v n xs := by
  refine ⟨h.1, ?_⟩
  rcases h.2 with h0 | ⟨g, cap, cur, e0, h1, h2, h3⟩
  · exact .inl h0
  · exact .inr ⟨g, cap, cur, e0, h1, (hb g (by rw [e0]; rfl)).trans h2, h3⟩
theorem BoxIn.same {w w' : World} {t : Th} {b1 b2 : Nat} (h : BoxIn w t b1 b2) (h1 : w'.heap[b1]? = w.heap[b1]?) (h2 : w'.heap[b2]? = w.heap[b2]?) : BoxIn w' t b1 b2 := by
  cases t <;> exact ⟨h1.trans h.1, h2.trans h.2⟩
/-- a disk abides where its blocks do -/
theorem DkW.keep {N : Nat} {w w' : World} {Φ : Nat → Prop} {p mf ms : Nat} {V U : Nat → Value} {lv : Value} {B : List (Th × Nat × Nat)} {D : Dk} (h : DkW N w Φ p mf ms V U lv B D) (hs : w.heap.size ≤ w'.heap.size) (hb : ∀ k, Φ k → w'.heap[k]? = w.heap[k]?) : DkW N w' Φ p mf ms V U lv B D :=
  ⟨(hb p h.fp).trans h.p0, h.ff.keep (hb _ h.fmf) (fun f g hg => hb g (h.fv f g hg)), h.gg.keep (hb _ h.fms) (fun f g hg => hb g (h.fu f g hg)), h.ne, h.cross, h.share, ownsRow_same h.row (fun g hg => hb g (h.fl g hg)),
    fun x hx => (h.bx x hx).same (hb _ (h.fb x hx).1) (hb _ (h.fb x hx).2), h.lb, h.fp, h.fmf, h.fms, h.fv, h.fu, h.fl, h.fb, fun k hk => ⟨(h.lt k hk).1, Nat.lt_of_lt_of_le (h.lt k hk).2 hs⟩⟩
theorem DkAt.below {N : Nat} {w w' : World} {Φ : Nat → Prop} {p : Nat} {D : Dk} (h : DkAt N w Φ p D) (hb : Below w.heap.size w w') : DkAt N w' Φ p D := by
  obtain ⟨mf, ms, V, U, lv, B, h⟩ := h
  exact ⟨mf, ms, V, U, lv, B, h.keep hb.size (fun k hk => hb.block k (h.lt k hk).2)⟩
def Dk.left (D : Dk) : Int := (D.room : Int) - sumF D.F
def Dk.ok (D : Dk) : Prop := D.room ≤ 16777216 ∧ sumF D.F ≤ 1000000000
set_option maxHeartbeats 2000000 in
theorem left_any {N : Nat} {w : World} {Φ : Nat → Prop} {p : Nat} {D : Dk} (h : DkAt N w Φ p D) (ho : D.ok) :
    Calls Tryz.prog 48 #[.pointer (some ⟨p, 0, none⟩)] w fun e w' => e = .returned (.int .i64 D.left) ∧ Below w.heap.size w w' := by
  obtain ⟨mf, ms, V, U, lv, B, h⟩ := h
  have c0 : w.cell? ⟨p, 0, none⟩ = some (.map (some mf)) := by simp [World.cell?, h.p0]
  have c3 : w.cell? ⟨p, 3, none⟩ = some (.int .i64 D.room) := by simp [World.cell?, h.p0]
  have hpl := (h.lt p h.fp).2
  have HA : Hid (Calls Tryz.prog 78 #[.map (some mf)] w.drew fun e w' => e = .returned (.int .i64 (sumF D.F)) ∧ (w'.cell? ⟨p, 3, none⟩ = some (.int .i64 D.room) ∧ w'.cell? ⟨p, 0, none⟩ = some (.map (some mf))) ∧ Below w.heap.size w w') := Lib.hid ((all_any mf V D.F w.drew h.ff.drew ho.2).mono fun e w' ⟨h0, hb⟩ => by
    have hb' : Below w.heap.size w w' := ((Below.refl _ w).drew).trans hb
    exact ⟨h0, ⟨(hb'.cell hpl).trans c3, (hb'.cell hpl).trans c0⟩, hb'⟩)
  have hr1 := ho.1
  have hr2 := ho.2
  have hwr : IntKind.i64.wrap ((D.room : Int) - (sumF D.F : Int)) = (D.room : Int) - (sumF D.F : Int) := by rw [IntKind.wrap_i64]; omega
  unfold Dk.left
  clear h ho
  generalize sumF D.F = sF at *
  go_enter Tryz.func48, Tryz.ntmps48
  go_wp2_with fail
  go_region_held3 (fun W => W.cell? ⟨p, 3, none⟩ = some (.int .i64 D.room) ∧ W.cell? ⟨p, 0, none⟩ = some (.map (some mf))) (first | assumption | (simp [*]; done))
    (first | (go_at_call 78; refine HA.out.mono ?_; rintro e w' ⟨rfl, hcc, hbb⟩))
  go_wp2_with fail
  go_ret
  exact ⟨rfl, hbb⟩
end Go.Proofs.YtbhgcioeibhjeaaGreatDoor
namespace Go.Proofs.YtbhgcioeibhjeaaGreatDoor
open Go.RowKit

def badFile (f : Int) : Prop := f < 0 ∨ 64 ≤ f
theorem fileE_nil (f : Int) : (¬ badFile f → fileE [] f = 0) ∧ (badFile f → fileE [] f = 4) := by
  unfold fileE badFile
  constructor
  · intro h
    simp only [List.all_nil, if_true]
    exact if_neg h
  · intro h
    simp only [List.all_nil, if_true]
    exact if_pos h
theorem nums_nil (w : World) : NumsIn w none [] := fun j hj => absurd hj (Nat.not_lt_zero j)
set_option maxRecDepth 100000 in
theorem isErr_err (x : Value) (W : World) : (binOp .eql 86 (.iface 144 x) .nilIface).run Tryz.prog W = .ok (.bool false) W := rfl
set_option maxRecDepth 100000 in
theorem isErr_nil (W : World) : (binOp .eql 86 .nilIface .nilIface).run Tryz.prog W = .ok (.bool true) W := rfl
theorem ltFile {f : Int} (h : ¬ badFile f) : ∃ n : Nat, f = n ∧ n < 64 := by
  unfold badFile at h
  exact ⟨f.toNat, by omega, by omega⟩
set_option maxRecDepth 100000 in
set_option maxHeartbeats 2000000 in
theorem mayPut_bad {N : Nat} {w : World} {Φ : Nat → Prop} {p : Nat} {D : Dk} (h : DkAt N w Φ p D) (f : Int) (m : Nat) (hf : badFile f) :
    Calls Tryz.prog 39 #[.pointer (some ⟨p, 0, none⟩), .int .i64 f, .int .i64 m] w (IsErr 4 w) := by
  obtain ⟨mf, ms, V, U, lv, B, h⟩ := h
  have HA := Lib.hid ((askFile_any p mf f none 0 [] w h.isDisk (nums_nil w) (by simp)).mono (fun e w' he => Told.err he (by rw [(fileE_nil f).2 hf]; decide)))
  rw [(fileE_nil f).2 hf] at HA
  have hq := isErr_err
  clear h hf
  go_enter Tryz.func39, Tryz.ntmps39
  go_wp2_with (first | (go_at_call 60; refine HA.out.mono ?_; rintro e w1 ⟨b, rfl, hb, hc, hbw⟩))
  go_ret
  exact ⟨b, rfl, hb, hc, hbw⟩
set_option maxRecDepth 100000 in
set_option maxHeartbeats 2000000 in
theorem mayPut_ok {N : Nat} {w : World} {Φ : Nat → Prop} {p : Nat} {D : Dk} (h : DkAt N w Φ p D) (ho : D.ok) (f : Int) (m : Nat) (hf : ¬ badFile f) :
    Calls Tryz.prog 39 #[.pointer (some ⟨p, 0, none⟩), .int .i64 f, .int .i64 m] w (Told (if D.left < m then 190 else 0) w) := by
  obtain ⟨mf, ms, V, U, lv, B, h0⟩ := id h
  have HA := Lib.hid ((askFile_any p mf f none 0 [] w h0.isDisk (nums_nil w) (by simp)))
  rw [(fileE_nil f).1 hf] at HA
  have HA := Lib.hid (HA.out.mono (fun e w' h => Told.ok h))
  have HL := Lib.hid (fun W (hb : Below w.heap.size w W) => left_any (h.below hb) ho)
  have hq := isErr_err
  have hq0 := isErr_nil
  obtain ⟨n, hn⟩ : ∃ n : Int, (if D.left < m then 190 else 0) = n := ⟨_, rfl⟩
  rw [hn]
  have HN := Lib.hid hn
  clear h h0 hf ho hn
  generalize D.left = dl at *
  by_cases hlt : dl < m
  · have hn2 : n = 190 := by rw [← HN.out, if_pos hlt]
    subst hn2
    clear HN
    go_enter Tryz.func39, Tryz.ntmps39
    go_wp2_with (first | (go_at_call 60; refine HA.out.mono ?_; rintro e w1 ⟨rfl, hb1⟩) | (go_at_call 48; refine (HL.out w1 hb1).mono ?_; rintro e w2 ⟨rfl, hb2⟩) | (go_at_call 67; refine (Of_any _ _ _).mono ?_; rintro e w' ⟨rfl, rfl⟩))
    go_ret
    exact .inr ⟨by decide, isErr_below (hb1.trans (hb2.mono hb1.size)) (isErr_of _ _ _)⟩
  · have hn2 : n = 0 := by rw [← HN.out, if_neg hlt]
    subst hn2
    clear HN
    go_enter Tryz.func39, Tryz.ntmps39
    go_wp2_with (first | (go_at_call 60; refine HA.out.mono ?_; rintro e w1 ⟨rfl, hb1⟩) | (go_at_call 48; refine (HL.out w1 hb1).mono ?_; rintro e w2 ⟨rfl, hb2⟩))
    go_ret
    exact .inl ⟨rfl, rfl, hb1.trans (hb2.mono hb1.size)⟩
/-- what a cut is refused by -/
def cutE (D : Dk) (f m : Int) : Int := if m < 0 then 2 else if f < 0 ∨ 64 ≤ f then 4 else if ((D.F f.toNat).length : Int) < m then 4 else 0
theorem nums_one (w : World) (m : Int) (B : Nat) (hB : w.heap.size = B) : NumsIn (w.alloc (.cells #[.int .i64 m] 3)) (some ⟨B, 0, none⟩) [m] := by
  subst hB
  intro j hj
  have hj0 : j = 0 := by simp at hj; omega
  subst hj0
  refine ⟨_, rfl, ?_⟩
  rw [show (⟨w.heap.size, 0, none⟩ : Addr).add 0 = ⟨w.heap.size, 0, none⟩ by unfold Addr.add; split <;> simp_all]
  simp [go_sem]
set_option maxRecDepth 100000 in
set_option maxHeartbeats 4000000 in
theorem mayCut_any {N : Nat} {w : World} {Φ : Nat → Prop} {p : Nat} {D : Dk} (h : DkAt N w Φ p D) (f m : Int) :
    Calls Tryz.prog 62 #[.pointer (some ⟨p, 0, none⟩), .int .i64 f, .int .i64 m] w (Told (cutE D f m) w) := by
  obtain ⟨mf, ms, V, U, lv, B, h0⟩ := id h
  have hbl : Below w.heap.size w (w.alloc (.cells #[.int .i64 m] 3)) := (Below.refl _ w).alloc (Nat.le_refl _) _
  have h1 := h0.keep hbl.size (fun k hk => hbl.block k (h0.lt k hk).2)
  have HA := Lib.hid (askFile_any p mf f (some ⟨w.heap.size, 0, none⟩) 1 [m] (w.alloc (.cells #[.int .i64 m] 3)) h1.isDisk (nums_one w m _ rfl) (by simp))
  have hq := isErr_err
  have hq0 := isErr_nil
  obtain ⟨n, hn⟩ : ∃ n : Int, cutE D f m = n := ⟨_, rfl⟩
  rw [hn]
  have hz1 : w.heap.size ≤ (w.alloc (.cells #[.int .i64 m] 3)).heap.size := hbl.size
  have bl : ∀ w1, Below (w.alloc (.cells #[.int .i64 m] 3)).heap.size (w.alloc (.cells #[.int .i64 m] 3)) w1 → Below w.heap.size w w1 := fun w1 hb => hbl.trans (hb.mono hz1)
  by_cases hbad : m < 0 ∨ f < 0 ∨ 64 ≤ f
  · obtain ⟨c, hc, hcn, hc0⟩ : ∃ c : Int, fileE [m] f = c ∧ n = c ∧ c ≠ 0 := by
      refine ⟨_, rfl, ?_, ?_⟩
      · rw [← hn]
        unfold cutE fileE
        by_cases hm : m < 0
        · have : ([m].all fun x => decide (0 ≤ x)) = false := by simp; omega
          rw [if_pos hm, this]
          rfl
        · have : ([m].all fun x => decide (0 ≤ x)) = true := by simp; omega
          rw [if_neg hm, this, if_pos rfl, if_pos (by omega), if_pos (by omega)]
      · unfold fileE
        by_cases hm : m < 0
        · have : ([m].all fun x => decide (0 ≤ x)) = false := by simp; omega
          rw [this, if_neg (by decide)]
          decide
        · have : ([m].all fun x => decide (0 ≤ x)) = true := by simp; omega
          rw [this, if_pos rfl, if_pos (by omega)]
          decide
    rw [hc] at HA
    subst hcn
    have HA := Lib.hid (HA.out.mono (fun e w' he => Told.err he hc0))
    have HB := Lib.hid bl
    clear h h0 h1 hn hc bl hbl hz1
    go_enter Tryz.func62, Tryz.ntmps62
    go_wp2_with (first | (go_at_call 60; refine HA.out.mono ?_; rintro e w1 ⟨b, rfl, hb, hcc, hbw⟩))
    go_ret
    exact .inr ⟨hc0, b, rfl, Nat.le_trans (by simp) hb, hcc, HB.out _ hbw⟩
  · have hm0 : ¬ m < 0 := fun e => hbad (.inl e)
    have hf : ¬ badFile f := fun e => hbad (.inr e)
    obtain ⟨k, rfl, hk⟩ := ltFile hf
    have hfe : fileE [m] k = 0 := by
      unfold fileE
      have : ([m].all fun x => decide (0 ≤ x)) = true := by simp; omega
      rw [this, if_pos rfl, if_neg (by omega)]
    rw [hfe] at HA
    have HA := Lib.hid (HA.out.mono (fun e w' h => Told.ok h))
    obtain ⟨oa, cap, hV⟩ := (h0.ff.row k).len
    have HW : Hid (∀ w1, Below (w.alloc (.cells #[.int .i64 m] 3)).heap.size (w.alloc (.cells #[.int .i64 m] 3)) w1 → w1.cell? ⟨p, 0, none⟩ = some (.map (some mf)) ∧ (Instr.lookup 69 (.map (some mf)) (.int .i64 k) false).run Tryz.prog w1 = .ok (.slice oa (D.F k).length cap) w1) := Lib.hid fun w1 hb => by
      have h2 := h0.keep (bl w1 hb).size (fun k hk => (bl w1 hb).block k (h0.lt k hk).2)
      refine ⟨h2.isDisk, ?_⟩
      rw [← hV]
      exact h2.ff.map.lookup Tryz.underlying69 Tryz.underlying3 (zeroB w1) k
    have hn3 : n = if ((D.F k).length : Int) < m then 4 else 0 := by
      rw [← hn]
      unfold cutE
      rw [if_neg hm0, if_neg (by omega)]
      rfl
    have HB := Lib.hid bl
    clear h h0 h1 hn hf hbad hbl hV bl hfe hz1
    generalize (D.F k).length = q at *
    by_cases hlt : (q : Int) < m
    · rw [if_pos hlt] at hn3
      subst hn3
      go_enter Tryz.func62, Tryz.ntmps62
      go_wp2_with (first | (go_at_call 60; refine HA.out.mono ?_; rintro e w1 ⟨rfl, hb1⟩; obtain ⟨hc0, hlk⟩ := HW.out w1 hb1) | (go_at_call 67; refine (Of_any _ _ _).mono ?_; rintro e w' ⟨rfl, rfl⟩))
      go_ret
      exact .inr ⟨by decide, isErr_below (HB.out _ hb1) (isErr_of _ _ _)⟩
    · rw [if_neg hlt] at hn3
      subst hn3
      go_enter Tryz.func62, Tryz.ntmps62
      go_wp2_with (first | (go_at_call 60; refine HA.out.mono ?_; rintro e w1 ⟨rfl, hb1⟩; obtain ⟨hc0, hlk⟩ := HW.out w1 hb1))
      go_ret
      exact .inl ⟨rfl, rfl, HB.out _ hb1⟩
end Go.Proofs.YtbhgcioeibhjeaaGreatDoor
namespace Go.Proofs.YtbhgcioeibhjeaaGreatDoor
open Go.RowKit

theorem step_append_rowD {P : Program} {ops : Array Oper} {o : Oper} {a : Act} {w : World} {K : Act → World → Prop} {Q : Exit → Act → World → Prop} {E : Prop}
    (hg : o.guard = none) (s x : Operand) (t : TypeId) (hop : o.op = Op.call { callee := Callee.builtin Builtin.append, args := #[s, x], argTypes := #[t, t] })
    (base : Nat) (e : TypeId) (i : TypeInfo) (z : Value) (size bytes : Nat) (h1 : P.underlying t = some (.slice e)) (h2 : P.info? e = some i) (h3 : i.zero = some z) (h4 : i.size = size) (h5 : i.bytes = bytes) (h6 : z.cells.size = size) (h7 : 0 < size)
    (v : Value) (n : Nat) (olds : List Value) (hs : a.eval s = v) (hown : w.ownsRow base e size v n olds)
    (ad : Addr) (m c : Nat) (news : List Value) (hx : a.eval x = .slice (some ad) m c) (hn : news.length = m * size) (hc : ∀ j u, news[j]? = some u → w.cell? (ad.add j) = some u) (h1c : ∀ u ∈ news, u.oneCell' = true)
    (b1 : n + m ≤ maxLen) (b2 : (n + m) * bytes ≤ 140737488355328) (hb : base ≤ w.heap.size)
    (hK : ∀ v' w', w'.ownsRow base e size v' (n + m) (olds ++ news) → w.grownBy w' v.ownBlock → (v'.ownBlock = v.ownBlock ∨ v'.ownBlock = some w.heap.size) → K (a.put o.dst v') w') :
    if Region.wanted o (yielded ops a.tmps) = true then Oper.wp P o a w K Q else E := by
  have hw : Region.wanted o (yielded ops a.tmps) = true := by simp [Region.wanted, hg]
  rw [if_pos hw]
  obtain ⟨v', w', hrun, r1, r2, _, r3⟩ := run_append_own_at (P := P) w base t o.type e i z size bytes h1 h2 h3 h4 h5 h6 h7 v n olds hown ad m c news hn hc h1c b1 b2 hb
  unfold Oper.wp
  simp [execOp, hop, resolve, invoke, builtin, hs, hx, hrun, Result.andThen]
  exact hK v' w' r1 r2 r3
theorem infoT : (Tryz.prog.info? 95).map (fun i => (i.zero, i.size, i.bytes)) = some (some (.agg #[.int .i64 0, .bool false, .int .i64 0, .string ⟨#[]⟩, .nilFunc, .nilFunc]), 6, 56) := by kernel_rfl
theorem grownBy_setCellD (w : World) (q o : Nat) (u : Value) : w.grownBy (w.setCell ⟨q, o, none⟩ u) (some q) :=
  ⟨rfl, rfl, rfl, by simp [World.setCell], fun k _ hk => Below.heap_setCell _ _ _ _ (fun e => hk (congrArg some e))⟩
theorem DkW.mapObj {N : Nat} {w : World} {Φ : Nat → Prop} {p mf ms : Nat} {V U : Nat → Value} {lv : Value} {B : List (Th × Nat × Nat)} {D : Dk} (h : DkW N w Φ p mf ms V U lv B D) : (∃ es c, w.heap[mf]? = some (.map es c)) ∧ ∃ es c, w.heap[ms]? = some (.map es c) := by
  obtain ⟨es, c, h1, _⟩ := h.ff.map
  obtain ⟨es2, c2, h2, _⟩ := h.gg.map
  exact ⟨⟨es, c, h1⟩, ⟨es2, c2, h2⟩⟩
/-- what is neither the files' map nor a row of bytes abides while a thing is done -/
theorem DoneE.keep {w w' : World} {r : Nat} {V V' : Nat → Value} {F : Nat → List UInt8} {t : Th} (h : DoneE w w' r V F V' t) (hfs : Fs w r V F) {k : Nat} {o : Obj} (hk : w.heap[k]? = some o) (hne : k ≠ r) (ho : ∀ cur, o ≠ Obj.cells cur 5 (0, 0)) : w'.heap[k]? = some o := by
  cases t with
  | put f s =>
    obtain ⟨v', _, h⟩ := h
    exact h.keep (hfs.row f) hk hne ho
  | cut f m =>
    rw [h.2.block k (Array.getElem?_eq_some_iff.1 hk).1 (fun e => hne (by cases e; rfl)), hk]
theorem DoneE.size {w w' : World} {r : Nat} {V V' : Nat → Value} {F : Nat → List UInt8} {t : Th} (h : DoneE w w' r V F V' t) : w.heap.size ≤ w'.heap.size := by
  cases t with
  | put f s =>
    obtain ⟨v', _, h⟩ := h
    exact h.size
  | cut f m => exact h.2.size
theorem DoneE.os {w w' : World} {r : Nat} {V V' : Nat → Value} {F : Nat → List UInt8} {t : Th} (h : DoneE w w' r V F V' t) : w'.os = w.os ∧ w'.tape = w.tape ∧ w'.output = w.output := by
  cases t with
  | put f s =>
    obtain ⟨v', _, h⟩ := h
    exact h.os
  | cut f m => exact ⟨h.2.os, h.2.tape, h.2.output⟩
theorem DoneE.block {w w' : World} {r : Nat} {V V' : Nat → Value} {F : Nat → List UInt8} {t : Th} (h : DoneE w w' r V F V' t) {k : Nat} (hk : k < w.heap.size) (hr : k ≠ r) (hv : ∀ f, (V f).ownBlock ≠ some k) : w'.heap[k]? = w.heap[k]? := by
  cases t with
  | put f s =>
    obtain ⟨v', _, h⟩ := h
    exact h.block hk hr (hv f)
  | cut f m => exact h.2.block k hk (fun e => hr (by cases e; rfl))
theorem DoneE.own {w w' : World} {r : Nat} {V V' : Nat → Value} {F : Nat → List UInt8} {t : Th} (h : DoneE w w' r V F V' t) (f g : Nat) (hg : (V' f).ownBlock = some g) : (V f).ownBlock = some g ∨ g = w.heap.size := by
  cases t with
  | put q s =>
    obtain ⟨v', rfl, h⟩ := h
    by_cases hf : f = q
    · subst hf
      rw [updV_same] at hg
      rcases h.own with e | e
      · exact .inl (by rw [← e]; exact hg)
      · rw [e] at hg
        cases hg
        exact .inr rfl
    · rw [updV_other hf] at hg
      exact .inl hg
  | cut q m =>
    rw [h.1] at hg
    by_cases hf : f = q
    · subst hf
      rw [updV_same] at hg
      exact .inl (cutV_own hg)
    · rw [updV_other hf] at hg
      exact .inl hg
/-- the other map's files abide -/
theorem DoneE.other {w w' : World} {r q : Nat} {V V' U : Nat → Value} {F G : Nat → List UInt8} {t : Th} (h : DoneE w w' r V F V' t) (hfs : Fs w r V F) (hgs : Fs w q U G) (hne : q ≠ r)
    (cross : ∀ f f' g, f ≠ f' → (V f).ownBlock = some g → (U f').ownBlock ≠ some g) (share : ∀ f g, (V f).ownBlock = some g → (U f).ownBlock = some g → (G f).length ≤ (F f).length ∨ capOf (V f) = (F f).length) : Fs w' q U G := by
  obtain ⟨es, c, hm, hE⟩ := hgs.map
  refine ⟨⟨es, c, h.keep hfs hm hne (fun _ e => by cases e), hE⟩, fun g => ?_, hgs.apart⟩
  cases t with
  | put f s =>
    obtain ⟨v', _, w1, hw, hg⟩ := h
    have hm1 : FMap w1 r V := hfs.map.keep (hw.block hfs.map.lt ((hfs.row f).noMap hfs.map))
    have h1 : SlAt w1 (U g) (G g) := (hgs.row g).went hw (fun e => by
      cases ho : (U g).ownBlock with
      | none =>
        rcases hgs.row g with ⟨_, e1⟩ | ⟨_, gg, cap, cur, e0, _⟩
        · exact .inl (by rw [e1]; simp)
        · rw [e0] at ho; cases ho
      | some b =>
        by_cases hgf : f = g
        · subst hgf
          exact share f b (by rw [← e]; exact ho) ho
        · exact absurd ho (cross f g b hgf (by rw [← e]; exact ho)))
    exact h1.keep (fun b hb => hg.block b (h1.lt b hb) (fun e => (h1.noMap hm1) (by rw [hb, e])))
  | cut f m =>
    exact (hgs.row g).keep (fun b hb => h.2.block b ((hgs.row g).lt b hb) (fun e => ((hgs.row g).noMap hfs.map) (by rw [hb, e])))
theorem doneF_other {F : Nat → List UInt8} {t : Th} {f : Nat} (h : f ≠ t.file) : doneF F t f = F f := by
  cases t <;> exact updF_other h
theorem DoneE.share {w w' : World} {r : Nat} {V V' U : Nat → Value} {F G : Nat → List UInt8} {t : Th} (h : DoneE w w' r V F V' t) (hk : ThOk F t) (hu : ∀ f g, (U f).ownBlock = some g → g < w.heap.size)
    (share : ∀ f g, (V f).ownBlock = some g → (U f).ownBlock = some g → (G f).length ≤ (F f).length ∨ capOf (V f) = (F f).length) : ∀ f g, (V' f).ownBlock = some g → (U f).ownBlock = some g → (G f).length ≤ (doneF F t f).length ∨ capOf (V' f) = (doneF F t f).length := by
  intro f g hv hub
  cases t with
  | put q s =>
    obtain ⟨v', rfl, w1, hw, hg⟩ := h
    by_cases hf : f = q
    · subst hf
      rw [updV_same] at hv ⊢
      have hlen : (doneF F (.put f s) f).length = (F f).length + s.size := by
        show (updF F f (F f ++ s.data.toList) f).length = _
        rw [updF_same, List.length_append]
        simp
      rw [hlen]
      rcases hw with ⟨_, e, hm⟩ | ⟨b, cap, cur, cur', e1, e2, hroom, _⟩ | ⟨e, _⟩
      · subst e
        have := share f g hv hub
        omega
      · rw [e2] at hv
        have := share f g (by rw [e1]; exact hv) hub
        rw [e1] at this
        rw [e2]
        simp only [capOf] at this ⊢
        omega
      · rw [e] at hv
        have := hu f g hub
        cases hv
        omega
    · rw [updV_other hf] at hv ⊢
      rw [doneF_other (t := .put q s) hf]
      exact share f g hv hub
  | cut q m =>
    obtain ⟨rfl, hg⟩ := h
    by_cases hf : f = q
    · subst hf
      rw [updV_same] at hv ⊢
      right
      have hlen : (doneF F (.cut f m) f).length = m := by
        show (updF F f ((F f).take m) f).length = _
        rw [updF_same, List.length_take]
        have := hk.2
        omega
      rw [hlen]
      unfold cutV at hv ⊢
      split at hv
      · unfold stV at hv ⊢
        split at hv
        · cases hv
        · rename_i h0
          simp [h0, capOf]
      · cases hv
    · rw [updV_other hf] at hv ⊢
      rw [doneF_other (t := .cut q m) hf]
      exact share f g hv hub
def grewΦ (w w' : World) (Φ : Nat → Prop) : Nat → Prop := fun k => Φ k ∨ (w.heap.size ≤ k ∧ k < w'.heap.size)
/-- a disk whose files have turned by a thing -/
theorem DkW.done {N : Nat} {w w' : World} {Φ : Nat → Prop} {p mf ms : Nat} {V U V' : Nat → Value} {lv : Value} {B : List (Th × Nat × Nat)} {D : Dk} {t : Th} (h : DkW N w Φ p mf ms V U lv B D) (hs : N ≤ w.heap.size) (hk : ThOk D.F t) (hd : DoneE w w' mf V D.F V' t) (hfs : Fs w' mf V' (doneF D.F t)) :
    DkW N w' (grewΦ w w' Φ) p mf ms V' U lv B { D with F := doneF D.F t } ∧ TurnD w w' Φ (grewΦ w w' Φ) := by
  obtain ⟨⟨es, c, hm⟩, ⟨es2, c2, hm2⟩⟩ := h.mapObj
  have hus : ∀ f g, (U f).ownBlock = some g → g < w.heap.size := fun f g hg => (h.gg.row f).lt g hg
  have ne : ∀ (b : Nat) (cs : Array Value) (ty : TypeId) (fz : Nat × Nat), w.heap[b]? = some (.cells cs ty fz) → b ≠ mf := fun b cs ty fz hb e => by rw [e, hm] at hb; cases hb
  have hbx : ∀ x ∈ B, BoxIn w' x.1 x.2.1 x.2.2 := fun x hx => (h.bx x hx).keep (fun k o hko ho hno => hd.keep h.ff hko (fun e => hno es c (by rw [e, hm] at hko; cases hko; rfl)) ho)
  refine ⟨⟨hd.keep h.ff h.p0 (ne _ _ _ _ h.p0) (fun _ e => by cases e), hfs, hd.other h.ff h.gg h.ne.symm h.cross h.share, h.ne, ?_, hd.share hk hus h.share, ?_, hbx, h.lb, .inl h.fp, .inl h.fmf, .inl h.fms, ?_, fun f g hg => .inl (h.fu f g hg), fun g hg => .inl (h.fl g hg), fun x hx => ⟨.inl (h.fb x hx).1, .inl (h.fb x hx).2⟩, ?_⟩, ⟨hd.os.1, hd.os.2.1, hd.os.2.2, hd.size, fun k hk hn => hd.block hk (fun e => hn (by rw [e]; exact h.fmf)) (fun f e => hn (h.fv f k e)), ?_⟩⟩
  · intro f f' g hff hg hg2
    rcases hd.own f g hg with e | e
    · exact h.cross f f' g hff e hg2
    · have := hus f' g hg2
      omega
  · refine ownsRow_same h.row (fun g hg => ?_)
    rcases h.row.2 with ⟨e0, _⟩ | ⟨b, cap, cur, e0, _, h2, _⟩
    · rw [e0] at hg; cases hg
    · rw [e0] at hg
      cases hg
      rw [h2]
      exact hd.keep h.ff h2 (ne _ _ _ _ h2) (fun _ e => by cases e)
  · intro f g hg
    rcases hd.own f g hg with e | e
    · exact .inl (h.fv f g e)
    · exact .inr ⟨by omega, (hfs.row f).lt g hg⟩
  · intro k hk
    rcases hk with hk | hk
    · exact ⟨(h.lt k hk).1, Nat.lt_of_lt_of_le (h.lt k hk).2 hd.size⟩
    · exact ⟨by omega, hk.2⟩
  · intro k hk
    rcases hk with hk | hk
    · exact .inl hk
    · exact .inr hk.1
end Go.Proofs.YtbhgcioeibhjeaaGreatDoor
namespace Go.Proofs.YtbhgcioeibhjeaaGreatDoor
open Go.RowKit

def Dk.did (D : Dk) (t : Th) : Dk := { D with F := doneF D.F t, L := D.L ++ [t] }
/-- a disk behind the store of its longer list -/
theorem DkW.pushed {N : Nat} {w w1 : World} {Φ : Nat → Prop} {p mf ms : Nat} {V U : Nat → Value} {lv lv' : Value} {B : List (Th × Nat × Nat)} {D : Dk} {t : Th} {b1 b2 : Nat} (h : DkW N w Φ p mf ms V U lv B D) (hs : N ≤ w.heap.size)
    (hb : BoxIn w t b1 b2) (hΦ : Φ b1 ∧ Φ b2) (hg : w.grownBy w1 lv.ownBlock) (hrow : w1.ownsRow N 95 6 lv' (B.length + 1) ((B.flatMap fun x => thC x.1 x.2.1 x.2.2) ++ thC t b1 b2)) (hown : lv'.ownBlock = lv.ownBlock ∨ lv'.ownBlock = some w.heap.size) :
    DkW N (w1.setCell ⟨p, 2, none⟩ lv') (grewΦ w w1 Φ) p mf ms V U lv' (B ++ [(t, b1, b2)]) { D with L := D.L ++ [t] } ∧ TurnD w (w1.setCell ⟨p, 2, none⟩ lv') Φ (grewΦ w w1 Φ) := by
  have hlt := fun k (hk : Φ k) => (h.lt k hk).2
  -- the row's block is of things alone
  have hrb : ∀ g, lv.ownBlock = some g → ∃ cur, w.heap[g]? = some (.cells cur 95 (0, 0)) := fun g hg => by
    rcases h.row.2 with ⟨e0, _⟩ | ⟨b, cap, cur, e0, _, h2, _⟩
    · rw [e0] at hg; cases hg
    · rw [e0] at hg; cases hg; exact ⟨cur, h2⟩
  have hp1 : w1.heap[p]? = w.heap[p]? := hg.block p (hlt p h.fp) (fun e => by
    obtain ⟨cur, hc⟩ := hrb p e.symm
    rw [h.p0] at hc
    cases hc)
  have hfar : ∀ k, k ≠ p → (w1.setCell ⟨p, 2, none⟩ lv').heap[k]? = w1.heap[k]? := fun k hk => Below.heap_setCell _ _ _ _ hk
  have same : ∀ (k : Nat) (o : Obj), w.heap[k]? = some o → (∀ cur, o ≠ Obj.cells cur 95 (0, 0)) → k ≠ p → (w1.setCell ⟨p, 2, none⟩ lv').heap[k]? = w.heap[k]? := fun k o hk ho hkp => by
    rw [hfar k hkp, hg.block k (Array.getElem?_eq_some_iff.1 hk).1 (fun e => by
      obtain ⟨cur, hc⟩ := hrb k e.symm
      rw [hk] at hc
      cases hc
      exact ho cur rfl)]
  have nep : ∀ (k : Nat) (o : Obj), w.heap[k]? = some o → (∀ cur, o ≠ Obj.cells cur 72 (0, 0)) → k ≠ p := fun k o hk ho e => by
    rw [e, h.p0] at hk
    cases hk
    exact ho _ rfl
  obtain ⟨⟨es, c, hm⟩, ⟨es2, c2, hm2⟩⟩ := h.mapObj
  have keepMap : ∀ (r : Nat) (es : Array MapEntry) (c : Nat), w.heap[r]? = some (.map es c) → (w1.setCell ⟨p, 2, none⟩ lv').heap[r]? = w.heap[r]? := fun r es c hr => same r _ hr (fun _ e => by cases e) (nep r _ hr (fun _ e => by cases e))
  have keepRow : ∀ v l, SlAt w v l → ∀ g, v.ownBlock = some g → (w1.setCell ⟨p, 2, none⟩ lv').heap[g]? = w.heap[g]? := fun v l hv g hg => by
    obtain ⟨cur, hc⟩ := hv.elem g hg
    exact same g _ hc (fun _ e => by cases e) (nep g _ hc (fun _ e => by cases e))
  have keepBox : ∀ t b1 b2, BoxIn w t b1 b2 → BoxIn (w1.setCell ⟨p, 2, none⟩ lv') t b1 b2 := fun t b1 b2 hb => hb.same
    (by cases t <;> exact same _ _ hb.1 (fun _ e => by cases e) (nep _ _ hb.1 (fun _ e => by cases e)))
    (by cases t <;> exact same _ _ hb.2 (fun _ e => by cases e) (nep _ _ hb.2 (fun _ e => by cases e)))
  have hsz : (w1.setCell ⟨p, 2, none⟩ lv').heap.size = w1.heap.size := by simp [World.setCell]
  have hpne : ∀ g, lv'.ownBlock = some g → g ≠ p := fun g hg' e => by
    subst e
    rcases hown with h1 | h1
    · obtain ⟨cur, hc⟩ := hrb g (by rw [← h1]; exact hg')
      rw [h.p0] at hc
      cases hc
    · have := hlt g h.fp
      rw [h1] at hg'
      cases hg'
      omega
  refine ⟨⟨?_, h.ff.keep (keepMap _ _ _ hm) (fun f g hg => keepRow _ _ (h.ff.row f) g hg), h.gg.keep (keepMap _ _ _ hm2) (fun f g hg => keepRow _ _ (h.gg.row f) g hg), h.ne, h.cross, h.share, ?_, ?_, by simp [h.lb], .inl h.fp, .inl h.fmf, .inl h.fms, fun f g hg => .inl (h.fv f g hg), fun f g hg => .inl (h.fu f g hg), ?_, ?_, ?_⟩, ⟨hg.os, hg.tape, hg.output, by rw [hsz]; exact hg.size, ?_, ?_⟩⟩
  · have h1 : w1.heap[p]? = some (.cells #[.map (some mf), .map (some ms), lv, .int .i64 D.room] 72 (0, 0)) := hp1.trans h.p0
    unfold World.setCell
    rw [Array.getElem?_modify, if_pos rfl, h1]
    rfl
  · rw [List.length_append, List.flatMap_append]
    simp only [List.length_cons, List.length_nil, List.flatMap_cons, List.flatMap_nil, List.append_nil]
    exact ownsRow_same hrow (fun g hg => hfar g (hpne g hg))
  · intro x hx
    rcases List.mem_append.1 hx with hx | hx
    · exact keepBox _ _ _ (h.bx x hx)
    · rw [List.mem_singleton] at hx
      subst hx
      exact keepBox _ _ _ hb
  · intro g hg'
    rcases hown with h1 | h1
    · exact .inl (h.fl g (by rw [← h1]; exact hg'))
    · rw [h1] at hg'
      cases hg'
      exact .inr ⟨Nat.le_refl _, (hrow.lt _ h1).2⟩
  · intro x hx
    rcases List.mem_append.1 hx with hx | hx
    · exact ⟨.inl (h.fb x hx).1, .inl (h.fb x hx).2⟩
    · rw [List.mem_singleton] at hx
      subst hx
      exact ⟨.inl hΦ.1, .inl hΦ.2⟩
  · intro k hk
    rw [hsz]
    rcases hk with hk | hk
    · exact ⟨(h.lt k hk).1, Nat.lt_of_lt_of_le (h.lt k hk).2 hg.size⟩
    · exact ⟨by omega, hk.2⟩
  · intro k hk hn
    rw [hfar k (fun e => hn (by rw [e]; exact h.fp))]
    exact hg.block k hk (fun e => hn (h.fl k e.symm))
  · intro k hk
    rcases hk with hk | hk
    · exact .inl hk
    · exact .inr hk.1
end Go.Proofs.YtbhgcioeibhjeaaGreatDoor
namespace Go.Proofs.YtbhgcioeibhjeaaGreatDoor
open Go.RowKit

theorem DoneE.drew {w w' : World} {r : Nat} {V V' : Nat → Value} {F : Nat → List UInt8} {t : Th} (h : DoneE w.drew w' r V F V' t) : DoneE w w' r V F V' t := by
  cases t with
  | put f s =>
    obtain ⟨v', e, h⟩ := h
    exact ⟨v', e, h.drew⟩
  | cut f m => exact ⟨h.1, ⟨h.2.os, h.2.tape, h.2.output, h.2.size, h.2.block⟩⟩
theorem DkW.drew {N : Nat} {w : World} {Φ : Nat → Prop} {p mf ms : Nat} {V U : Nat → Value} {lv : Value} {B : List (Th × Nat × Nat)} {D : Dk} (h : DkW N w Φ p mf ms V U lv B D) : DkW N w.drew Φ p mf ms V U lv B D := h.keep (Nat.le_refl _) (fun _ _ => rfl)
theorem lit_cells (W : World) (l : List Value) (ty : TypeId) : ∀ j u, l[j]? = some u → (W.alloc (.cells l.toArray ty)).cell? ((⟨W.heap.size, 0, none⟩ : Addr).add j) = some u := by
  intro j u hj
  have e : ((⟨W.heap.size, 0, none⟩ : Addr).add j) = ⟨W.heap.size, j, none⟩ := by
    unfold Addr.add
    split
    · simp_all
    · simp
  rw [e]
  have hh := heap_alloc_at W (.cells l.toArray ty)
  simp only [World.cell?]
  rw [hh]
  simpa using hj
theorem thC_one (t : Th) (b1 b2 : Nat) : ∀ u ∈ thC t b1 b2, u.oneCell' = true := by
  intro u hu
  cases t <;> simp [thC] at hu <;> rcases hu with rfl | rfl | rfl | rfl | rfl | rfl <;> rfl
theorem box_cells {w : World} {b : Nat} {l : List Value} {ty : TypeId} {fz : Nat × Nat} (h : w.heap[b]? = some (.cells l.toArray ty fz)) (j : Nat) (v : Value) (hj : l[j]? = some v) : w.cell? ⟨b, j, none⟩ = some v := by
  simp [World.cell?, h, hj]
theorem row_form {w : World} {base e size n : Nat} {v : Value} {xs : List Value} (h : w.ownsRow base e size v (n + 1) xs) : ∃ q z, v = .slice (some ⟨q, 0, none⟩) (n + 1) z := by
  rcases h.2 with ⟨_, h0⟩ | ⟨g, cap, cur, hv, _⟩
  · omega
  · exact ⟨_, _, hv⟩
theorem flat_len (B : List (Th × Nat × Nat)) : (B.flatMap fun x => thC x.1 x.2.1 x.2.2).length = B.length * 6 := by
  induction B with
  | nil => rfl
  | cons x B ih => rw [List.flatMap_cons, List.length_append, ih, thC_length, List.length_cons]; omega
set_option maxRecDepth 100000 in
set_option maxHeartbeats 4000000 in
theorem do_put {N : Nat} {w : World} {Φ : Nat → Prop} {p mf ms : Nat} {V U : Nat → Value} {lv : Value} {B : List (Th × Nat × Nat)} {D : Dk} {f : Nat} {s : ByteArray} {b1 b2 : Nat} (h : DkW N w Φ p mf ms V U lv B D) (hs : N ≤ w.heap.size) (hb : BoxIn w (.put f s) b1 b2) (hΦ : Φ b1 ∧ Φ b2) (hk : ThOk D.F (.put f s)) (hB : B.length ≤ 1000) :
    Calls Tryz.prog 41 #[.pointer (some ⟨p, 0, none⟩), .agg (thC (.put f s) b1 b2).toArray] w fun e w' => e = .returned (.tuple #[]) ∧ ∃ Φ', DkAt N w' Φ' p (D.did (.put f s)) ∧ TurnD w w' Φ Φ' := by
  obtain ⟨i0, hi0, hz0, hz1, hz2⟩ := info_parts infoT
  obtain ⟨w0, hw0⟩ : ∃ w0, w.alloc (.cells (thC (.put f s) b1 b2).toArray 95) = w0 := ⟨_, rfl⟩
  have hb0 : Below w.heap.size w w0 := by rw [← hw0]; exact (Below.refl _ w).alloc (Nat.le_refl _) _
  have hbox : w0.heap[w.heap.size]? = some (.cells (thC (.put f s) b1 b2).toArray 95 (0, 0)) := by rw [← hw0]; exact heap_alloc_at w _
  have h0 : DkW N w0 Φ p mf ms V U lv B D := h.keep hb0.size (fun k hk => hb0.block k (h.lt k hk).2)
  have hbx0 : BoxIn w0 (.put f s) b1 b2 := hb.same (hb0.block _ (h.lt _ hΦ.1).2) (hb0.block _ (h.lt _ hΦ.2).2)
  obtain ⟨⟨es, c, hmo⟩, _⟩ := h0.mapObj
  have hpo : p ≠ mf := fun e => by
    have := h0.p0
    rw [e, hmo] at this
    cases this
  have hto : w.heap.size ≠ mf := fun e => by
    rw [e, hmo] at hbox
    cases hbox
  have HC : Hid (Calls Tryz.prog 69 #[.map (some mf), .pointer (some ⟨b1, 0, none⟩), .pointer (some ⟨b2, 0, none⟩)] w0.drew fun e w2 => e = .returned (.tuple #[]) ∧ (w2.cell? ⟨w.heap.size, 4, none⟩ = some (.func (.func 69) #[] #[.pointer (some ⟨b1, 0, none⟩), .pointer (some ⟨b2, 0, none⟩)]) ∧ w2.cell? ⟨p, 0, none⟩ = some (.map (some mf))) ∧
      w2.heap[w.heap.size]? = some (.cells (thC (.put f s) b1 b2).toArray 95 (0, 0)) ∧ ∃ V', Fs w2 mf V' (doneF D.F (.put f s)) ∧ DoneE w0 w2 mf V D.F V' (.put f s)) := Lib.hid ((putting1_any mf f b1 b2 s V D.F w0.drew h0.ff.drew hbx0 hk).mono (fun e w2 ⟨e0, V', h3, h4⟩ => by
    have h4 := h4.drew
    have hbk := h4.keep h0.ff hbox hto (fun _ e => by cases e)
    have hpk := h4.keep h0.ff h0.p0 hpo (fun _ e => by cases e)
    exact ⟨e0, ⟨box_cells hbk 4 _ rfl, by simp [World.cell?, hpk]⟩, hbk, V', h3, h4⟩))
  have c4 : w0.cell? ⟨w.heap.size, 4, none⟩ = some (.func (.func 69) #[] #[.pointer (some ⟨b1, 0, none⟩), .pointer (some ⟨b2, 0, none⟩)]) := box_cells hbox 4 _ rfl
  have c0 : w0.cell? ⟨p, 0, none⟩ = some (.map (some mf)) := h0.isDisk
  have H0 := Lib.hid h0
  have HB0 := Lib.hid hb0
  have HBX := Lib.hid hbx0
  have HK := Lib.hid hk
  have hs0 : N ≤ w0.heap.size := Nat.le_trans hs hb0.size
  clear h hb h0 hb0 hbx0 hk hmo hbox
  go_enter Tryz.func41, Tryz.ntmps41
  go_wp2_with fail
  try rw [hw0]
  clear hw0
  go_region_held3 (fun W => W.cell? ⟨w.heap.size, 4, none⟩ = some (.func (.func 69) #[] #[.pointer (some ⟨b1, 0, none⟩), .pointer (some ⟨b2, 0, none⟩)]) ∧ W.cell? ⟨p, 0, none⟩ = some (.map (some mf))) (first | assumption | (simp [*]; done))
    (first | (go_at_call 69; refine HC.out.mono ?_; rintro e w2 ⟨rfl, hcc, hbk, V', hfs, hde⟩))
  obtain ⟨h2, ht2⟩ := H0.out.done hs0 HK.out hde hfs
  have hsz2 : w0.heap.size ≤ w2.heap.size := hde.size
  have hs2 : N ≤ w2.heap.size := Nat.le_trans hs0 hsz2
  have hbx2 : BoxIn w2 (.put f s) b1 b2 := HBX.out.keep (fun k o hko ho hno => hde.keep H0.out.ff hko (fun e => by
    obtain ⟨⟨es, c, hmo⟩, _⟩ := H0.out.mapObj
    rw [e, hmo] at hko
    cases hko
    exact hno es c rfl) ho)
  clear hcc hfs hde
  obtain ⟨wd, hwd⟩ : ∃ wd, w2.drew = wd := ⟨_, rfl⟩
  have h3 : DkW N wd (grewΦ w0 w2 Φ) p mf ms V' U lv B { D with F := doneF D.F (.put f s) } := by rw [← hwd]; exact h2.drew
  have hbk3 : wd.heap[w.heap.size]? = some (.cells (thC (.put f s) b1 b2).toArray 95 (0, 0)) := by rw [← hwd]; exact hbk
  have ht3 : TurnD w0 wd Φ (grewΦ w0 w2 Φ) := by rw [← hwd]; exact ⟨ht2.os, ht2.tape, ht2.output, ht2.size, ht2.block, ht2.new⟩
  have hbx3 : BoxIn wd (.put f s) b1 b2 := by rw [← hwd]; exact hbx2
  have hs3 : N ≤ wd.heap.size := by rw [← hwd]; exact hs2
  have d0 := box_cells hbk3 0 _ rfl
  have d1 := box_cells hbk3 1 _ rfl
  have d2 := box_cells hbk3 2 _ rfl
  have d3 := box_cells hbk3 3 _ rfl
  have d4 := box_cells hbk3 4 _ rfl
  have d5 := box_cells hbk3 5 _ rfl
  have hpl : p < wd.heap.size := (h3.lt p h3.fp).2
  have e2 : wd.cell? ⟨p, 2, none⟩ = some lv := by simp [World.cell?, h3.p0]
  have e2b : ∀ o, (wd.alloc o).cell? ⟨p, 2, none⟩ = some lv := fun o => (World.cell?_alloc_lt _ _ _ hpl).trans e2
  have H3 := Lib.hid h3
  have HT := Lib.hid ht3
  have HBX3 := Lib.hid hbx3
  have hflat := flat_len B
  have HFL := Lib.hid hflat
  clear h2 ht2 hbx2 h3 ht3 hbx3 hbk hbk3 hflat HBX HK HC
  go_wp2_with fail
  try rw [hwd]
  go_region_law (first | (refine step_append_rowD rfl (.tmp 15) (.tmp 17) 70 rfl N 95 i0 (.agg #[.int .i64 0, .bool false, .int .i64 0, .string ⟨#[]⟩, .nilFunc, .nilFunc]) 6 56 Tryz.underlying70 hi0 hz0 hz1 hz2 rfl (by decide) lv B.length (B.flatMap fun x => thC x.1 x.2.1 x.2.2) ?hs ?hrow ⟨wd.heap.size, 0, none⟩ 1 1 (thC (.put f s) b1 b2) ?hx rfl ?hc (thC_one _ _ _) ?b1 ?b2 ?hb ?_; (case hs => (simp [Act.eval]; done)); (case hx => (simp [Act.eval]; done)); (case hc => exact lit_cells wd (thC (.put f s) b1 b2) 95); (case hrow => exact H3.out.row.alloc _); (case b1 => (unfold maxLen; omega)); (case b2 => omega); (case hb => (simp; omega)); intro lv' w3 hrow3 hg3 hown3; obtain ⟨q3, z3, rfl⟩ := row_form hrow3; have hp3 : w3.heap[p]? = (wd.alloc (.cells (thC (.put f s) b1 b2).toArray 95)).heap[p]? := hg3.block p (by simp; omega) (fun e => by
      rcases H3.out.row.2 with ⟨e0, _⟩ | ⟨b, cap, cur, e0, _, hh, _⟩
      · rw [e0] at e; cases e
      · rw [e0] at e; cases e; rw [H3.out.p0] at hh; cases hh); rw [Below.heap_alloc _ _ _ hpl, H3.out.p0] at hp3; have f2 : w3.cell? ⟨p, 2, none⟩ = some lv := (by simp [World.cell?, hp3]); have f2F : w3.frozen? ⟨p, 2, none⟩ = false := (by simp [World.frozen?, hp3])))
  all_goals
    go_wp2_with fail
    go_end0
    have hal : Below wd.heap.size wd (wd.alloc (.cells (thC (.put f s) b1 b2).toArray 95)) := (Below.refl _ wd).alloc (Nat.le_refl _) _
    have h4 := H3.out.keep hal.size (fun k hk => hal.block k (H3.out.lt k hk).2)
    have hbx4 := HBX3.out.same (hal.block _ (H3.out.lt _ (.inl hΦ.1)).2) (hal.block _ (H3.out.lt _ (.inl hΦ.2)).2)
    obtain ⟨h5, ht5⟩ := h4.pushed (by simp; omega) hbx4 ⟨.inl hΦ.1, .inl hΦ.2⟩ hg3 hrow3 (by simpa using hown3)
    exact ⟨rfl, _, ⟨_, _, _, _, _, _, h5⟩, (((TurnD.of_below HB0.out).trans HT.out).trans (TurnD.of_below hal)).trans ht5⟩
set_option maxRecDepth 100000 in
set_option maxHeartbeats 4000000 in
theorem do_cut {N : Nat} {w : World} {Φ : Nat → Prop} {p mf ms : Nat} {V U : Nat → Value} {lv : Value} {B : List (Th × Nat × Nat)} {D : Dk} {f m : Nat} {b1 b2 : Nat} (h : DkW N w Φ p mf ms V U lv B D) (hs : N ≤ w.heap.size) (hb : BoxIn w (.cut f m) b1 b2) (hΦ : Φ b1 ∧ Φ b2) (hk : ThOk D.F (.cut f m)) (hB : B.length ≤ 1000) :
    Calls Tryz.prog 41 #[.pointer (some ⟨p, 0, none⟩), .agg (thC (.cut f m) b1 b2).toArray] w fun e w' => e = .returned (.tuple #[]) ∧ ∃ Φ', DkAt N w' Φ' p (D.did (.cut f m)) ∧ TurnD w w' Φ Φ' := by
  obtain ⟨i0, hi0, hz0, hz1, hz2⟩ := info_parts infoT
  obtain ⟨w0, hw0⟩ : ∃ w0, w.alloc (.cells (thC (.cut f m) b1 b2).toArray 95) = w0 := ⟨_, rfl⟩
  have hb0 : Below w.heap.size w w0 := by rw [← hw0]; exact (Below.refl _ w).alloc (Nat.le_refl _) _
  have hbox : w0.heap[w.heap.size]? = some (.cells (thC (.cut f m) b1 b2).toArray 95 (0, 0)) := by rw [← hw0]; exact heap_alloc_at w _
  have h0 : DkW N w0 Φ p mf ms V U lv B D := h.keep hb0.size (fun k hk => hb0.block k (h.lt k hk).2)
  have hbx0 : BoxIn w0 (.cut f m) b1 b2 := hb.same (hb0.block _ (h.lt _ hΦ.1).2) (hb0.block _ (h.lt _ hΦ.2).2)
  obtain ⟨⟨es, c, hmo⟩, _⟩ := h0.mapObj
  have hpo : p ≠ mf := fun e => by
    have := h0.p0
    rw [e, hmo] at this
    cases this
  have hto : w.heap.size ≠ mf := fun e => by
    rw [e, hmo] at hbox
    cases hbox
  have HC : Hid (Calls Tryz.prog 85 #[.map (some mf), .pointer (some ⟨b1, 0, none⟩), .pointer (some ⟨b2, 0, none⟩)] w0.drew fun e w2 => e = .returned (.tuple #[]) ∧ (w2.cell? ⟨w.heap.size, 4, none⟩ = some (.func (.func 85) #[] #[.pointer (some ⟨b1, 0, none⟩), .pointer (some ⟨b2, 0, none⟩)]) ∧ w2.cell? ⟨p, 0, none⟩ = some (.map (some mf))) ∧
      w2.heap[w.heap.size]? = some (.cells (thC (.cut f m) b1 b2).toArray 95 (0, 0)) ∧ ∃ V', Fs w2 mf V' (doneF D.F (.cut f m)) ∧ DoneE w0 w2 mf V D.F V' (.cut f m)) := Lib.hid ((cutting1_any mf f m b1 b2  V D.F w0.drew h0.ff.drew hbx0 hk).mono (fun e w2 ⟨e0, V', h3, h4⟩ => by
    have h4 := h4.drew
    have hbk := h4.keep h0.ff hbox hto (fun _ e => by cases e)
    have hpk := h4.keep h0.ff h0.p0 hpo (fun _ e => by cases e)
    exact ⟨e0, ⟨box_cells hbk 4 _ rfl, by simp [World.cell?, hpk]⟩, hbk, V', h3, h4⟩))
  have c4 : w0.cell? ⟨w.heap.size, 4, none⟩ = some (.func (.func 85) #[] #[.pointer (some ⟨b1, 0, none⟩), .pointer (some ⟨b2, 0, none⟩)]) := box_cells hbox 4 _ rfl
  have c0 : w0.cell? ⟨p, 0, none⟩ = some (.map (some mf)) := h0.isDisk
  have H0 := Lib.hid h0
  have HB0 := Lib.hid hb0
  have HBX := Lib.hid hbx0
  have HK := Lib.hid hk
  have hs0 : N ≤ w0.heap.size := Nat.le_trans hs hb0.size
  clear h hb h0 hb0 hbx0 hk hmo hbox
  go_enter Tryz.func41, Tryz.ntmps41
  go_wp2_with fail
  try rw [hw0]
  clear hw0
  go_region_held3 (fun W => W.cell? ⟨w.heap.size, 4, none⟩ = some (.func (.func 85) #[] #[.pointer (some ⟨b1, 0, none⟩), .pointer (some ⟨b2, 0, none⟩)]) ∧ W.cell? ⟨p, 0, none⟩ = some (.map (some mf))) (first | assumption | (simp [*]; done))
    (first | (go_at_call 85; refine HC.out.mono ?_; rintro e w2 ⟨rfl, hcc, hbk, V', hfs, hde⟩))
  obtain ⟨h2, ht2⟩ := H0.out.done hs0 HK.out hde hfs
  have hsz2 : w0.heap.size ≤ w2.heap.size := hde.size
  have hs2 : N ≤ w2.heap.size := Nat.le_trans hs0 hsz2
  have hbx2 : BoxIn w2 (.cut f m) b1 b2 := HBX.out.keep (fun k o hko ho hno => hde.keep H0.out.ff hko (fun e => by
    obtain ⟨⟨es, c, hmo⟩, _⟩ := H0.out.mapObj
    rw [e, hmo] at hko
    cases hko
    exact hno es c rfl) ho)
  clear hcc hfs hde
  obtain ⟨wd, hwd⟩ : ∃ wd, w2.drew = wd := ⟨_, rfl⟩
  have h3 : DkW N wd (grewΦ w0 w2 Φ) p mf ms V' U lv B { D with F := doneF D.F (.cut f m) } := by rw [← hwd]; exact h2.drew
  have hbk3 : wd.heap[w.heap.size]? = some (.cells (thC (.cut f m) b1 b2).toArray 95 (0, 0)) := by rw [← hwd]; exact hbk
  have ht3 : TurnD w0 wd Φ (grewΦ w0 w2 Φ) := by rw [← hwd]; exact ⟨ht2.os, ht2.tape, ht2.output, ht2.size, ht2.block, ht2.new⟩
  have hbx3 : BoxIn wd (.cut f m) b1 b2 := by rw [← hwd]; exact hbx2
  have hs3 : N ≤ wd.heap.size := by rw [← hwd]; exact hs2
  have d0 := box_cells hbk3 0 _ rfl
  have d1 := box_cells hbk3 1 _ rfl
  have d2 := box_cells hbk3 2 _ rfl
  have d3 := box_cells hbk3 3 _ rfl
  have d4 := box_cells hbk3 4 _ rfl
  have d5 := box_cells hbk3 5 _ rfl
  have hpl : p < wd.heap.size := (h3.lt p h3.fp).2
  have e2 : wd.cell? ⟨p, 2, none⟩ = some lv := by simp [World.cell?, h3.p0]
  have e2b : ∀ o, (wd.alloc o).cell? ⟨p, 2, none⟩ = some lv := fun o => (World.cell?_alloc_lt _ _ _ hpl).trans e2
  have H3 := Lib.hid h3
  have HT := Lib.hid ht3
  have HBX3 := Lib.hid hbx3
  have hflat := flat_len B
  have HFL := Lib.hid hflat
  clear h2 ht2 hbx2 h3 ht3 hbx3 hbk hbk3 hflat HBX HK HC
  go_wp2_with fail
  try rw [hwd]
  go_region_law (first | (refine step_append_rowD rfl (.tmp 15) (.tmp 17) 70 rfl N 95 i0 (.agg #[.int .i64 0, .bool false, .int .i64 0, .string ⟨#[]⟩, .nilFunc, .nilFunc]) 6 56 Tryz.underlying70 hi0 hz0 hz1 hz2 rfl (by decide) lv B.length (B.flatMap fun x => thC x.1 x.2.1 x.2.2) ?hs ?hrow ⟨wd.heap.size, 0, none⟩ 1 1 (thC (.cut f m) b1 b2) ?hx rfl ?hc (thC_one _ _ _) ?b1 ?b2 ?hb ?_; (case hs => (simp [Act.eval]; done)); (case hx => (simp [Act.eval]; done)); (case hc => exact lit_cells wd (thC (.cut f m) b1 b2) 95); (case hrow => exact H3.out.row.alloc _); (case b1 => (unfold maxLen; omega)); (case b2 => omega); (case hb => (simp; omega)); intro lv' w3 hrow3 hg3 hown3; obtain ⟨q3, z3, rfl⟩ := row_form hrow3; have hp3 : w3.heap[p]? = (wd.alloc (.cells (thC (.cut f m) b1 b2).toArray 95)).heap[p]? := hg3.block p (by simp; omega) (fun e => by
      rcases H3.out.row.2 with ⟨e0, _⟩ | ⟨b, cap, cur, e0, _, hh, _⟩
      · rw [e0] at e; cases e
      · rw [e0] at e; cases e; rw [H3.out.p0] at hh; cases hh); rw [Below.heap_alloc _ _ _ hpl, H3.out.p0] at hp3; have f2 : w3.cell? ⟨p, 2, none⟩ = some lv := (by simp [World.cell?, hp3]); have f2F : w3.frozen? ⟨p, 2, none⟩ = false := (by simp [World.frozen?, hp3])))
  all_goals
    go_wp2_with fail
    go_end0
    have hal : Below wd.heap.size wd (wd.alloc (.cells (thC (.cut f m) b1 b2).toArray 95)) := (Below.refl _ wd).alloc (Nat.le_refl _) _
    have h4 := H3.out.keep hal.size (fun k hk => hal.block k (H3.out.lt k hk).2)
    have hbx4 := HBX3.out.same (hal.block _ (H3.out.lt _ (.inl hΦ.1)).2) (hal.block _ (H3.out.lt _ (.inl hΦ.2)).2)
    obtain ⟨h5, ht5⟩ := h4.pushed (by simp; omega) hbx4 ⟨.inl hΦ.1, .inl hΦ.2⟩ hg3 hrow3 (by simpa using hown3)
    exact ⟨rfl, _, ⟨_, _, _, _, _, _, h5⟩, (((TurnD.of_below HB0.out).trans HT.out).trans (TurnD.of_below hal)).trans ht5⟩
end Go.Proofs.YtbhgcioeibhjeaaGreatDoor
