/-
  schema: what may be; and swingbridgeref03's.
-/
import Derived.Test.YtmgeefhacnadcaaGreatDoorSCol
import Derived.Test.YtmgeefhacnadcaaGreatDoorVVl
import Derived.Test.YtmgeefhacnadcaaGreatDoorBelowQ
import Derived.Deep.OwnRows
import Derived.Test.YtmgeefhacnadcaaGreatDoorBase
import Derived.RangeFuncNested
import Derived.RangeFuncBound
import Derived.RangeFuncCalls
import Derived.RangeFuncLeaves
import Derived.Shelf.Abstract
import Derived.Shelf.RegionOpen
import Derived.OwnWalkIn
import Derived.TacticsInMore
import Derived.LoopNIn
import Derived.LoopIn
import Derived.Scope
import Derived.Test.YtmgeefhacnadcaaGreatDoorSFits
namespace Go.Proofs.YtmgeefhacnadcaaGreatDoor
open Go.RowKit

def ColAt (w : World) (a : Addr) (c : Col) : Prop := w.cell? a = some (.string c.n) ∧ w.cell? ⟨a.block, a.off + 1, none⟩ = some (.int .i64 c.t) ∧ w.cell? ⟨a.block, a.off + 2, none⟩ = some (.int .i64 c.z) ∧ w.cell? ⟨a.block, a.off + 3, none⟩ = some (.bool c.u)
def ColsIn (w : World) (oa : Option Addr) (l : List Col) : Prop := ∀ (j : Nat) (h : j < l.length), ∃ a, oa = some a ∧ ColAt w (a.add (j * 4)) l[j]
def IntsIn (w : World) (oa : Option Addr) (l : List Int) : Prop := ∀ (j : Nat) (h : j < l.length), ∃ a, oa = some a ∧ w.cell? (a.add j) = some (.int .i64 l[j])
def SetsIn (w : World) (oa : Option Addr) (l : List (List Int)) : Prop := ∀ (j : Nat) (h : j < l.length), ∃ a ob cb, oa = some a ∧ w.cell? (a.add j) = some (.slice ob l[j].length cb) ∧ l[j].length ≤ cb ∧ IntsIn w ob l[j]

theorem ColAt.lt {w : World} {a : Addr} {c : Col} (h : ColAt w a c) : a.block < w.heap.size := World.block_lt_of_cell? w a h.1
theorem ColAt.keep {w w' : World} {B : Nat} {a : Addr} {c : Col} (h : ColAt w a c) (hb : Below B w w') (hB : w.heap.size ≤ B) : ColAt w' a c := by
  have hl := h.lt
  refine ⟨?_, ?_, ?_, ?_⟩
  · rw [hb.cell (by omega)]; exact h.1
  · rw [hb.cell (by simp; omega)]; exact h.2.1
  · rw [hb.cell (by simp; omega)]; exact h.2.2.1
  · rw [hb.cell (by simp; omega)]; exact h.2.2.2
theorem ColsIn.keep {w w' : World} {B : Nat} {oa : Option Addr} {l : List Col} (h : ColsIn w oa l) (hb : Below B w w') (hB : w.heap.size ≤ B) : ColsIn w' oa l := fun j hj => by
  obtain ⟨a, e, hc⟩ := h j hj
  exact ⟨a, e, hc.keep hb hB⟩
theorem IntsIn.keep {w w' : World} {B : Nat} {oa : Option Addr} {l : List Int} (h : IntsIn w oa l) (hb : Below B w w') (hB : w.heap.size ≤ B) : IntsIn w' oa l := fun j hj => by
  obtain ⟨a, e, hc⟩ := h j hj
  refine ⟨a, e, ?_⟩
  rw [hb.cell (by have := World.block_lt_of_cell? w _ hc; omega)]
  exact hc
theorem SetsIn.keep {w w' : World} {B : Nat} {oa : Option Addr} {l : List (List Int)} (h : SetsIn w oa l) (hb : Below B w w') (hB : w.heap.size ≤ B) : SetsIn w' oa l := fun j hj => by
  obtain ⟨a, ob, cb, e, hc, hl, hi⟩ := h j hj
  refine ⟨a, ob, cb, e, ?_, hl, hi.keep hb hB⟩
  rw [hb.cell (by have := World.block_lt_of_cell? w _ hc; omega)]
  exact hc

/-- a schema -/
structure Sch where
  cols : List Col
  key : List Int
  uqs : List (List Int)
/-- a schema's value: where its lists lie -/
structure SchV where
  oc : Option Addr
  cc : Nat
  ok : Option Addr
  ck : Nat
  ou : Option Addr
  cu : Nat
def SchV.cols (p : SchV) (S : Sch) : Value := .slice p.oc S.cols.length p.cc
def SchV.key (p : SchV) (S : Sch) : Value := .slice p.ok S.key.length p.ck
def SchV.uqs (p : SchV) (S : Sch) : Value := .slice p.ou S.uqs.length p.cu
structure SchIn (w : World) (p : SchV) (S : Sch) : Prop where
  cols : ColsIn w p.oc S.cols
  key : IntsIn w p.ok S.key
  uqs : SetsIn w p.ou S.uqs
  kcap : S.key.length ≤ p.ck
theorem SchIn.keep {w w' : World} {B : Nat} {p : SchV} {S : Sch} (h : SchIn w p S) (hb : Below B w w') (hB : w.heap.size ≤ B) : SchIn w' p S :=
  ⟨h.cols.keep hb hB, h.key.keep hb hB, h.uqs.keep hb hB, h.kcap⟩
/-- no more than is looked at -/
structure Sch.few (S : Sch) : Prop where
  cols : S.cols.length ≤ 12
  names : ∀ c ∈ S.cols, c.n.size ≤ 40
  key : S.key.length ≤ 8
  uqs : S.uqs.length ≤ 6
  places : ∀ l ∈ S.uqs, l.length ≤ 8

def isN (name : ByteArray) (c : Col) : Bool := c.n.toList == name.toList
def firstFrom (name : ByteArray) : List Col → Int → Int
  | [], _ => -1
  | c :: l, i => if isN name c = true then i else firstFrom name l (i + 1)
/-- the place of the first column of that name; -1 -/
def firstC (l : List Col) (name : ByteArray) : Int := firstFrom name l 0
def FRel (l : List Col) (name : ByteArray) (k : Nat) : Prop := firstC l name = firstFrom name (l.drop k) k
theorem FRel.zero (l : List Col) (name : ByteArray) : FRel l name 0 := rfl
theorem FRel.next {l : List Col} {name : ByteArray} {k : Nat} {c : Col} (h : FRel l name k) (hk : k < l.length) (hc : l[k] = c) (hn : isN name c = false) : FRel l name (k + 1) := by
  unfold FRel at *
  rw [h, List.drop_eq_getElem_cons hk, hc]
  simp [firstFrom, hn]
theorem FRel.hit {l : List Col} {name : ByteArray} {k : Nat} {c : Col} (h : FRel l name k) (hk : k < l.length) (hc : l[k] = c) (hn : isN name c = true) : firstC l name = k := by
  unfold FRel at *
  rw [h, List.drop_eq_getElem_cons hk, hc]
  simp [firstFrom, hn]
theorem FRel.none {l : List Col} {name : ByteArray} {k : Nat} (h : FRel l name k) (hk : l.length ≤ k) : firstC l name = -1 := by
  unfold FRel at *
  rw [h, List.drop_eq_nil_of_le hk]
  rfl

end Go.Proofs.YtmgeefhacnadcaaGreatDoor
namespace Go.Proofs.YtmgeefhacnadcaaGreatDoor
open Go.RowKit

/-- are all places there? -/
def inAll (n : Nat) (l : List Int) : Bool := l.all fun x => decide (0 ≤ x) && decide (x < n)
theorem inAll_at {n : Nat} {l : List Int} (h : inAll n l = true) {k : Nat} (hk : k < l.length) : 0 ≤ l[k] ∧ l[k] < n := by
  unfold inAll at h
  rw [List.all_eq_true] at h
  simpa using h _ (List.getElem_mem hk)
theorem inAll_no {n : Nat} {l : List Int} {k : Nat} (hk : k < l.length) (h : l[k] < 0 ∨ (n : Int) ≤ l[k]) : inAll n l = false := by
  unfold inAll
  rw [List.all_eq_false]
  refine ⟨_, List.getElem_mem hk, ?_⟩
  simp
  omega
def pickL {α : Type} (d : α) (l : List α) (at' : List Int) : List α := at'.map fun x => l.getD x.toNat d
def rowOf {α : Type} (cell : α → Nat → Value) (z : Nat → Value) (d : α) (l : List α) (k j : Nat) : Value := if j < k * 4 then cell (l.getD (j / 4) d) (j % 4) else z (j % 4)
theorem rowOf_next {α : Type} {cell : α → Nat → Value} {z : Nat → Value} {d : α} {l : List α} {k : Nat} (j : Nat) (v0 v1 v2 v3 : Value) (h0 : v0 = cell (l.getD k d) 0) (h1 : v1 = cell (l.getD k d) 1) (h2 : v2 = cell (l.getD k d) 2) (h3 : v3 = cell (l.getD k d) 3) :
    (if j = k * 4 + 3 then v3 else if j = k * 4 + 2 then v2 else if j = k * 4 + 1 then v1 else if j = k * 4 then v0 else rowOf cell z d l k j) = rowOf cell z d l (k + 1) j := by
  unfold rowOf
  by_cases e3 : j = k * 4 + 3
  · subst e3
    rw [if_pos rfl, if_pos (by omega), show (k * 4 + 3) / 4 = k by omega, show (k * 4 + 3) % 4 = 3 by omega, h3]
  rw [if_neg e3]
  by_cases e2 : j = k * 4 + 2
  · subst e2
    rw [if_pos rfl, if_pos (by omega), show (k * 4 + 2) / 4 = k by omega, show (k * 4 + 2) % 4 = 2 by omega, h2]
  rw [if_neg e2]
  by_cases e1 : j = k * 4 + 1
  · subst e1
    rw [if_pos rfl, if_pos (by omega), show (k * 4 + 1) / 4 = k by omega, show (k * 4 + 1) % 4 = 1 by omega, h1]
  rw [if_neg e1]
  by_cases e0 : j = k * 4
  · subst e0
    rw [if_pos rfl, if_pos (by omega), show (k * 4) / 4 = k by omega, show (k * 4) % 4 = 0 by omega, h0]
  rw [if_neg e0]
  by_cases h : j < k * 4
  · rw [if_pos h, if_pos (by omega)]
  · rw [if_neg h, if_neg (by omega)]
theorem run_make4 {P : Program} (t e : TypeId) (z : Value) (bytes : Nat) (ht : P.underlying t = some (.slice e)) (hinfo : (P.info? e).map (fun i => (i.zero, i.size, i.bytes)) = some (some z, 4, bytes)) (n : Nat) (hbytes : bytes * n ≤ 281474976710656) (h63 : n ≤ 9223372036854775807) (w : World) :
    (Instr.makeSlice t (.int .i64 (n : Int)) (.int .i64 (n : Int))).run P w = .ok (.slice (some ⟨w.heap.size, 0, none⟩) n n) (w.alloc (.cells (madeCells z.cells (n * 4)) e)) := by
  obtain ⟨i, hi, hzz⟩ := Option.map_eq_some_iff.1 hinfo
  simp only [Prod.mk.injEq] at hzz
  obtain ⟨hz, hs, hb⟩ := hzz
  have hb' : (i.bytes : Int) * (n : Int) ≤ 281474976710656 := by
    have h : ((i.bytes * n : Nat) : Int) ≤ 281474976710656 := by rw [hb]; omega
    rwa [Int.natCast_mul] at h
  have hr := run_make (P := P) w t e i z ht hi hz .i64 .i64 n n (by omega) (Int.le_refl _) hb' (by omega)
  simp only [Int.toNat_natCast, hs] at hr
  exact hr
theorem rowIs_made4 (w : World) (z : Array Value) (hz : z.size = 4) (n : Nat) (t : TypeId) : (w.alloc (.cells (madeCells z (n * 4)) t)).rowIs w.heap.size t (n * 4) (fun j => z[j % 4]!) := by
  have h := World.rowIs_alloc w (madeCells z (n * 4)) t (fun j => z[j % 4]!) (fun i hi => by simp [madeCells] at hi ⊢; simp [hi, hz])
  rwa [size_madeCells] at h

def col0 : Col := ⟨⟨#[]⟩, 0, 0, false⟩
def colCell (c : Col) : Nat → Value
  | 0 => .string c.n
  | 1 => .int .i64 c.t
  | 2 => .int .i64 c.z
  | _ => .bool c.u
def val0 : Vl := ⟨0, 0, 0, ⟨#[]⟩⟩
def valCell (v : Vl) : Nat → Value
  | 0 => .int .i64 v.k
  | 1 => .int .i64 v.i
  | 2 => .int .u64 v.u
  | _ => .string v.s
def ValsIn (w : World) (oa : Option Addr) (l : List Vl) : Prop := ∀ (j : Nat) (h : j < l.length), ∃ a, oa = some a ∧ ValAt w (a.add (j * 4)) l[j]
theorem ValsIn.keep {w w' : World} {B : Nat} {oa : Option Addr} {l : List Vl} (h : ValsIn w oa l) (hb : Below B w w') (hB : w.heap.size ≤ B) : ValsIn w' oa l := fun j hj => by
  obtain ⟨a, e, hc⟩ := h j hj
  exact ⟨a, e, hc.keep hb hB⟩
theorem add4 (b j : Nat) : (⟨b, 0, none⟩ : Addr).add (j * 4) = ⟨b, j * 4, none⟩ := by
  unfold Addr.add
  split
  · rename_i h; rw [h]
  · simp

theorem infoC : (Tryz.prog.info? 24).map (fun i => (i.zero, i.size, i.bytes)) = some (some (.agg #[.string ⟨#[]⟩, .int .i64 0, .int .i64 0, .bool false]), 4, 40) := by kernel_rfl
theorem rowC {w : World} {b : Nat} {l : List Col} (h : w.rowIs b 24 (l.length * 4) (rowOf colCell (fun j => (#[.string ⟨#[]⟩, .int .i64 0, .int .i64 0, .bool false] : Array Value)[j]!) col0 l l.length)) : ColsIn w (some ⟨b, 0, none⟩) l := fun j hj => by
  have q : ∀ i, i < 4 → w.cell? ⟨b, j * 4 + i, none⟩ = some (colCell l[j] i) := fun i hi => by
    have h1 := h.cell (i := j * 4 + i) (by omega)
    unfold rowOf at h1
    rw [if_pos (by omega), show (j * 4 + i) / 4 = j by omega, show (j * 4 + i) % 4 = i by omega, List.getD_eq_getElem?_getD, List.getElem?_eq_getElem hj] at h1
    exact h1
  refine ⟨_, rfl, ?_⟩
  rw [add4]
  exact ⟨q 0 (by omega), q 1 (by omega), q 2 (by omega), q 3 (by omega)⟩

theorem infoV : (Tryz.prog.info? 28).map (fun i => (i.zero, i.size, i.bytes)) = some (some (.agg #[.int .i64 0, .int .i64 0, .int .u64 0, .string ⟨#[]⟩]), 4, 40) := by kernel_rfl
theorem rowV {w : World} {b : Nat} {l : List Vl} (h : w.rowIs b 28 (l.length * 4) (rowOf valCell (fun j => (#[.int .i64 0, .int .i64 0, .int .u64 0, .string ⟨#[]⟩] : Array Value)[j]!) val0 l l.length)) : ValsIn w (some ⟨b, 0, none⟩) l := fun j hj => by
  have q : ∀ i, i < 4 → w.cell? ⟨b, j * 4 + i, none⟩ = some (valCell l[j] i) := fun i hi => by
    have h1 := h.cell (i := j * 4 + i) (by omega)
    unfold rowOf at h1
    rw [if_pos (by omega), show (j * 4 + i) / 4 = j by omega, show (j * 4 + i) % 4 = i by omega, List.getD_eq_getElem?_getD, List.getElem?_eq_getElem hj] at h1
    exact h1
  refine ⟨_, rfl, ?_⟩
  rw [add4]
  exact ⟨q 0 (by omega), q 1 (by omega), q 2 (by omega), q 3 (by omega)⟩

end Go.Proofs.YtmgeefhacnadcaaGreatDoor
namespace Go.Proofs.YtmgeefhacnadcaaGreatDoor
open Go.RowKit Go.Extern.Stop Go.Stop Go.Extern

theorem rl_cmpE (w : World) : (ReflectliteType.method (fun t => do Rtype.noPackHeld "Comparable" t; (fun a => Value.bool a.comparable) <$> typeInfo t) #[.agg #[.pointer (some ⟨7, 31, none⟩)]]).run Tryz.prog w = .ok (.bool true) w := by kernel_rfl
theorem eq_num (w : World) : (binOp .eql 66 (.iface 31 (.int .i64 4)) (.iface 31 (.int .i64 4))).run Tryz.prog w = .ok (.bool true) w := by kernel_rfl
theorem eq_mis (v : Value) (w : World) : (binOp .eql 66 (.iface 147 v) (.iface 31 (.int .i64 4))).run Tryz.prog w = .ok (.bool false) w := by kernel_rfl

/-- the place of the first such number; -1 -/
def firstIFrom (x : Int) : List Int → Int → Int
  | [], _ => -1
  | y :: l, i => if x = y then i else firstIFrom x l (i + 1)
def firstI (l : List Int) (x : Int) : Int := firstIFrom x l 0
def FRelI (l : List Int) (x : Int) (k : Nat) : Prop := firstI l x = firstIFrom x (l.drop k) k
theorem FRelI.zero (l : List Int) (x : Int) : FRelI l x 0 := rfl
theorem FRelI.next {l : List Int} {x y : Int} {k : Nat} (h : FRelI l x k) (hk : k < l.length) (hc : l[k] = y) (hn : x ≠ y) : FRelI l x (k + 1) := by
  unfold FRelI at *
  rw [h, List.drop_eq_getElem_cons hk, hc]
  simp [firstIFrom, hn]
theorem FRelI.hit {l : List Int} {x y : Int} {k : Nat} (h : FRelI l x k) (hk : k < l.length) (hc : l[k] = y) (hn : x = y) : firstI l x = k := by
  unfold FRelI at *
  rw [h, List.drop_eq_getElem_cons hk, hc]
  simp [firstIFrom, hn]
theorem FRelI.none {l : List Int} {x : Int} {k : Nat} (h : FRelI l x k) (hk : l.length ≤ k) : firstI l x = -1 := by
  unfold FRelI at *
  rw [h, List.drop_eq_nil_of_le hk]
  rfl
end Go.Proofs.YtmgeefhacnadcaaGreatDoor
namespace Go.Proofs.YtmgeefhacnadcaaGreatDoor
open Go.RowKit

/-- from block B on, and where G holds, the blocks lie as they lay -/
structure Keep (B : Nat) (G : Nat → Prop) (W W' : World) : Prop where
  size : W.heap.size ≤ W'.heap.size
  same : ∀ k, k < W.heap.size → (B ≤ k ∨ G k) → W'.heap[k]? = W.heap[k]?
theorem Keep.refl (B : Nat) (G : Nat → Prop) (W : World) : Keep B G W W := ⟨Nat.le_refl _, fun _ _ _ => rfl⟩
theorem Keep.trans {B : Nat} {G : Nat → Prop} {X Y Z : World} (h : Keep B G X Y) (k : Keep B G Y Z) : Keep B G X Z :=
  ⟨Nat.le_trans h.size k.size, fun i hi hG => (k.same i (Nat.lt_of_lt_of_le hi h.size) hG).trans (h.same i hi hG)⟩
theorem Keep.setCell {B : Nat} {G : Nat → Prop} {X Y : World} (h : Keep B G X Y) {p : Addr} (hp : p.block < B) (hG : ¬ G p.block) (u : Value) : Keep B G X (Y.setCell p u) :=
  h.trans ⟨by simp [World.setCell], fun k _ hk => Below.heap_setCell _ _ _ _ (fun e => by subst e; rcases hk with hk | hk; omega; exact hG hk)⟩
theorem Keep.alloc {B : Nat} {G : Nat → Prop} {X Y : World} (h : Keep B G X Y) (o : Obj) : Keep B G X (Y.alloc o) :=
  h.trans ⟨by simp, fun k hk _ => Below.heap_alloc _ _ _ hk⟩

/-- what is said of the world stays where blocks from B on turn -/
def Firm {β : Type} (B : Nat) (J : β → World → Prop) : Prop := ∀ s A A', J s A → Below B A A' → J s A'

/-- THE ITERATOR's CONTRACT -/
def SeqTurns {α : Type} (F : Fence) (n : Nat) (P : Program) (g : Nat) (fb lb : Array Value) (encs : α → Array Value) (G : Nat → Prop) (S Sp : List α → Prop) (w : World) : Prop :=
  ∀ (l : Nat) (J Jx : List α → World → Prop) (W : World), Below w.heap.size w W → Firm W.heap.size J →
    (∀ pre x W1, J pre W1 → Sp (pre ++ [x]) → W.heap.size ≤ W1.heap.size → YieldAt F (n - 1) P l (encs x) W1 fun e W' =>
      (e = .returned (.bool true) ∧ J (pre ++ [x]) W' ∧ Keep W.heap.size G W1 W') ∨ (e = .returned (.bool false) ∧ Jx (pre ++ [x]) W')) →
    J [] W →
    CallsIn F n P g ((fb ++ #[.func (.yield l) #[] #[]]) ++ lb) W fun e W' => (∃ v, e = .returned v) ∧ ((∃ xs, S xs ∧ J xs W') ∨ (∃ pre, Sp pre ∧ Jx pre W'))

/-- how a round's body may be left -/
def turnPost {α : Type} (B : Nat) (G : Nat → Prop) (I : List α → World → Prop) (Ix : Code → List α → World → Prop) (xs : List α) (W : World) : Exit → Act → World → Prop
  | .normal, _, W' => Keep B G W W' ∧ I xs W'
  | .ret, _, W' => Keep B G W W' ∧ Ix .ret xs W'
  | .exit id, _, W' => Keep B G W W' ∧ Ix (.exit id) xs W'
  | .goto _, _, _ => False
  | .panic _, _, _ => False
  | .outgrown, _, _ => False

theorem Firm.put {β : Type} {B : Nat} {J : β → World → Prop} (h : Firm B J) {s : β} {W : World} {l : Nat} (o : Obj) (hs : J s W) (hB : B ≤ l) (_hl : l < W.heap.size) : J s (W.putObj l o) :=
  h s W _ hs ⟨rfl, rfl, rfl, by simp, fun _ hk => World.putObj_heap_other (by omega)⟩

variable {F : Fence} {n : Nat} {P : Program}
/-- THE LOOP's LAW -/
theorem wpIn_turns {α : Type} {g : Operand} {ps : Array Tmp} {assign body : Code} {Q : Exit → Act → World → Prop} {a : Act} {w : World}
    (hro : F.round = none) (h1 : 1 ≤ n) {gf : Nat} {fb lb : Array Value} (hg : a.eval g = .func (.func gf) fb lb) (hFg : F.fn gf) (eg : ∀ args w, (callFunc gf args).run P w = .ok (.enter gf args) w)
    {encs : α → Array Value} {G : Nat → Prop} {S Sp : List α → Prop} (hseq : SeqTurns F (n - 1) P gf fb lb encs G S Sp w) (hG : ∀ k, G k → k < w.heap.size) (hps : ∀ x, (encs x).size = ps.size)
    (I : List α → World → Prop) (Ix : Code → List α → World → Prop) (hI : Firm w.heap.size I) (hIx : ∀ c pre W r o, Ix c pre W → W.heap[w.heap.size + 1]? = some (.loop r) → Ix c pre (W.putObj (w.heap.size + 1) o)) (h0 : I [] w) (a₁ : α → Act)
    (hassign : ∀ (l : Nat) (x : α) (W : World) (K : Act → World → Prop), K (a₁ x) W →
      assign.wpIn (F.inRound l) (n - 1 - 1) P (Exit.then K (fun _ _ _ => False)) { tmps := (ps.zip (encs x)).foldl (fun t (p, v) => t.setIfInBounds p v) a.tmps, defers := [] } W)
    (hbody : ∀ (l : Nat) (pre : List α) (x : α) (W : World), I pre W → Sp (pre ++ [x]) → w.heap.size + 2 ≤ W.heap.size → body.wpIn (F.inRound l) (n - 1 - 1) P (turnPost w.heap.size G I Ix (pre ++ [x]) W) (a₁ x) W)
    (hdone : ∀ (xs : List α) (W : World), S xs → I xs W → W.heap[w.heap.size]? = some (.deferred (some [])) → Q .normal { a with defers := { target := .collected w.heap.size, args := #[] } :: a.defers } W)
    (hstop : ∀ (c : Code) (pre : List α) (W : World), Sp pre → Ix c pre W → W.heap[w.heap.size]? = some (.deferred (some [])) → c.wpIn F n P Q { a with defers := { target := .collected w.heap.size, args := #[] } :: a.defers } W) :
    (Code.rangeFunc g ps assign body).wpIn F n P Q a w := by
  refine wpIn_rangeFunc fun fn hfn => ?_
  rw [hro]
  obtain ⟨B, hB⟩ : ∃ B, w.heap.size = B := ⟨_, rfl⟩
  rw [hB] at hI hIx hbody hdone hstop
  obtain ⟨rec, hrec⟩ : ∃ rec : LoopState → Option Code → Obj, rec = fun st pe => .loop { state := st, pending := pe, fn, tmps := a.tmps, params := ps, assign, body, defers := B } := ⟨_, rfl⟩
  obtain ⟨W1, hW1⟩ : ∃ W1, (w.alloc (.deferred (some []))).alloc (rec .ready none) = W1 := ⟨_, rfl⟩
  have hsz : W1.heap.size = B + 2 := by rw [← hW1, ← hB]; simp
  have hb1 : Below B w W1 := by
    rw [← hW1]
    exact ((Below.refl _ w).alloc (by omega) _).alloc (by simp; omega) _
  have hL1 : W1.heap[B + 1]? = some (rec .ready none) := by
    rw [← hW1, ← hB]
    have := World.alloc_heap_new (w.alloc (.deferred (some []))) (rec .ready none)
    rwa [World.size_alloc] at this
  have hD1 : W1.heap[B]? = some (.deferred (some [])) := by
    rw [← hW1, ← hB]
    exact (Below.heap_alloc _ _ _ (by simp)).trans (World.alloc_heap_new w _)
  refine ⟨B + 1, [{ target := .collected B, args := #[] }], W1, { target := .fn (.func gf) lb, args := fb ++ #[.func (.yield (B + 1)) #[] #[]] }, W1, gf, (fb ++ #[.func (.yield (B + 1)) #[] #[]]) ++ lb, W1, ?_, ?_, ?_, ?_, fun _ => h1, ?_⟩
  · rw [← hW1, hrec, ← hB]
    exact run_enterLoop_outer _ _ _ _ _
  · simp only [resolve, hg]
    simp [go_sem]
  · intro f' hf'
    simp [Target.leads] at hf'
    exact hf' ▸ hFg
  · simp [invoke, go_sem, eg]
  refine (hseq (B + 1) (fun pre W => I pre W ∧ W.heap[B + 1]? = some (rec .ready none) ∧ W.heap[B]? = some (.deferred (some [])))
    (fun pre W => ∃ c, Ix c pre W ∧ W.heap[B + 1]? = some (rec .done (some c)) ∧ W.heap[B]? = some (.deferred (some []))) W1 (by rw [hB]; exact hb1) ?_ ?_ ⟨hI _ _ _ h0 hb1, hL1, hD1⟩).mono ?_
  · rintro s A A' ⟨hi, hl, hd⟩ hb
    rw [hsz] at hb
    exact ⟨hI _ _ _ hi (hb.mono (by omega)), (hb.block _ (by omega)).trans hl, (hb.block _ (by omega)).trans hd⟩
  · rintro pre x W ⟨hi, hl, hd⟩ hsp hsz2
    rw [hsz] at hsz2 ⊢
    have hl' := hl
    rw [hrec] at hl'
    have hy := run_yield (P := P) (args := encs x) hl' (hps x)
    refine ⟨fn, _, assign, body, hy, roundIn_of_wpIn hfn (hassign _ x W _ ⟨_, run_beginRound hl' rfl, ?_⟩)⟩
    have kp : ∀ (V : World) (o : Obj), B + 2 ≤ V.heap.size → Keep (B + 2) G V (V.putObj (B + 1) o) := fun V o hV =>
      ⟨by simp, fun k _ hk => World.putObj_heap_other (by rcases hk with hk | hk; omega; have := hG k hk; omega)⟩
    have mv : ∀ (V V' : World), Keep B G V V' → Keep (B + 2) G V V' := fun V V' h => ⟨h.size, fun k hk hh => h.same k hk (hh.imp_left (fun h => by omega))⟩
    have hk2 := kp W (rec .busy none) hsz2
    have hl2 : (W.putObj (B + 1) (rec .busy none)).heap[B + 1]? = some (rec .busy none) := World.putObj_heap_same (by omega)
    have hd2 : (W.putObj (B + 1) (rec .busy none)).heap[B]? = some (.deferred (some [])) := (World.putObj_heap_other (by omega)).trans hd
    have hi2 : I pre (W.putObj (B + 1) (rec .busy none)) := hI.put _ hi (by omega) (by omega)
    have hs2 : B + 2 ≤ (W.putObj (B + 1) (rec .busy none)).heap.size := by simp; omega
    rw [hrec] at hk2 hl2 hd2 hi2 hs2
    replace hs2 : B + 2 ≤ (W.putObj (B + 1) (.loop { state := .busy, pending := none, fn, tmps := a.tmps, params := ps, assign, body, defers := B })).heap.size := hs2
    refine wpIn_mono (hbody _ pre x _ hi2 hsp hs2) ?_
    have fin : ∀ (jump : Option Code) (W3 : World), Keep B G (W.putObj (B + 1) (.loop { state := .busy, pending := none, fn, tmps := a.tmps, params := ps, assign, body, defers := B })) W3 →
        (∃ r, W3.heap[B + 1]? = some (.loop r)) ∧ (Instr.endRound (B + 1) jump).run P W3 = .ok (.bool jump.isNone) (W3.putObj (B + 1) (rec (if jump.isNone then .ready else .done) jump)) ∧ B + 2 ≤ W3.heap.size ∧
        (W3.putObj (B + 1) (rec (if jump.isNone then .ready else .done) jump)).heap[B + 1]? = some (rec (if jump.isNone then .ready else .done) jump) ∧
        (W3.putObj (B + 1) (rec (if jump.isNone then .ready else .done) jump)).heap[B]? = some (.deferred (some [])) := fun jump W3 hk3 => by
      have hl3 := (hk3.same (B + 1) (by omega) (.inl (by omega))).trans hl2
      have hd3 := (hk3.same B (by omega) (.inl (by omega))).trans hd2
      have hs3 := hk3.size
      have he := run_endRound (P := P) jump hl3
      rw [hrec]
      exact ⟨⟨_, hl3⟩, he, by omega, World.putObj_heap_same (by omega), (World.putObj_heap_other (by omega)).trans hd3⟩
    rintro e a3 W3 hp
    cases e with
    | normal =>
      obtain ⟨hk3, hi3⟩ := hp
      obtain ⟨_, hr, hs3, hl4, hd4⟩ := fin none W3 hk3
      exact ⟨_, _, hr, .inl ⟨rfl, ⟨hI.put _ hi3 (by omega) (by omega), hl4, hd4⟩, (hk2.trans (mv _ _ hk3)).trans (kp _ _ hs3)⟩⟩
    | ret =>
      obtain ⟨hk3, hi3⟩ := hp
      obtain ⟨⟨r3, hr3⟩, hr, hs3, hl4, hd4⟩ := fin (some .ret) W3 hk3
      exact ⟨_, _, hr, .inr ⟨rfl, .ret, hIx _ _ _ _ _ hi3 hr3, hl4, hd4⟩⟩
    | exit id =>
      obtain ⟨hk3, hi3⟩ := hp
      obtain ⟨⟨r3, hr3⟩, hr, hs3, hl4, hd4⟩ := fin (some (.exit id)) W3 hk3
      exact ⟨_, _, hr, .inr ⟨rfl, .exit id, hIx _ _ _ _ _ hi3 hr3, hl4, hd4⟩⟩
    | goto t => exact hp.elim
    | panic ch => exact hp.elim
    | outgrown => exact hp.elim
  · rintro e W2 ⟨⟨v, rfl⟩, (⟨xs, hS, hi, hl, hd⟩ | ⟨pre, hSp, c, hi, hl, hd⟩)⟩
    · have hlt := (Array.getElem?_eq_some_iff.1 hl).1
      rw [hrec] at hl
      exact ⟨none, _, run_endLoop (P := P) hl (by simp), hdone _ _ hS (hI.put _ hi (by omega) hlt) ((World.putObj_heap_other (by omega)).trans hd)⟩
    · have hlt := (Array.getElem?_eq_some_iff.1 hl).1
      rw [hrec] at hl
      exact ⟨some c, _, run_endLoop (P := P) hl (by simp), hstop c _ _ hSp (hIx _ _ _ _ _ hi hl) ((World.putObj_heap_other (by omega)).trans hd)⟩
end Go.Proofs.YtmgeefhacnadcaaGreatDoor
namespace Go.Proofs.YtmgeefhacnadcaaGreatDoor
open Go.RowKit Go.Shelf
attribute [local go_sem] Oper.semAt_some

def dupB (l : List Int) (i : Nat) : Bool := decide (firstI l (l.getD i 0) < i)
def setTo (n : Nat) (l : List Int) (k : Nat) : Bool := (List.range k).all fun i => (decide (0 ≤ l.getD i 0) && decide (l.getD i 0 < n)) && !dupB l i
/-- may places be a set's, of so many columns? -/
def setOk (n : Nat) (l : List Int) : Bool := decide (1 ≤ l.length) && (decide (l.length ≤ 4) && setTo n l l.length)
def nullAt (cols : List Col) (l : List Int) (i : Nat) : Bool := (cols.getD (l.getD i 0).toNat col0).u
def nullTo (cols : List Col) (l : List Int) (k : Nat) : Bool := (List.range k).all fun i => !nullAt cols l i
def loopTo (cols : List Col) (first : Bool) (l : List Int) (k : Nat) : Bool := (List.range k).all fun i => !(first && nullAt cols l i) && !dupB l i
def okSet (cols : List Col) (first : Bool) (l : List Int) : Bool := (decide (1 ≤ l.length) && decide (l.length ≤ 4)) && (inAll cols.length l && loopTo cols first l l.length)
theorem all_range_getD (l : List Int) (p : Int → Bool) : ((List.range l.length).all fun i => p (l.getD i 0)) = l.all p := by
  rw [Bool.eq_iff_iff, List.all_eq_true, List.all_eq_true]
  constructor
  · intro h x hx
    obtain ⟨i, hi, rfl⟩ := List.getElem_of_mem hx
    have := h i (List.mem_range.2 hi)
    rwa [List.getD_eq_getElem?_getD, List.getElem?_eq_getElem hi] at this
  · intro h i hi
    rw [List.mem_range] at hi
    rw [List.getD_eq_getElem?_getD, List.getElem?_eq_getElem hi]
    exact h _ (List.getElem_mem hi)
theorem all_and {α : Type} (l : List α) (p q : α → Bool) : (l.all fun i => p i && q i) = (l.all p && l.all q) := by
  induction l with
  | nil => rfl
  | cons a l ih =>
    simp only [List.all_cons]
    rw [ih]
    cases p a <;> cases q a <;> simp
theorem okSet_eq (cols : List Col) (first : Bool) (l : List Int) : okSet cols first l = (setOk cols.length l && (!first || nullTo cols l l.length)) := by
  unfold okSet setOk setTo loopTo nullTo
  rw [all_and, all_and, all_range_getD l (fun x => decide (0 ≤ x) && decide (x < cols.length))]
  unfold inAll
  generalize decide (1 ≤ l.length) = a
  generalize decide (l.length ≤ 4) = b
  generalize (l.all fun x => decide (0 ≤ x) && decide (x < (cols.length : Int))) = c
  generalize ((List.range l.length).all fun i => !dupB l i) = d
  cases first
  · simp only [Bool.false_and, Bool.not_false, Bool.true_or, Bool.and_true]
    rw [show ((List.range l.length).all fun _ => true) = true by rw [List.all_eq_true]; intros; rfl]
    cases a <;> cases b <;> cases c <;> cases d <;> rfl
  · simp only [Bool.true_and, Bool.not_true, Bool.false_or]
    generalize ((List.range l.length).all fun i => !nullAt cols l i) = e
    cases a <;> cases b <;> cases c <;> cases d <;> cases e <;> rfl

/-- a schema's sets, by number -/
def setAt (S : Sch) (i : Nat) : List Int := if i = 0 then S.key else S.uqs.getD (i - 1) []
def setsTo (S : Sch) (k : Nat) : Bool := (List.range k).all fun i => okSet S.cols (i == 0) (setAt S i)
theorem setsTo_succ (S : Sch) (k : Nat) : setsTo S (k + 1) = (setsTo S k && okSet S.cols (k == 0) (setAt S k)) := by
  unfold setsTo
  rw [List.range_succ, List.all_append]
  simp
theorem setsTo_le (S : Sch) (n k : Nat) (h : k ≤ n) (hk : setsTo S k = false) : setsTo S n = false := by
  unfold setsTo at *
  rw [List.all_eq_false] at *
  obtain ⟨x, hx, hp⟩ := hk
  exact ⟨x, by rw [List.mem_range] at *; omega, hp⟩
def hAt (hs : List (Option Addr × Nat)) (j : Nat) : Option Addr × Nat := hs.getD j (none, 0)
def SetsAt (w : World) (oa : Option Addr) (l : List (List Int)) (hs : List (Option Addr × Nat)) : Prop := ∀ (j : Nat) (h : j < l.length), ∃ a, oa = some a ∧ w.cell? (a.add j) = some (.slice (hAt hs j).1 l[j].length (hAt hs j).2) ∧ l[j].length ≤ (hAt hs j).2 ∧ IntsIn w (hAt hs j).1 l[j]
theorem pick_list' {α : Type} {p : Nat → α → Prop} : ∀ (n : Nat), (∀ i, i < n → ∃ v, p i v) → ∃ l : List α, l.length = n ∧ ∀ (i : Nat) (h : i < l.length), p i l[i]
  | 0, _ => ⟨[], rfl, fun i h => absurd h (Nat.not_lt_zero i)⟩
  | n + 1, h => by
    obtain ⟨l, hl, hp⟩ := pick_list' n (fun i hi => h i (by omega))
    obtain ⟨v, hv⟩ := h n (by omega)
    refine ⟨l ++ [v], by simp [hl], fun i hi => ?_⟩
    by_cases hlt : i < l.length
    · rw [List.getElem_append_left hlt]
      exact hp i hlt
    · have : i = n := by simp at hi; omega
      subst this
      rw [List.getElem_append_right (by omega)]
      simpa [hl] using hv
theorem SetsIn.at {w : World} {oa : Option Addr} {l : List (List Int)} (h : SetsIn w oa l) : ∃ hs, SetsAt w oa l hs := by
  obtain ⟨hs, h1, h2⟩ := pick_list' (p := fun j (x : Option Addr × Nat) => ∀ h : j < l.length, ∃ a, oa = some a ∧ w.cell? (a.add j) = some (.slice x.1 l[j].length x.2) ∧ l[j].length ≤ x.2 ∧ IntsIn w x.1 l[j]) l.length (fun i hi => by
    obtain ⟨a, ob, cb, e, hc, hl, hi'⟩ := h i hi
    exact ⟨(ob, cb), fun _ => ⟨a, e, hc, hl, hi'⟩⟩)
  refine ⟨hs, fun j hj => ?_⟩
  have := h2 j (by omega) hj
  unfold hAt
  rw [List.getD_eq_getElem?_getD, List.getElem?_eq_getElem (by omega)]
  exact this
theorem SetsAt.keep {w w' : World} {B : Nat} {oa : Option Addr} {l : List (List Int)} {hs : List (Option Addr × Nat)} (h : SetsAt w oa l hs) (hb : Below B w w') (hB : w.heap.size ≤ B) : SetsAt w' oa l hs := fun j hj => by
  obtain ⟨a, e, hc, hl, hi⟩ := h j hj
  refine ⟨a, e, ?_, hl, hi.keep hb hB⟩
  rw [hb.cell (by have := World.block_lt_of_cell? w _ hc; omega)]
  exact hc

theorem add_block (a : Addr) (n : Nat) : (a.add n).block = a.block := by unfold Addr.add; split <;> rfl
/-- what is handed on: a set's number, and its places -/
def svS (p : SchV) (S : Sch) (hs : List (Option Addr × Nat)) (x : Nat) : Value := if x = 0 then .slice p.ok S.key.length p.ck else .slice (hAt hs (x - 1)).1 (S.uqs.getD (x - 1) []).length (hAt hs (x - 1)).2
def encS (p : SchV) (S : Sch) (hs : List (Option Addr × Nat)) (x : Nat) : Array Value := #[.int .i64 x, svS p S hs x]
theorem encS_next (p : SchV) (S : Sch) (hs : List (Option Addr × Nat)) (k : Nat) (hk : k < S.uqs.length) : encS p S hs (k + 1) = #[.int .i64 (1 + (k : Int)), .slice (hAt hs k).1 S.uqs[k].length (hAt hs k).2] := by
  unfold encS svS
  rw [if_neg (by omega), Nat.add_sub_cancel, List.getD_eq_getElem?_getD, List.getElem?_eq_getElem hk]
  simp
  omega
def SpS (S : Sch) (pre : List Nat) : Prop := ∃ k, pre = List.range k ∧ k ≤ 1 + S.uqs.length
def GS (oa : Option Addr) (l : List (List Int)) (k : Nat) : Prop := (∃ a, oa = some a ∧ k = a.block) ∧ l ≠ []

end Go.Proofs.YtmgeefhacnadcaaGreatDoor
namespace Go.Proofs.YtmgeefhacnadcaaGreatDoor
open Go.RowKit Go.Shelf
attribute [local go_sem] Oper.semAt_some

theorem scope_wide {n : Nat} {P : Program} {c : Code} {Q : Exit → Act → World → Prop} {a : Act} {w : World} (h : c.wpIn Fence.wide n P (Exit.noGoto Q) a w) : (Code.scope c).wpIn Fence.wide n P Q a w :=
  wpIn_wide.2 (wp_scope_straight (wpIn_wide.1 h))
theorem Keep.of_below {B : Nat} {G : Nat → Prop} {X Y : World} (h : Below X.heap.size X Y) : Keep B G X Y := ⟨h.size, fun k hk _ => h.block k hk⟩
theorem loopTo_succ (cols : List Col) (first : Bool) (l : List Int) (k : Nat) : loopTo cols first l (k + 1) = (loopTo cols first l k && (!(first && nullAt cols l k) && !dupB l k)) := by
  unfold loopTo
  rw [List.range_succ, List.all_append]
  simp
theorem loopTo_no (cols : List Col) (first : Bool) (l : List Int) (k : Nat) (hk : k < l.length) (h : (!(first && nullAt cols l k) && !dupB l k) = false) : okSet cols first l = false := by
  have : loopTo cols first l l.length = false := by
    unfold loopTo
    rw [List.all_eq_false]
    exact ⟨k, List.mem_range.2 hk, by rw [h]; simp⟩
  unfold okSet
  rw [this, Bool.and_false, Bool.and_false]
theorem sp_last {S : Sch} {pre : List Nat} {x : Nat} (h : SpS S (pre ++ [x])) : pre = List.range x ∧ x < 1 + S.uqs.length := by
  obtain ⟨k, hk, hl⟩ := h
  cases k with
  | zero => simp at hk
  | succ k =>
    rw [List.range_succ] at hk
    have := List.append_inj' hk rfl
    obtain ⟨h1, h2⟩ := this
    obtain rfl : x = k := by simpa using h2
    exact ⟨h1, by omega⟩
theorem sv_at (p : SchV) (S : Sch) (hs : List (Option Addr × Nat)) (w : World) (x : Nat) (hk : IntsIn w p.ok S.key) (hu : SetsAt w p.ou S.uqs hs) (hx : x < 1 + S.uqs.length) : ∃ ob cb, svS p S hs x = .slice ob (setAt S x).length cb ∧ IntsIn w ob (setAt S x) := by
  unfold svS setAt
  cases x with
  | zero => exact ⟨_, _, rfl, hk⟩
  | succ j =>
    have hj : j < S.uqs.length := by omega
    obtain ⟨a, e, hc, hl, hi⟩ := hu j hj
    refine ⟨(hAt hs j).1, (hAt hs j).2, by rw [if_neg (by omega), if_neg (by omega)]; rfl, ?_⟩
    rw [if_neg (by omega), Nat.add_sub_cancel, List.getD_eq_getElem?_getD, List.getElem?_eq_getElem hj]
    exact hi
structure CsIn (w : World) (p : SchV) (S : Sch) (W : World) : Prop where
  b : Below w.heap.size w W
  c0 : W.cell? ⟨w.heap.size, 0, none⟩ = some (.slice p.oc S.cols.length p.cc)
  e0 : W.cell? ⟨w.heap.size + 1, 0, none⟩ = some .nilIface
  ef : W.frozen? ⟨w.heap.size + 1, 0, none⟩ = false
  sz : w.heap.size + 1 < W.heap.size
theorem CsIn.keep {w : World} {p : SchV} {S : Sch} {W W' : World} {B : Nat} (h : CsIn w p S W) (hb : Below B W W') (hB : w.heap.size + 2 ≤ B) : CsIn w p S W' :=
  ⟨h.b.trans (hb.mono (by omega)), by rw [hb.cell (p := ⟨w.heap.size, 0, none⟩) (by simp; omega)]; exact h.c0, by rw [hb.cell (p := ⟨w.heap.size + 1, 0, none⟩) (by simp; omega)]; exact h.e0, by rw [hb.frozen (p := ⟨w.heap.size + 1, 0, none⟩) (by simp; omega)]; exact h.ef, by have := h.sz; have := hb.size; omega⟩
/-- an error lies in its box -/
structure CsErr (w : World) (W : World) : Prop where
  ex : ∃ b, W.cell? ⟨w.heap.size + 1, 0, none⟩ = some (.iface 147 (.pointer (some ⟨b, 0, none⟩))) ∧ W.cell? ⟨b, 1, none⟩ = some (.int .i64 2) ∧ w.heap.size + 1 < b
  ef : W.frozen? ⟨w.heap.size + 1, 0, none⟩ = false
  b : Below w.heap.size w W
theorem CsErr.put {w W : World} {l : Nat} {r : Loop} (h : CsErr w W) (hl : W.heap[l]? = some (.loop r)) (hlw : w.heap.size + 1 < l) (o : Obj) : CsErr w (W.putObj l o) := by
  obtain ⟨⟨b, h1, h2, h3⟩, hf, hb⟩ := h
  have hne : b ≠ l := fun e => by
    subst e
    simp [World.cell?, hl] at h2
  refine ⟨⟨b, ?_, ?_, h3⟩, ?_, ?_⟩
  · rw [World.cell?_of_block (World.putObj_heap_other (by simp; omega))]; exact h1
  · rw [World.cell?_of_block (World.putObj_heap_other (by simpa using hne))]; exact h2
  · rw [World.frozen?_of_block (World.putObj_heap_other (by simp; omega))]; exact hf
  · exact ⟨hb.os, hb.tape, hb.output, by simp; exact hb.size, fun k hk => (World.putObj_heap_other (by omega)).trans (hb.block k hk)⟩
theorem below_put {B : Nat} {w W : World} (hb : Below B w W) {l : Nat} (hl : B ≤ l) (o : Obj) : Below B w (W.putObj l o) :=
  ⟨hb.os, hb.tape, hb.output, by simp; exact hb.size, fun k hk => (World.putObj_heap_other (by omega)).trans (hb.block k hk)⟩
theorem cell_put {W : World} {a : Addr} {v : Value} {l : Nat} (h : W.cell? a = some v) {ds : Option (List Deferred)} (hl : W.heap[l]? = some (.deferred ds)) (o : Obj) : (W.putObj l o).cell? a = some v := by
  have hne : a.block ≠ l := fun e => by
    simp [World.cell?, e, hl] at h
  rw [World.cell?_of_block (World.putObj_heap_other hne)]
  exact h
/-- behind a refusal that is stored -/
theorem CsErr.of {w w' W : World} {b : Nat} {p : SchV} {S : Sch} (h : CsIn w p S W) (hb : Below W.heap.size W w') (h2 : w'.cell? ⟨b, 1, none⟩ = some (.int .i64 2)) (hw : W.heap.size ≤ b) : CsErr w (w'.setCell ⟨w.heap.size + 1, 0, none⟩ (.iface 147 (.pointer (some ⟨b, 0, none⟩)))) := by
  have hsz := h.sz
  have k := h.keep hb (by omega)
  refine ⟨⟨b, ?_, ?_, by omega⟩, ?_, k.b.setCell (p := ⟨w.heap.size + 1, 0, none⟩) (by simp) _⟩
  · exact World.cell?_setCell_same' _ _ _ (by rw [k.e0]; rfl)
  · exact (World.cell?_setCell_other _ _ _ _ (by intro e; simp at e)).trans h2
  · rw [World.frozen?_setCell]; exact k.ef

end Go.Proofs.YtmgeefhacnadcaaGreatDoor
namespace Go.Proofs.YtmgeefhacnadcaaGreatDoor
open Go.RowKit

def dupC (l : List Col) (i : Nat) : Bool := decide (firstC l (l.getD i col0).n < i)
def colsTo (l : List Col) (k : Nat) : Bool := (List.range k).all fun i => colOk (l.getD i col0) && !dupC l i
/-- may a schema be? -/
def schOk (S : Sch) : Bool := (decide (1 ≤ S.cols.length) && (decide (S.cols.length ≤ 8) && decide (S.uqs.length ≤ 3))) && (colsTo S.cols S.cols.length && setsTo S (1 + S.uqs.length))
theorem colsTo_succ (l : List Col) (k : Nat) (c : Col) (hk : k < l.length) (hc : l[k] = c) : colsTo l (k + 1) = (colsTo l k && (colOk c && !decide (firstC l c.n < k))) := by
  unfold colsTo
  rw [List.range_succ, List.all_append]
  have e : l.getD k col0 = c := by rw [List.getD_eq_getElem?_getD, List.getElem?_eq_getElem hk, hc]; rfl
  simp only [List.all_cons, List.all_nil, Bool.and_true]
  unfold dupC
  rw [e]
theorem colsTo_no (l : List Col) (k : Nat) (c : Col) (hk : k < l.length) (hc : l[k] = c) (h : (colOk c && !decide (firstC l c.n < k)) = false) : colsTo l l.length = false := by
  have : colsTo l (k + 1) = false := by rw [colsTo_succ l k c hk hc, h, Bool.and_false]
  unfold colsTo at *
  rw [List.all_eq_false] at *
  obtain ⟨x, hx, hp⟩ := this
  exact ⟨x, by rw [List.mem_range] at *; omega, hp⟩
theorem schOk_no {S : Sch} (h : colsTo S.cols S.cols.length = false) : schOk S = false := by unfold schOk; rw [h]; simp

end Go.Proofs.YtmgeefhacnadcaaGreatDoor
namespace Go.Proofs.YtmgeefhacnadcaaGreatDoor
open Go.RowKit

/-- the number of a schema's error -/
def schN (S : Sch) : Int := if schOk S = true then 0 else 2
/-- the first value's error -/
def firstFit : List Col → List Vl → Int
  | c :: cs, v :: vs => if fitN c v = 0 then firstFit cs vs else fitN c v
  | _, _ => 0
def FFRel (cs : List Col) (vs : List Vl) (k : Nat) : Prop := firstFit cs vs = firstFit (cs.drop k) (vs.drop k)
theorem FFRel.next {cs : List Col} {vs : List Vl} {k : Nat} {c : Col} {v : Vl} (h : FFRel cs vs k) (hc : k < cs.length) (hv : k < vs.length) (ec : cs[k] = c) (ev : vs[k] = v) (h0 : fitN c v = 0) : FFRel cs vs (k + 1) := by
  unfold FFRel at *
  rw [h, List.drop_eq_getElem_cons hc, List.drop_eq_getElem_cons hv, ec, ev]
  simp [firstFit, h0]
theorem FFRel.hit {cs : List Col} {vs : List Vl} {k : Nat} {c : Col} {v : Vl} (h : FFRel cs vs k) (hc : k < cs.length) (hv : k < vs.length) (ec : cs[k] = c) (ev : vs[k] = v) (h0 : fitN c v ≠ 0) : firstFit cs vs = fitN c v := by
  unfold FFRel at *
  rw [h, List.drop_eq_getElem_cons hc, List.drop_eq_getElem_cons hv, ec, ev]
  simp [firstFit, h0]
theorem FFRel.done {cs : List Col} {vs : List Vl} {k : Nat} (h : FFRel cs vs k) (hv : vs.length ≤ k) : firstFit cs vs = 0 := by
  unfold FFRel at *
  rw [h, List.drop_eq_nil_of_le hv]
  cases cs.drop k <;> rfl
/-- a row's error -/
def rowN (S : Sch) (row : List Vl) : Int := if schOk S = true then (if row.length = S.cols.length then firstFit S.cols row else 130) else 2
theorem schOk_col {S : Sch} (h : schOk S = true) {k : Nat} {c : Col} (hk : k < S.cols.length) (hc : S.cols[k] = c) : colOk c = true := by
  unfold schOk colsTo at h
  simp only [Bool.and_eq_true, List.all_eq_true, List.mem_range] at h
  have := (h.2.1 k hk).1
  rwa [List.getD_eq_getElem?_getD, List.getElem?_eq_getElem hk, hc] at this

end Go.Proofs.YtmgeefhacnadcaaGreatDoor
namespace Go.Proofs.YtmgeefhacnadcaaGreatDoor
open Go.RowKit

set_option maxHeartbeats 400000 in
theorem rleast_any (z : Int) (w : World) (h : numSz z = true) : Calls Tryz.prog 64 #[.int .i64 z] w fun e w' => e = .returned (.int .i64 (leastI z)) ∧ Below w.heap.size w w' := by
  rcases numSz_cases h with rfl | rfl | rfl | rfl
  all_goals
    clear h
    go_enter Tryz.func64, Tryz.ntmps64
    go_wp2
    go_ret
    exact ⟨rfl, by go_grown⟩
set_option maxHeartbeats 400000 in
theorem rmost_any (z : Int) (w : World) (h : numSz z = true) : Calls Tryz.prog 65 #[.int .i64 z] w fun e w' => e = .returned (.int .u64 (mostU z)) ∧ Below w.heap.size w w' := by
  rcases numSz_cases h with rfl | rfl | rfl | rfl
  all_goals
    clear h
    go_enter Tryz.func65, Tryz.ntmps65
    go_wp2
    go_ret
    exact ⟨rfl, by go_grown⟩
theorem least_most {z : Int} (h : numSz z = true) : IntKind.i64.wrap (leastI z + 1) = leastI z + 1 ∧ IntKind.i64.wrap (-(leastI z + 1)) = mostI z := by
  rcases numSz_cases h with rfl | rfl | rfl | rfl <;> exact ⟨rfl, rfl⟩
set_option maxRecDepth 100000 in
set_option maxHeartbeats 2000000 in
theorem rFits_col (n : ByteArray) (t : Int) (z : Int) (nl : Bool) (k : Int) (i u : Int) (s : ByteArray) (w : World) (hn : n.size ≤ 9223372036854775807) (hc : colOk ⟨n, t, z, nl⟩ = false) :
    Calls Tryz.prog 30 #[.agg #[.string n, .int .i64 t, .int .i64 z, .bool nl], .agg #[.int .i64 k, .int .i64 i, .int .u64 u, .string s]] w fun e w' => e = .returned (.int .i64 (2)) ∧ Below w.heap.size w w' := by
  have HC := Lib.hid (show ∀ W, Calls Tryz.prog 62 #[.agg #[.string n, .int .i64 t, .int .i64 z, .bool nl]] W fun e w' => e = .returned (.bool false) ∧ Below W.heap.size W w' from fun W => by have q := rcolumn_any ⟨n, t, z, nl⟩ W hn; rw [hc] at q; exact q)
  clear hc hn
  go_enter Tryz.func30, Tryz.ntmps30
  go_wp2_with fail
  refine (HC.out _).mono ?_
  rintro e w1 ⟨rfl, hb1⟩
  have hb0 : Below w.heap.size w w1 := (boxes2 w _ _).trans (hb1.mono (by simp; omega))
  have hz1 : w.heap.size + 1 < w1.heap.size := by have := hb1.size; simp at this; omega
  have hz0 : w.heap.size < w1.heap.size := by omega
  go_wp2_with fail
  go_ret
  exact ⟨rfl, hb0⟩
set_option maxRecDepth 100000 in
set_option maxHeartbeats 2000000 in
theorem rFits_chk (n : ByteArray) (t : Int) (z : Int) (nl : Bool) (k : Int) (i u : Int) (s : ByteArray) (w : World) (hn : n.size ≤ 9223372036854775807) (hc : colOk ⟨n, t, z, nl⟩ = true) (m : Int) (h : chk k i u s = m) (h0 : m ≠ 0) :
    Calls Tryz.prog 30 #[.agg #[.string n, .int .i64 t, .int .i64 z, .bool nl], .agg #[.int .i64 k, .int .i64 i, .int .u64 u, .string s]] w fun e w' => e = .returned (.int .i64 (m)) ∧ Below w.heap.size w w' := by
  have hm0 : (m != 0) = true := by simpa using h0
  clear h0
  have HC := Lib.hid (show ∀ W, Calls Tryz.prog 62 #[.agg #[.string n, .int .i64 t, .int .i64 z, .bool nl]] W fun e w' => e = .returned (.bool true) ∧ Below W.heap.size W w' from fun W => by have q := rcolumn_any ⟨n, t, z, nl⟩ W hn; rw [hc] at q; exact q)
  clear hc hn
  go_enter Tryz.func30, Tryz.ntmps30
  go_wp2_with fail
  refine (HC.out _).mono ?_
  rintro e w1 ⟨rfl, hb1⟩
  have hb0 : Below w.heap.size w w1 := (boxes2 w _ _).trans (hb1.mono (by simp; omega))
  have hz1 : w.heap.size + 1 < w1.heap.size := by have := hb1.size; simp at this; omega
  have hz0 : w.heap.size < w1.heap.size := by omega
  have hn1 : w1.cell? ⟨w.heap.size, 1, none⟩ = some (.int .i64 t) := cell_old (by simp [go_sem]) hb1
  have hn2 : w1.cell? ⟨w.heap.size, 2, none⟩ = some (.int .i64 z) := cell_old (by simp [go_sem]) hb1
  have hn3 : w1.cell? ⟨w.heap.size, 3, none⟩ = some (.bool nl) := cell_old (by simp [go_sem]) hb1
  have hv0 : w1.cell? ⟨w.heap.size + 1, 0, none⟩ = some (.int .i64 k) := cell_old (by simp [go_sem]) hb1
  have hv1 : w1.cell? ⟨w.heap.size + 1, 1, none⟩ = some (.int .i64 i) := cell_old (by simp [go_sem]) hb1
  have hv2 : w1.cell? ⟨w.heap.size + 1, 2, none⟩ = some (.int .u64 u) := cell_old (by simp [go_sem]) hb1
  have hv3 : w1.cell? ⟨w.heap.size + 1, 3, none⟩ = some (.string s) := cell_old (by simp [go_sem]) hb1
  go_wp2_with fail
  refine (rCheck_any _ _ _ _ _).mono ?_
  rintro e w2 ⟨rfl, hb2⟩
  rw [h]
  have hb02 := hb0.trans (hb2.mono hb0.size)
  have hs2 := hb2.size
  have hn1 : w2.cell? ⟨w.heap.size, 1, none⟩ = some (.int .i64 t) := cell_old hn1 hb2
  have hn2 : w2.cell? ⟨w.heap.size, 2, none⟩ = some (.int .i64 z) := cell_old hn2 hb2
  have hn3 : w2.cell? ⟨w.heap.size, 3, none⟩ = some (.bool nl) := cell_old hn3 hb2
  have hv0 : w2.cell? ⟨w.heap.size + 1, 0, none⟩ = some (.int .i64 k) := cell_old hv0 hb2
  have hv1 : w2.cell? ⟨w.heap.size + 1, 1, none⟩ = some (.int .i64 i) := cell_old hv1 hb2
  have hv2 : w2.cell? ⟨w.heap.size + 1, 2, none⟩ = some (.int .u64 u) := cell_old hv2 hb2
  have hv3 : w2.cell? ⟨w.heap.size + 1, 3, none⟩ = some (.string s) := cell_old hv3 hb2
  have hz2 : w.heap.size + 1 < w2.heap.size := by omega
  clear h hb1 hb2 hb0 hz1 hz0 hs2
  go_wp2_with fail
  go_ret
  exact ⟨rfl, hb02⟩
set_option maxRecDepth 100000 in
set_option maxHeartbeats 2000000 in
theorem rFits_null (n : ByteArray) (t : Int) (z : Int) (i u : Int) (s : ByteArray) (w : World) (hn : n.size ≤ 9223372036854775807) (hc : colOk ⟨n, t, z, true⟩ = true) (h : chk 0 i u s = 0) :
    Calls Tryz.prog 30 #[.agg #[.string n, .int .i64 t, .int .i64 z, .bool true], .agg #[.int .i64 0, .int .i64 i, .int .u64 u, .string s]] w fun e w' => e = .returned (.int .i64 (0)) ∧ Below w.heap.size w w' := by
  have HC := Lib.hid (show ∀ W, Calls Tryz.prog 62 #[.agg #[.string n, .int .i64 t, .int .i64 z, .bool true]] W fun e w' => e = .returned (.bool true) ∧ Below W.heap.size W w' from fun W => by have q := rcolumn_any ⟨n, t, z, true⟩ W hn; rw [hc] at q; exact q)
  clear hc hn
  go_enter Tryz.func30, Tryz.ntmps30
  go_wp2_with fail
  refine (HC.out _).mono ?_
  rintro e w1 ⟨rfl, hb1⟩
  have hb0 : Below w.heap.size w w1 := (boxes2 w _ _).trans (hb1.mono (by simp; omega))
  have hz1 : w.heap.size + 1 < w1.heap.size := by have := hb1.size; simp at this; omega
  have hz0 : w.heap.size < w1.heap.size := by omega
  have hn1 : w1.cell? ⟨w.heap.size, 1, none⟩ = some (.int .i64 t) := cell_old (by simp [go_sem]) hb1
  have hn2 : w1.cell? ⟨w.heap.size, 2, none⟩ = some (.int .i64 z) := cell_old (by simp [go_sem]) hb1
  have hn3 : w1.cell? ⟨w.heap.size, 3, none⟩ = some (.bool true) := cell_old (by simp [go_sem]) hb1
  have hv0 : w1.cell? ⟨w.heap.size + 1, 0, none⟩ = some (.int .i64 0) := cell_old (by simp [go_sem]) hb1
  have hv1 : w1.cell? ⟨w.heap.size + 1, 1, none⟩ = some (.int .i64 i) := cell_old (by simp [go_sem]) hb1
  have hv2 : w1.cell? ⟨w.heap.size + 1, 2, none⟩ = some (.int .u64 u) := cell_old (by simp [go_sem]) hb1
  have hv3 : w1.cell? ⟨w.heap.size + 1, 3, none⟩ = some (.string s) := cell_old (by simp [go_sem]) hb1
  go_wp2_with fail
  refine (rCheck_any _ _ _ _ _).mono ?_
  rintro e w2 ⟨rfl, hb2⟩
  rw [h]
  have hb02 := hb0.trans (hb2.mono hb0.size)
  have hs2 := hb2.size
  have hn1 : w2.cell? ⟨w.heap.size, 1, none⟩ = some (.int .i64 t) := cell_old hn1 hb2
  have hn2 : w2.cell? ⟨w.heap.size, 2, none⟩ = some (.int .i64 z) := cell_old hn2 hb2
  have hn3 : w2.cell? ⟨w.heap.size, 3, none⟩ = some (.bool true) := cell_old hn3 hb2
  have hv0 : w2.cell? ⟨w.heap.size + 1, 0, none⟩ = some (.int .i64 0) := cell_old hv0 hb2
  have hv1 : w2.cell? ⟨w.heap.size + 1, 1, none⟩ = some (.int .i64 i) := cell_old hv1 hb2
  have hv2 : w2.cell? ⟨w.heap.size + 1, 2, none⟩ = some (.int .u64 u) := cell_old hv2 hb2
  have hv3 : w2.cell? ⟨w.heap.size + 1, 3, none⟩ = some (.string s) := cell_old hv3 hb2
  have hz2 : w.heap.size + 1 < w2.heap.size := by omega
  clear h hb1 hb2 hb0 hz1 hz0 hs2
  go_wp2_with fail
  go_ret
  exact ⟨rfl, hb02⟩
set_option maxRecDepth 100000 in
set_option maxHeartbeats 2000000 in
theorem rFits_nonull (n : ByteArray) (t : Int) (z : Int) (i u : Int) (s : ByteArray) (w : World) (hn : n.size ≤ 9223372036854775807) (hc : colOk ⟨n, t, z, false⟩ = true) (h : chk 0 i u s = 0) :
    Calls Tryz.prog 30 #[.agg #[.string n, .int .i64 t, .int .i64 z, .bool false], .agg #[.int .i64 0, .int .i64 i, .int .u64 u, .string s]] w fun e w' => e = .returned (.int .i64 (131)) ∧ Below w.heap.size w w' := by
  have HC := Lib.hid (show ∀ W, Calls Tryz.prog 62 #[.agg #[.string n, .int .i64 t, .int .i64 z, .bool false]] W fun e w' => e = .returned (.bool true) ∧ Below W.heap.size W w' from fun W => by have q := rcolumn_any ⟨n, t, z, false⟩ W hn; rw [hc] at q; exact q)
  clear hc hn
  go_enter Tryz.func30, Tryz.ntmps30
  go_wp2_with fail
  refine (HC.out _).mono ?_
  rintro e w1 ⟨rfl, hb1⟩
  have hb0 : Below w.heap.size w w1 := (boxes2 w _ _).trans (hb1.mono (by simp; omega))
  have hz1 : w.heap.size + 1 < w1.heap.size := by have := hb1.size; simp at this; omega
  have hz0 : w.heap.size < w1.heap.size := by omega
  have hn1 : w1.cell? ⟨w.heap.size, 1, none⟩ = some (.int .i64 t) := cell_old (by simp [go_sem]) hb1
  have hn2 : w1.cell? ⟨w.heap.size, 2, none⟩ = some (.int .i64 z) := cell_old (by simp [go_sem]) hb1
  have hn3 : w1.cell? ⟨w.heap.size, 3, none⟩ = some (.bool false) := cell_old (by simp [go_sem]) hb1
  have hv0 : w1.cell? ⟨w.heap.size + 1, 0, none⟩ = some (.int .i64 0) := cell_old (by simp [go_sem]) hb1
  have hv1 : w1.cell? ⟨w.heap.size + 1, 1, none⟩ = some (.int .i64 i) := cell_old (by simp [go_sem]) hb1
  have hv2 : w1.cell? ⟨w.heap.size + 1, 2, none⟩ = some (.int .u64 u) := cell_old (by simp [go_sem]) hb1
  have hv3 : w1.cell? ⟨w.heap.size + 1, 3, none⟩ = some (.string s) := cell_old (by simp [go_sem]) hb1
  go_wp2_with fail
  refine (rCheck_any _ _ _ _ _).mono ?_
  rintro e w2 ⟨rfl, hb2⟩
  rw [h]
  have hb02 := hb0.trans (hb2.mono hb0.size)
  have hs2 := hb2.size
  have hn1 : w2.cell? ⟨w.heap.size, 1, none⟩ = some (.int .i64 t) := cell_old hn1 hb2
  have hn2 : w2.cell? ⟨w.heap.size, 2, none⟩ = some (.int .i64 z) := cell_old hn2 hb2
  have hn3 : w2.cell? ⟨w.heap.size, 3, none⟩ = some (.bool false) := cell_old hn3 hb2
  have hv0 : w2.cell? ⟨w.heap.size + 1, 0, none⟩ = some (.int .i64 0) := cell_old hv0 hb2
  have hv1 : w2.cell? ⟨w.heap.size + 1, 1, none⟩ = some (.int .i64 i) := cell_old hv1 hb2
  have hv2 : w2.cell? ⟨w.heap.size + 1, 2, none⟩ = some (.int .u64 u) := cell_old hv2 hb2
  have hv3 : w2.cell? ⟨w.heap.size + 1, 3, none⟩ = some (.string s) := cell_old hv3 hb2
  have hz2 : w.heap.size + 1 < w2.heap.size := by omega
  clear h hb1 hb2 hb0 hz1 hz0 hs2
  go_wp2_with fail
  go_ret
  exact ⟨rfl, hb02⟩
set_option maxRecDepth 100000 in
set_option maxHeartbeats 2000000 in
theorem rFits_type (n : ByteArray) (t : Int) (z : Int) (nl : Bool) (k : Int) (i u : Int) (s : ByteArray) (w : World) (hn : n.size ≤ 9223372036854775807) (hc : colOk ⟨n, t, z, nl⟩ = true) (h : chk k i u s = 0) (hk : (k == 0) = false) (hkt : (k != t) = true) :
    Calls Tryz.prog 30 #[.agg #[.string n, .int .i64 t, .int .i64 z, .bool nl], .agg #[.int .i64 k, .int .i64 i, .int .u64 u, .string s]] w fun e w' => e = .returned (.int .i64 (132)) ∧ Below w.heap.size w w' := by
  have HC := Lib.hid (show ∀ W, Calls Tryz.prog 62 #[.agg #[.string n, .int .i64 t, .int .i64 z, .bool nl]] W fun e w' => e = .returned (.bool true) ∧ Below W.heap.size W w' from fun W => by have q := rcolumn_any ⟨n, t, z, nl⟩ W hn; rw [hc] at q; exact q)
  clear hc hn
  go_enter Tryz.func30, Tryz.ntmps30
  go_wp2_with fail
  refine (HC.out _).mono ?_
  rintro e w1 ⟨rfl, hb1⟩
  have hb0 : Below w.heap.size w w1 := (boxes2 w _ _).trans (hb1.mono (by simp; omega))
  have hz1 : w.heap.size + 1 < w1.heap.size := by have := hb1.size; simp at this; omega
  have hz0 : w.heap.size < w1.heap.size := by omega
  have hn1 : w1.cell? ⟨w.heap.size, 1, none⟩ = some (.int .i64 t) := cell_old (by simp [go_sem]) hb1
  have hn2 : w1.cell? ⟨w.heap.size, 2, none⟩ = some (.int .i64 z) := cell_old (by simp [go_sem]) hb1
  have hn3 : w1.cell? ⟨w.heap.size, 3, none⟩ = some (.bool nl) := cell_old (by simp [go_sem]) hb1
  have hv0 : w1.cell? ⟨w.heap.size + 1, 0, none⟩ = some (.int .i64 k) := cell_old (by simp [go_sem]) hb1
  have hv1 : w1.cell? ⟨w.heap.size + 1, 1, none⟩ = some (.int .i64 i) := cell_old (by simp [go_sem]) hb1
  have hv2 : w1.cell? ⟨w.heap.size + 1, 2, none⟩ = some (.int .u64 u) := cell_old (by simp [go_sem]) hb1
  have hv3 : w1.cell? ⟨w.heap.size + 1, 3, none⟩ = some (.string s) := cell_old (by simp [go_sem]) hb1
  go_wp2_with fail
  refine (rCheck_any _ _ _ _ _).mono ?_
  rintro e w2 ⟨rfl, hb2⟩
  rw [h]
  have hb02 := hb0.trans (hb2.mono hb0.size)
  have hs2 := hb2.size
  have hn1 : w2.cell? ⟨w.heap.size, 1, none⟩ = some (.int .i64 t) := cell_old hn1 hb2
  have hn2 : w2.cell? ⟨w.heap.size, 2, none⟩ = some (.int .i64 z) := cell_old hn2 hb2
  have hn3 : w2.cell? ⟨w.heap.size, 3, none⟩ = some (.bool nl) := cell_old hn3 hb2
  have hv0 : w2.cell? ⟨w.heap.size + 1, 0, none⟩ = some (.int .i64 k) := cell_old hv0 hb2
  have hv1 : w2.cell? ⟨w.heap.size + 1, 1, none⟩ = some (.int .i64 i) := cell_old hv1 hb2
  have hv2 : w2.cell? ⟨w.heap.size + 1, 2, none⟩ = some (.int .u64 u) := cell_old hv2 hb2
  have hv3 : w2.cell? ⟨w.heap.size + 1, 3, none⟩ = some (.string s) := cell_old hv3 hb2
  have hz2 : w.heap.size + 1 < w2.heap.size := by omega
  clear h hb1 hb2 hb0 hz1 hz0 hs2
  go_wp2_with fail
  go_ret
  exact ⟨rfl, hb02⟩
set_option maxRecDepth 100000 in
set_option maxHeartbeats 2000000 in
theorem rFits1_in (n : ByteArray) (z : Int) (nl : Bool) (i u : Int) (s : ByteArray) (w : World) (hn : n.size ≤ 9223372036854775807) (hc : colOk ⟨n, 1, z, nl⟩ = true) (h : chk 1 i u s = 0) (hz : numSz z = true) (h1 : leastI z ≤ i) (h2 : i ≤ mostI z) :
    Calls Tryz.prog 30 #[.agg #[.string n, .int .i64 1, .int .i64 z, .bool nl], .agg #[.int .i64 1, .int .i64 i, .int .u64 u, .string s]] w fun e w' => e = .returned (.int .i64 (0)) ∧ Below w.heap.size w w' := by
  obtain ⟨e1, e2⟩ := least_most hz
  have HC := Lib.hid (show ∀ W, Calls Tryz.prog 62 #[.agg #[.string n, .int .i64 1, .int .i64 z, .bool nl]] W fun e w' => e = .returned (.bool true) ∧ Below W.heap.size W w' from fun W => by have q := rcolumn_any ⟨n, 1, z, nl⟩ W hn; rw [hc] at q; exact q)
  clear hc hn
  go_enter Tryz.func30, Tryz.ntmps30
  go_wp2_with fail
  refine (HC.out _).mono ?_
  rintro e w1 ⟨rfl, hb1⟩
  have hb0 : Below w.heap.size w w1 := (boxes2 w _ _).trans (hb1.mono (by simp; omega))
  have hz1 : w.heap.size + 1 < w1.heap.size := by have := hb1.size; simp at this; omega
  have hz0 : w.heap.size < w1.heap.size := by omega
  have hn1 : w1.cell? ⟨w.heap.size, 1, none⟩ = some (.int .i64 1) := cell_old (by simp [go_sem]) hb1
  have hn2 : w1.cell? ⟨w.heap.size, 2, none⟩ = some (.int .i64 z) := cell_old (by simp [go_sem]) hb1
  have hn3 : w1.cell? ⟨w.heap.size, 3, none⟩ = some (.bool nl) := cell_old (by simp [go_sem]) hb1
  have hv0 : w1.cell? ⟨w.heap.size + 1, 0, none⟩ = some (.int .i64 1) := cell_old (by simp [go_sem]) hb1
  have hv1 : w1.cell? ⟨w.heap.size + 1, 1, none⟩ = some (.int .i64 i) := cell_old (by simp [go_sem]) hb1
  have hv2 : w1.cell? ⟨w.heap.size + 1, 2, none⟩ = some (.int .u64 u) := cell_old (by simp [go_sem]) hb1
  have hv3 : w1.cell? ⟨w.heap.size + 1, 3, none⟩ = some (.string s) := cell_old (by simp [go_sem]) hb1
  go_wp2_with fail
  refine (rCheck_any _ _ _ _ _).mono ?_
  rintro e w2 ⟨rfl, hb2⟩
  rw [h]
  have hb02 := hb0.trans (hb2.mono hb0.size)
  have hs2 := hb2.size
  have hn1 : w2.cell? ⟨w.heap.size, 1, none⟩ = some (.int .i64 1) := cell_old hn1 hb2
  have hn2 : w2.cell? ⟨w.heap.size, 2, none⟩ = some (.int .i64 z) := cell_old hn2 hb2
  have hn3 : w2.cell? ⟨w.heap.size, 3, none⟩ = some (.bool nl) := cell_old hn3 hb2
  have hv0 : w2.cell? ⟨w.heap.size + 1, 0, none⟩ = some (.int .i64 1) := cell_old hv0 hb2
  have hv1 : w2.cell? ⟨w.heap.size + 1, 1, none⟩ = some (.int .i64 i) := cell_old hv1 hb2
  have hv2 : w2.cell? ⟨w.heap.size + 1, 2, none⟩ = some (.int .u64 u) := cell_old hv2 hb2
  have hv3 : w2.cell? ⟨w.heap.size + 1, 3, none⟩ = some (.string s) := cell_old hv3 hb2
  have hz2 : w.heap.size + 1 < w2.heap.size := by omega
  clear h hb1 hb2 hb0 hz1 hz0 hs2
  have d1 : decide (i < leastI z) = false := by simpa using h1
  have d2 : decide (mostI z < i) = false := by simpa using h2
  clear h1
  clear h2
  go_wp2_with fail
  have l2 : ∀ p : Later w2, p.W.cell? ⟨w.heap.size, 2, none⟩ = some (.int .i64 z) := later_cell hn2
  have l1 : ∀ p : Later w2, p.W.cell? ⟨w.heap.size + 1, 1, none⟩ = some (.int .i64 i) := later_cell hv1
  refine wp_region_later (by kernel_rfl) (by kernel_rfl) ?_
  repeat (go_big_quiet_step ((go_at_call 64; exact Calls.later (rleast_any _ _ hz))))
  refine wpQuiet_nil ?_
  rintro w3 ⟨⟨W0, hb3⟩, rfl⟩
  have g2 : w3.cell? ⟨w.heap.size, 2, none⟩ = some (.int .i64 z) := cell_old hn2 hb3
  have g3 : w3.cell? ⟨w.heap.size + 1, 2, none⟩ = some (.int .u64 u) := cell_old hv2 hb3
  have g4 : w3.cell? ⟨w.heap.size + 1, 3, none⟩ = some (.string s) := cell_old hv3 hb3
  have hz3 : w.heap.size + 1 < w3.heap.size := by have := hb3.size; omega
  go_wp2_with fail
  refine wp_region_later (by kernel_rfl) (by kernel_rfl) ?_
  repeat (go_big_quiet_step (fail))
  refine wpQuiet_nil ?_
  rintro w4 ⟨⟨W0, hb4⟩, rfl⟩
  have k2 : w4.cell? ⟨w.heap.size, 2, none⟩ = some (.int .i64 z) := cell_old g2 hb4
  have k4 : w4.cell? ⟨w.heap.size + 1, 3, none⟩ = some (.string s) := cell_old g4 hb4
  go_wp2_with fail
  go_ret
  exact ⟨rfl, (hb02.trans (hb3.mono hb02.size)).trans (hb4.mono (hb02.trans (hb3.mono hb02.size)).size)⟩
set_option maxRecDepth 100000 in
set_option maxHeartbeats 2000000 in
theorem rFits1_low (n : ByteArray) (z : Int) (nl : Bool) (i u : Int) (s : ByteArray) (w : World) (hn : n.size ≤ 9223372036854775807) (hc : colOk ⟨n, 1, z, nl⟩ = true) (h : chk 1 i u s = 0) (hz : numSz z = true) (h1 : i < leastI z) :
    Calls Tryz.prog 30 #[.agg #[.string n, .int .i64 1, .int .i64 z, .bool nl], .agg #[.int .i64 1, .int .i64 i, .int .u64 u, .string s]] w fun e w' => e = .returned (.int .i64 (133)) ∧ Below w.heap.size w w' := by
  obtain ⟨e1, e2⟩ := least_most hz
  have HC := Lib.hid (show ∀ W, Calls Tryz.prog 62 #[.agg #[.string n, .int .i64 1, .int .i64 z, .bool nl]] W fun e w' => e = .returned (.bool true) ∧ Below W.heap.size W w' from fun W => by have q := rcolumn_any ⟨n, 1, z, nl⟩ W hn; rw [hc] at q; exact q)
  clear hc hn
  go_enter Tryz.func30, Tryz.ntmps30
  go_wp2_with fail
  refine (HC.out _).mono ?_
  rintro e w1 ⟨rfl, hb1⟩
  have hb0 : Below w.heap.size w w1 := (boxes2 w _ _).trans (hb1.mono (by simp; omega))
  have hz1 : w.heap.size + 1 < w1.heap.size := by have := hb1.size; simp at this; omega
  have hz0 : w.heap.size < w1.heap.size := by omega
  have hn1 : w1.cell? ⟨w.heap.size, 1, none⟩ = some (.int .i64 1) := cell_old (by simp [go_sem]) hb1
  have hn2 : w1.cell? ⟨w.heap.size, 2, none⟩ = some (.int .i64 z) := cell_old (by simp [go_sem]) hb1
  have hn3 : w1.cell? ⟨w.heap.size, 3, none⟩ = some (.bool nl) := cell_old (by simp [go_sem]) hb1
  have hv0 : w1.cell? ⟨w.heap.size + 1, 0, none⟩ = some (.int .i64 1) := cell_old (by simp [go_sem]) hb1
  have hv1 : w1.cell? ⟨w.heap.size + 1, 1, none⟩ = some (.int .i64 i) := cell_old (by simp [go_sem]) hb1
  have hv2 : w1.cell? ⟨w.heap.size + 1, 2, none⟩ = some (.int .u64 u) := cell_old (by simp [go_sem]) hb1
  have hv3 : w1.cell? ⟨w.heap.size + 1, 3, none⟩ = some (.string s) := cell_old (by simp [go_sem]) hb1
  go_wp2_with fail
  refine (rCheck_any _ _ _ _ _).mono ?_
  rintro e w2 ⟨rfl, hb2⟩
  rw [h]
  have hb02 := hb0.trans (hb2.mono hb0.size)
  have hs2 := hb2.size
  have hn1 : w2.cell? ⟨w.heap.size, 1, none⟩ = some (.int .i64 1) := cell_old hn1 hb2
  have hn2 : w2.cell? ⟨w.heap.size, 2, none⟩ = some (.int .i64 z) := cell_old hn2 hb2
  have hn3 : w2.cell? ⟨w.heap.size, 3, none⟩ = some (.bool nl) := cell_old hn3 hb2
  have hv0 : w2.cell? ⟨w.heap.size + 1, 0, none⟩ = some (.int .i64 1) := cell_old hv0 hb2
  have hv1 : w2.cell? ⟨w.heap.size + 1, 1, none⟩ = some (.int .i64 i) := cell_old hv1 hb2
  have hv2 : w2.cell? ⟨w.heap.size + 1, 2, none⟩ = some (.int .u64 u) := cell_old hv2 hb2
  have hv3 : w2.cell? ⟨w.heap.size + 1, 3, none⟩ = some (.string s) := cell_old hv3 hb2
  have hz2 : w.heap.size + 1 < w2.heap.size := by omega
  clear h hb1 hb2 hb0 hz1 hz0 hs2
  have d1 : decide (i < leastI z) = true := by simpa using h1
  clear h1
  go_wp2_with fail
  have l2 : ∀ p : Later w2, p.W.cell? ⟨w.heap.size, 2, none⟩ = some (.int .i64 z) := later_cell hn2
  have l1 : ∀ p : Later w2, p.W.cell? ⟨w.heap.size + 1, 1, none⟩ = some (.int .i64 i) := later_cell hv1
  refine wp_region_later (by kernel_rfl) (by kernel_rfl) ?_
  repeat (go_big_quiet_step ((go_at_call 64; exact Calls.later (rleast_any _ _ hz))))
  refine wpQuiet_nil ?_
  rintro w3 ⟨⟨W0, hb3⟩, rfl⟩
  go_wp2_with fail
  go_ret
  exact ⟨rfl, hb02.trans (hb3.mono hb02.size)⟩
set_option maxRecDepth 100000 in
set_option maxHeartbeats 2000000 in
theorem rFits1_high (n : ByteArray) (z : Int) (nl : Bool) (i u : Int) (s : ByteArray) (w : World) (hn : n.size ≤ 9223372036854775807) (hc : colOk ⟨n, 1, z, nl⟩ = true) (h : chk 1 i u s = 0) (hz : numSz z = true) (h1 : leastI z ≤ i) (h2 : mostI z < i) :
    Calls Tryz.prog 30 #[.agg #[.string n, .int .i64 1, .int .i64 z, .bool nl], .agg #[.int .i64 1, .int .i64 i, .int .u64 u, .string s]] w fun e w' => e = .returned (.int .i64 (133)) ∧ Below w.heap.size w w' := by
  obtain ⟨e1, e2⟩ := least_most hz
  have HC := Lib.hid (show ∀ W, Calls Tryz.prog 62 #[.agg #[.string n, .int .i64 1, .int .i64 z, .bool nl]] W fun e w' => e = .returned (.bool true) ∧ Below W.heap.size W w' from fun W => by have q := rcolumn_any ⟨n, 1, z, nl⟩ W hn; rw [hc] at q; exact q)
  clear hc hn
  go_enter Tryz.func30, Tryz.ntmps30
  go_wp2_with fail
  refine (HC.out _).mono ?_
  rintro e w1 ⟨rfl, hb1⟩
  have hb0 : Below w.heap.size w w1 := (boxes2 w _ _).trans (hb1.mono (by simp; omega))
  have hz1 : w.heap.size + 1 < w1.heap.size := by have := hb1.size; simp at this; omega
  have hz0 : w.heap.size < w1.heap.size := by omega
  have hn1 : w1.cell? ⟨w.heap.size, 1, none⟩ = some (.int .i64 1) := cell_old (by simp [go_sem]) hb1
  have hn2 : w1.cell? ⟨w.heap.size, 2, none⟩ = some (.int .i64 z) := cell_old (by simp [go_sem]) hb1
  have hn3 : w1.cell? ⟨w.heap.size, 3, none⟩ = some (.bool nl) := cell_old (by simp [go_sem]) hb1
  have hv0 : w1.cell? ⟨w.heap.size + 1, 0, none⟩ = some (.int .i64 1) := cell_old (by simp [go_sem]) hb1
  have hv1 : w1.cell? ⟨w.heap.size + 1, 1, none⟩ = some (.int .i64 i) := cell_old (by simp [go_sem]) hb1
  have hv2 : w1.cell? ⟨w.heap.size + 1, 2, none⟩ = some (.int .u64 u) := cell_old (by simp [go_sem]) hb1
  have hv3 : w1.cell? ⟨w.heap.size + 1, 3, none⟩ = some (.string s) := cell_old (by simp [go_sem]) hb1
  go_wp2_with fail
  refine (rCheck_any _ _ _ _ _).mono ?_
  rintro e w2 ⟨rfl, hb2⟩
  rw [h]
  have hb02 := hb0.trans (hb2.mono hb0.size)
  have hs2 := hb2.size
  have hn1 : w2.cell? ⟨w.heap.size, 1, none⟩ = some (.int .i64 1) := cell_old hn1 hb2
  have hn2 : w2.cell? ⟨w.heap.size, 2, none⟩ = some (.int .i64 z) := cell_old hn2 hb2
  have hn3 : w2.cell? ⟨w.heap.size, 3, none⟩ = some (.bool nl) := cell_old hn3 hb2
  have hv0 : w2.cell? ⟨w.heap.size + 1, 0, none⟩ = some (.int .i64 1) := cell_old hv0 hb2
  have hv1 : w2.cell? ⟨w.heap.size + 1, 1, none⟩ = some (.int .i64 i) := cell_old hv1 hb2
  have hv2 : w2.cell? ⟨w.heap.size + 1, 2, none⟩ = some (.int .u64 u) := cell_old hv2 hb2
  have hv3 : w2.cell? ⟨w.heap.size + 1, 3, none⟩ = some (.string s) := cell_old hv3 hb2
  have hz2 : w.heap.size + 1 < w2.heap.size := by omega
  clear h hb1 hb2 hb0 hz1 hz0 hs2
  have d1 : decide (i < leastI z) = false := by simpa using h1
  have d2 : decide (mostI z < i) = true := by simpa using h2
  clear h1
  clear h2
  go_wp2_with fail
  have l2 : ∀ p : Later w2, p.W.cell? ⟨w.heap.size, 2, none⟩ = some (.int .i64 z) := later_cell hn2
  have l1 : ∀ p : Later w2, p.W.cell? ⟨w.heap.size + 1, 1, none⟩ = some (.int .i64 i) := later_cell hv1
  refine wp_region_later (by kernel_rfl) (by kernel_rfl) ?_
  repeat (go_big_quiet_step ((go_at_call 64; exact Calls.later (rleast_any _ _ hz))))
  refine wpQuiet_nil ?_
  rintro w3 ⟨⟨W0, hb3⟩, rfl⟩
  go_wp2_with fail
  go_ret
  exact ⟨rfl, hb02.trans (hb3.mono hb02.size)⟩
set_option maxRecDepth 100000 in
set_option maxHeartbeats 2000000 in
theorem rFits2_in (n : ByteArray) (z : Int) (nl : Bool) (i u : Int) (s : ByteArray) (w : World) (hn : n.size ≤ 9223372036854775807) (hc : colOk ⟨n, 2, z, nl⟩ = true) (h : chk 2 i u s = 0) (hz : numSz z = true) (h1 : u ≤ mostU z) :
    Calls Tryz.prog 30 #[.agg #[.string n, .int .i64 2, .int .i64 z, .bool nl], .agg #[.int .i64 2, .int .i64 i, .int .u64 u, .string s]] w fun e w' => e = .returned (.int .i64 (0)) ∧ Below w.heap.size w w' := by
  have HC := Lib.hid (show ∀ W, Calls Tryz.prog 62 #[.agg #[.string n, .int .i64 2, .int .i64 z, .bool nl]] W fun e w' => e = .returned (.bool true) ∧ Below W.heap.size W w' from fun W => by have q := rcolumn_any ⟨n, 2, z, nl⟩ W hn; rw [hc] at q; exact q)
  clear hc hn
  go_enter Tryz.func30, Tryz.ntmps30
  go_wp2_with fail
  refine (HC.out _).mono ?_
  rintro e w1 ⟨rfl, hb1⟩
  have hb0 : Below w.heap.size w w1 := (boxes2 w _ _).trans (hb1.mono (by simp; omega))
  have hz1 : w.heap.size + 1 < w1.heap.size := by have := hb1.size; simp at this; omega
  have hz0 : w.heap.size < w1.heap.size := by omega
  have hn1 : w1.cell? ⟨w.heap.size, 1, none⟩ = some (.int .i64 2) := cell_old (by simp [go_sem]) hb1
  have hn2 : w1.cell? ⟨w.heap.size, 2, none⟩ = some (.int .i64 z) := cell_old (by simp [go_sem]) hb1
  have hn3 : w1.cell? ⟨w.heap.size, 3, none⟩ = some (.bool nl) := cell_old (by simp [go_sem]) hb1
  have hv0 : w1.cell? ⟨w.heap.size + 1, 0, none⟩ = some (.int .i64 2) := cell_old (by simp [go_sem]) hb1
  have hv1 : w1.cell? ⟨w.heap.size + 1, 1, none⟩ = some (.int .i64 i) := cell_old (by simp [go_sem]) hb1
  have hv2 : w1.cell? ⟨w.heap.size + 1, 2, none⟩ = some (.int .u64 u) := cell_old (by simp [go_sem]) hb1
  have hv3 : w1.cell? ⟨w.heap.size + 1, 3, none⟩ = some (.string s) := cell_old (by simp [go_sem]) hb1
  go_wp2_with fail
  refine (rCheck_any _ _ _ _ _).mono ?_
  rintro e w2 ⟨rfl, hb2⟩
  rw [h]
  have hb02 := hb0.trans (hb2.mono hb0.size)
  have hs2 := hb2.size
  have hn1 : w2.cell? ⟨w.heap.size, 1, none⟩ = some (.int .i64 2) := cell_old hn1 hb2
  have hn2 : w2.cell? ⟨w.heap.size, 2, none⟩ = some (.int .i64 z) := cell_old hn2 hb2
  have hn3 : w2.cell? ⟨w.heap.size, 3, none⟩ = some (.bool nl) := cell_old hn3 hb2
  have hv0 : w2.cell? ⟨w.heap.size + 1, 0, none⟩ = some (.int .i64 2) := cell_old hv0 hb2
  have hv1 : w2.cell? ⟨w.heap.size + 1, 1, none⟩ = some (.int .i64 i) := cell_old hv1 hb2
  have hv2 : w2.cell? ⟨w.heap.size + 1, 2, none⟩ = some (.int .u64 u) := cell_old hv2 hb2
  have hv3 : w2.cell? ⟨w.heap.size + 1, 3, none⟩ = some (.string s) := cell_old hv3 hb2
  have hz2 : w.heap.size + 1 < w2.heap.size := by omega
  clear h hb1 hb2 hb0 hz1 hz0 hs2
  have d1 : decide (mostU z < u) = false := by simpa using h1
  clear h1
  go_wp2_with fail
  refine wp_region_later (by kernel_rfl) (by kernel_rfl) ?_
  repeat (go_big_quiet_step (fail))
  refine wpQuiet_nil ?_
  rintro w3 ⟨⟨W0, hb3⟩, rfl⟩
  have g2 : w3.cell? ⟨w.heap.size, 2, none⟩ = some (.int .i64 z) := cell_old hn2 hb3
  have g3 : w3.cell? ⟨w.heap.size + 1, 2, none⟩ = some (.int .u64 u) := cell_old hv2 hb3
  have g4 : w3.cell? ⟨w.heap.size + 1, 3, none⟩ = some (.string s) := cell_old hv3 hb3
  have hz3 : w.heap.size + 1 < w3.heap.size := by have := hb3.size; omega
  go_wp2_with fail
  have l3 : ∀ p : Later w3, p.W.cell? ⟨w.heap.size, 2, none⟩ = some (.int .i64 z) := later_cell g2
  have l4 : ∀ p : Later w3, p.W.cell? ⟨w.heap.size + 1, 2, none⟩ = some (.int .u64 u) := later_cell g3
  refine wp_region_later (by kernel_rfl) (by kernel_rfl) ?_
  repeat (go_big_quiet_step ((go_at_call 65; exact Calls.later (rmost_any _ _ hz))))
  refine wpQuiet_nil ?_
  rintro w4 ⟨⟨W0, hb4⟩, rfl⟩
  have k2 : w4.cell? ⟨w.heap.size, 2, none⟩ = some (.int .i64 z) := cell_old g2 hb4
  have k4 : w4.cell? ⟨w.heap.size + 1, 3, none⟩ = some (.string s) := cell_old g4 hb4
  go_wp2_with fail
  go_ret
  exact ⟨rfl, (hb02.trans (hb3.mono hb02.size)).trans (hb4.mono (hb02.trans (hb3.mono hb02.size)).size)⟩
set_option maxRecDepth 100000 in
set_option maxHeartbeats 2000000 in
theorem rFits2_out (n : ByteArray) (z : Int) (nl : Bool) (i u : Int) (s : ByteArray) (w : World) (hn : n.size ≤ 9223372036854775807) (hc : colOk ⟨n, 2, z, nl⟩ = true) (h : chk 2 i u s = 0) (hz : numSz z = true) (h1 : mostU z < u) :
    Calls Tryz.prog 30 #[.agg #[.string n, .int .i64 2, .int .i64 z, .bool nl], .agg #[.int .i64 2, .int .i64 i, .int .u64 u, .string s]] w fun e w' => e = .returned (.int .i64 (133)) ∧ Below w.heap.size w w' := by
  have HC := Lib.hid (show ∀ W, Calls Tryz.prog 62 #[.agg #[.string n, .int .i64 2, .int .i64 z, .bool nl]] W fun e w' => e = .returned (.bool true) ∧ Below W.heap.size W w' from fun W => by have q := rcolumn_any ⟨n, 2, z, nl⟩ W hn; rw [hc] at q; exact q)
  clear hc hn
  go_enter Tryz.func30, Tryz.ntmps30
  go_wp2_with fail
  refine (HC.out _).mono ?_
  rintro e w1 ⟨rfl, hb1⟩
  have hb0 : Below w.heap.size w w1 := (boxes2 w _ _).trans (hb1.mono (by simp; omega))
  have hz1 : w.heap.size + 1 < w1.heap.size := by have := hb1.size; simp at this; omega
  have hz0 : w.heap.size < w1.heap.size := by omega
  have hn1 : w1.cell? ⟨w.heap.size, 1, none⟩ = some (.int .i64 2) := cell_old (by simp [go_sem]) hb1
  have hn2 : w1.cell? ⟨w.heap.size, 2, none⟩ = some (.int .i64 z) := cell_old (by simp [go_sem]) hb1
  have hn3 : w1.cell? ⟨w.heap.size, 3, none⟩ = some (.bool nl) := cell_old (by simp [go_sem]) hb1
  have hv0 : w1.cell? ⟨w.heap.size + 1, 0, none⟩ = some (.int .i64 2) := cell_old (by simp [go_sem]) hb1
  have hv1 : w1.cell? ⟨w.heap.size + 1, 1, none⟩ = some (.int .i64 i) := cell_old (by simp [go_sem]) hb1
  have hv2 : w1.cell? ⟨w.heap.size + 1, 2, none⟩ = some (.int .u64 u) := cell_old (by simp [go_sem]) hb1
  have hv3 : w1.cell? ⟨w.heap.size + 1, 3, none⟩ = some (.string s) := cell_old (by simp [go_sem]) hb1
  go_wp2_with fail
  refine (rCheck_any _ _ _ _ _).mono ?_
  rintro e w2 ⟨rfl, hb2⟩
  rw [h]
  have hb02 := hb0.trans (hb2.mono hb0.size)
  have hs2 := hb2.size
  have hn1 : w2.cell? ⟨w.heap.size, 1, none⟩ = some (.int .i64 2) := cell_old hn1 hb2
  have hn2 : w2.cell? ⟨w.heap.size, 2, none⟩ = some (.int .i64 z) := cell_old hn2 hb2
  have hn3 : w2.cell? ⟨w.heap.size, 3, none⟩ = some (.bool nl) := cell_old hn3 hb2
  have hv0 : w2.cell? ⟨w.heap.size + 1, 0, none⟩ = some (.int .i64 2) := cell_old hv0 hb2
  have hv1 : w2.cell? ⟨w.heap.size + 1, 1, none⟩ = some (.int .i64 i) := cell_old hv1 hb2
  have hv2 : w2.cell? ⟨w.heap.size + 1, 2, none⟩ = some (.int .u64 u) := cell_old hv2 hb2
  have hv3 : w2.cell? ⟨w.heap.size + 1, 3, none⟩ = some (.string s) := cell_old hv3 hb2
  have hz2 : w.heap.size + 1 < w2.heap.size := by omega
  clear h hb1 hb2 hb0 hz1 hz0 hs2
  have d1 : decide (mostU z < u) = true := by simpa using h1
  clear h1
  go_wp2_with fail
  refine wp_region_later (by kernel_rfl) (by kernel_rfl) ?_
  repeat (go_big_quiet_step (fail))
  refine wpQuiet_nil ?_
  rintro w3 ⟨⟨W0, hb3⟩, rfl⟩
  have g2 : w3.cell? ⟨w.heap.size, 2, none⟩ = some (.int .i64 z) := cell_old hn2 hb3
  have g3 : w3.cell? ⟨w.heap.size + 1, 2, none⟩ = some (.int .u64 u) := cell_old hv2 hb3
  have g4 : w3.cell? ⟨w.heap.size + 1, 3, none⟩ = some (.string s) := cell_old hv3 hb3
  have hz3 : w.heap.size + 1 < w3.heap.size := by have := hb3.size; omega
  go_wp2_with fail
  have l3 : ∀ p : Later w3, p.W.cell? ⟨w.heap.size, 2, none⟩ = some (.int .i64 z) := later_cell g2
  have l4 : ∀ p : Later w3, p.W.cell? ⟨w.heap.size + 1, 2, none⟩ = some (.int .u64 u) := later_cell g3
  refine wp_region_later (by kernel_rfl) (by kernel_rfl) ?_
  repeat (go_big_quiet_step ((go_at_call 65; exact Calls.later (rmost_any _ _ hz))))
  refine wpQuiet_nil ?_
  rintro w4 ⟨⟨W0, hb4⟩, rfl⟩
  go_wp2_with fail
  go_ret
  exact ⟨rfl, (hb02.trans (hb3.mono hb02.size)).trans (hb4.mono (hb02.trans (hb3.mono hb02.size)).size)⟩
set_option maxRecDepth 100000 in
set_option maxHeartbeats 2000000 in
theorem rFits3_in (n : ByteArray) (z : Int) (nl : Bool) (i u : Int) (s : ByteArray) (w : World) (hn : n.size ≤ 9223372036854775807) (hc : colOk ⟨n, 3, z, nl⟩ = true) (h : chk 3 i u s = 0)  :
    Calls Tryz.prog 30 #[.agg #[.string n, .int .i64 3, .int .i64 z, .bool nl], .agg #[.int .i64 3, .int .i64 i, .int .u64 u, .string s]] w fun e w' => e = .returned (.int .i64 (0)) ∧ Below w.heap.size w w' := by
  have HC := Lib.hid (show ∀ W, Calls Tryz.prog 62 #[.agg #[.string n, .int .i64 3, .int .i64 z, .bool nl]] W fun e w' => e = .returned (.bool true) ∧ Below W.heap.size W w' from fun W => by have q := rcolumn_any ⟨n, 3, z, nl⟩ W hn; rw [hc] at q; exact q)
  clear hc hn
  go_enter Tryz.func30, Tryz.ntmps30
  go_wp2_with fail
  refine (HC.out _).mono ?_
  rintro e w1 ⟨rfl, hb1⟩
  have hb0 : Below w.heap.size w w1 := (boxes2 w _ _).trans (hb1.mono (by simp; omega))
  have hz1 : w.heap.size + 1 < w1.heap.size := by have := hb1.size; simp at this; omega
  have hz0 : w.heap.size < w1.heap.size := by omega
  have hn1 : w1.cell? ⟨w.heap.size, 1, none⟩ = some (.int .i64 3) := cell_old (by simp [go_sem]) hb1
  have hn2 : w1.cell? ⟨w.heap.size, 2, none⟩ = some (.int .i64 z) := cell_old (by simp [go_sem]) hb1
  have hn3 : w1.cell? ⟨w.heap.size, 3, none⟩ = some (.bool nl) := cell_old (by simp [go_sem]) hb1
  have hv0 : w1.cell? ⟨w.heap.size + 1, 0, none⟩ = some (.int .i64 3) := cell_old (by simp [go_sem]) hb1
  have hv1 : w1.cell? ⟨w.heap.size + 1, 1, none⟩ = some (.int .i64 i) := cell_old (by simp [go_sem]) hb1
  have hv2 : w1.cell? ⟨w.heap.size + 1, 2, none⟩ = some (.int .u64 u) := cell_old (by simp [go_sem]) hb1
  have hv3 : w1.cell? ⟨w.heap.size + 1, 3, none⟩ = some (.string s) := cell_old (by simp [go_sem]) hb1
  go_wp2_with fail
  refine (rCheck_any _ _ _ _ _).mono ?_
  rintro e w2 ⟨rfl, hb2⟩
  rw [h]
  have hb02 := hb0.trans (hb2.mono hb0.size)
  have hs2 := hb2.size
  have hn1 : w2.cell? ⟨w.heap.size, 1, none⟩ = some (.int .i64 3) := cell_old hn1 hb2
  have hn2 : w2.cell? ⟨w.heap.size, 2, none⟩ = some (.int .i64 z) := cell_old hn2 hb2
  have hn3 : w2.cell? ⟨w.heap.size, 3, none⟩ = some (.bool nl) := cell_old hn3 hb2
  have hv0 : w2.cell? ⟨w.heap.size + 1, 0, none⟩ = some (.int .i64 3) := cell_old hv0 hb2
  have hv1 : w2.cell? ⟨w.heap.size + 1, 1, none⟩ = some (.int .i64 i) := cell_old hv1 hb2
  have hv2 : w2.cell? ⟨w.heap.size + 1, 2, none⟩ = some (.int .u64 u) := cell_old hv2 hb2
  have hv3 : w2.cell? ⟨w.heap.size + 1, 3, none⟩ = some (.string s) := cell_old hv3 hb2
  have hz2 : w.heap.size + 1 < w2.heap.size := by omega
  clear h hb1 hb2 hb0 hz1 hz0 hs2
  go_wp2_with fail
  refine wp_region_later (by kernel_rfl) (by kernel_rfl) ?_
  repeat (go_big_quiet_step (fail))
  refine wpQuiet_nil ?_
  rintro w3 ⟨⟨W0, hb3⟩, rfl⟩
  have g2 : w3.cell? ⟨w.heap.size, 2, none⟩ = some (.int .i64 z) := cell_old hn2 hb3
  have g3 : w3.cell? ⟨w.heap.size + 1, 2, none⟩ = some (.int .u64 u) := cell_old hv2 hb3
  have g4 : w3.cell? ⟨w.heap.size + 1, 3, none⟩ = some (.string s) := cell_old hv3 hb3
  have hz3 : w.heap.size + 1 < w3.heap.size := by have := hb3.size; omega
  go_wp2_with fail
  refine wp_region_later (by kernel_rfl) (by kernel_rfl) ?_
  repeat (go_big_quiet_step (fail))
  refine wpQuiet_nil ?_
  rintro w4 ⟨⟨W0, hb4⟩, rfl⟩
  have k2 : w4.cell? ⟨w.heap.size, 2, none⟩ = some (.int .i64 z) := cell_old g2 hb4
  have k4 : w4.cell? ⟨w.heap.size + 1, 3, none⟩ = some (.string s) := cell_old g4 hb4
  go_wp2_with fail
  go_ret
  exact ⟨rfl, (hb02.trans (hb3.mono hb02.size)).trans (hb4.mono (hb02.trans (hb3.mono hb02.size)).size)⟩
set_option maxRecDepth 100000 in
set_option maxHeartbeats 2000000 in
theorem rFits4_in (n : ByteArray) (z : Int) (nl : Bool) (i u : Int) (s : ByteArray) (w : World) (hn : n.size ≤ 9223372036854775807) (hc : colOk ⟨n, 4, z, nl⟩ = true) (h : chk 4 i u s = 0) (h1 : (s.size : Int) ≤ z) :
    Calls Tryz.prog 30 #[.agg #[.string n, .int .i64 4, .int .i64 z, .bool nl], .agg #[.int .i64 4, .int .i64 i, .int .u64 u, .string s]] w fun e w' => e = .returned (.int .i64 (0)) ∧ Below w.heap.size w w' := by
  have HC := Lib.hid (show ∀ W, Calls Tryz.prog 62 #[.agg #[.string n, .int .i64 4, .int .i64 z, .bool nl]] W fun e w' => e = .returned (.bool true) ∧ Below W.heap.size W w' from fun W => by have q := rcolumn_any ⟨n, 4, z, nl⟩ W hn; rw [hc] at q; exact q)
  clear hc hn
  go_enter Tryz.func30, Tryz.ntmps30
  go_wp2_with fail
  refine (HC.out _).mono ?_
  rintro e w1 ⟨rfl, hb1⟩
  have hb0 : Below w.heap.size w w1 := (boxes2 w _ _).trans (hb1.mono (by simp; omega))
  have hz1 : w.heap.size + 1 < w1.heap.size := by have := hb1.size; simp at this; omega
  have hz0 : w.heap.size < w1.heap.size := by omega
  have hn1 : w1.cell? ⟨w.heap.size, 1, none⟩ = some (.int .i64 4) := cell_old (by simp [go_sem]) hb1
  have hn2 : w1.cell? ⟨w.heap.size, 2, none⟩ = some (.int .i64 z) := cell_old (by simp [go_sem]) hb1
  have hn3 : w1.cell? ⟨w.heap.size, 3, none⟩ = some (.bool nl) := cell_old (by simp [go_sem]) hb1
  have hv0 : w1.cell? ⟨w.heap.size + 1, 0, none⟩ = some (.int .i64 4) := cell_old (by simp [go_sem]) hb1
  have hv1 : w1.cell? ⟨w.heap.size + 1, 1, none⟩ = some (.int .i64 i) := cell_old (by simp [go_sem]) hb1
  have hv2 : w1.cell? ⟨w.heap.size + 1, 2, none⟩ = some (.int .u64 u) := cell_old (by simp [go_sem]) hb1
  have hv3 : w1.cell? ⟨w.heap.size + 1, 3, none⟩ = some (.string s) := cell_old (by simp [go_sem]) hb1
  go_wp2_with fail
  refine (rCheck_any _ _ _ _ _).mono ?_
  rintro e w2 ⟨rfl, hb2⟩
  rw [h]
  have hb02 := hb0.trans (hb2.mono hb0.size)
  have hs2 := hb2.size
  have hn1 : w2.cell? ⟨w.heap.size, 1, none⟩ = some (.int .i64 4) := cell_old hn1 hb2
  have hn2 : w2.cell? ⟨w.heap.size, 2, none⟩ = some (.int .i64 z) := cell_old hn2 hb2
  have hn3 : w2.cell? ⟨w.heap.size, 3, none⟩ = some (.bool nl) := cell_old hn3 hb2
  have hv0 : w2.cell? ⟨w.heap.size + 1, 0, none⟩ = some (.int .i64 4) := cell_old hv0 hb2
  have hv1 : w2.cell? ⟨w.heap.size + 1, 1, none⟩ = some (.int .i64 i) := cell_old hv1 hb2
  have hv2 : w2.cell? ⟨w.heap.size + 1, 2, none⟩ = some (.int .u64 u) := cell_old hv2 hb2
  have hv3 : w2.cell? ⟨w.heap.size + 1, 3, none⟩ = some (.string s) := cell_old hv3 hb2
  have hz2 : w.heap.size + 1 < w2.heap.size := by omega
  clear h hb1 hb2 hb0 hz1 hz0 hs2
  go_wp2_with fail
  refine wp_region_later (by kernel_rfl) (by kernel_rfl) ?_
  repeat (go_big_quiet_step (fail))
  refine wpQuiet_nil ?_
  rintro w3 ⟨⟨W0, hb3⟩, rfl⟩
  have g2 : w3.cell? ⟨w.heap.size, 2, none⟩ = some (.int .i64 z) := cell_old hn2 hb3
  have g3 : w3.cell? ⟨w.heap.size + 1, 2, none⟩ = some (.int .u64 u) := cell_old hv2 hb3
  have g4 : w3.cell? ⟨w.heap.size + 1, 3, none⟩ = some (.string s) := cell_old hv3 hb3
  have hz3 : w.heap.size + 1 < w3.heap.size := by have := hb3.size; omega
  go_wp2_with fail
  refine wp_region_later (by kernel_rfl) (by kernel_rfl) ?_
  repeat (go_big_quiet_step (fail))
  refine wpQuiet_nil ?_
  rintro w4 ⟨⟨W0, hb4⟩, rfl⟩
  have k2 : w4.cell? ⟨w.heap.size, 2, none⟩ = some (.int .i64 z) := cell_old g2 hb4
  have k4 : w4.cell? ⟨w.heap.size + 1, 3, none⟩ = some (.string s) := cell_old g4 hb4
  go_wp2_with fail
  go_ret
  exact ⟨rfl, (hb02.trans (hb3.mono hb02.size)).trans (hb4.mono (hb02.trans (hb3.mono hb02.size)).size)⟩
set_option maxRecDepth 100000 in
set_option maxHeartbeats 2000000 in
theorem rFits4_out (n : ByteArray) (z : Int) (nl : Bool) (i u : Int) (s : ByteArray) (w : World) (hn : n.size ≤ 9223372036854775807) (hc : colOk ⟨n, 4, z, nl⟩ = true) (h : chk 4 i u s = 0) (h1 : z < (s.size : Int)) :
    Calls Tryz.prog 30 #[.agg #[.string n, .int .i64 4, .int .i64 z, .bool nl], .agg #[.int .i64 4, .int .i64 i, .int .u64 u, .string s]] w fun e w' => e = .returned (.int .i64 (133)) ∧ Below w.heap.size w w' := by
  have HC := Lib.hid (show ∀ W, Calls Tryz.prog 62 #[.agg #[.string n, .int .i64 4, .int .i64 z, .bool nl]] W fun e w' => e = .returned (.bool true) ∧ Below W.heap.size W w' from fun W => by have q := rcolumn_any ⟨n, 4, z, nl⟩ W hn; rw [hc] at q; exact q)
  clear hc hn
  go_enter Tryz.func30, Tryz.ntmps30
  go_wp2_with fail
  refine (HC.out _).mono ?_
  rintro e w1 ⟨rfl, hb1⟩
  have hb0 : Below w.heap.size w w1 := (boxes2 w _ _).trans (hb1.mono (by simp; omega))
  have hz1 : w.heap.size + 1 < w1.heap.size := by have := hb1.size; simp at this; omega
  have hz0 : w.heap.size < w1.heap.size := by omega
  have hn1 : w1.cell? ⟨w.heap.size, 1, none⟩ = some (.int .i64 4) := cell_old (by simp [go_sem]) hb1
  have hn2 : w1.cell? ⟨w.heap.size, 2, none⟩ = some (.int .i64 z) := cell_old (by simp [go_sem]) hb1
  have hn3 : w1.cell? ⟨w.heap.size, 3, none⟩ = some (.bool nl) := cell_old (by simp [go_sem]) hb1
  have hv0 : w1.cell? ⟨w.heap.size + 1, 0, none⟩ = some (.int .i64 4) := cell_old (by simp [go_sem]) hb1
  have hv1 : w1.cell? ⟨w.heap.size + 1, 1, none⟩ = some (.int .i64 i) := cell_old (by simp [go_sem]) hb1
  have hv2 : w1.cell? ⟨w.heap.size + 1, 2, none⟩ = some (.int .u64 u) := cell_old (by simp [go_sem]) hb1
  have hv3 : w1.cell? ⟨w.heap.size + 1, 3, none⟩ = some (.string s) := cell_old (by simp [go_sem]) hb1
  go_wp2_with fail
  refine (rCheck_any _ _ _ _ _).mono ?_
  rintro e w2 ⟨rfl, hb2⟩
  rw [h]
  have hb02 := hb0.trans (hb2.mono hb0.size)
  have hs2 := hb2.size
  have hn1 : w2.cell? ⟨w.heap.size, 1, none⟩ = some (.int .i64 4) := cell_old hn1 hb2
  have hn2 : w2.cell? ⟨w.heap.size, 2, none⟩ = some (.int .i64 z) := cell_old hn2 hb2
  have hn3 : w2.cell? ⟨w.heap.size, 3, none⟩ = some (.bool nl) := cell_old hn3 hb2
  have hv0 : w2.cell? ⟨w.heap.size + 1, 0, none⟩ = some (.int .i64 4) := cell_old hv0 hb2
  have hv1 : w2.cell? ⟨w.heap.size + 1, 1, none⟩ = some (.int .i64 i) := cell_old hv1 hb2
  have hv2 : w2.cell? ⟨w.heap.size + 1, 2, none⟩ = some (.int .u64 u) := cell_old hv2 hb2
  have hv3 : w2.cell? ⟨w.heap.size + 1, 3, none⟩ = some (.string s) := cell_old hv3 hb2
  have hz2 : w.heap.size + 1 < w2.heap.size := by omega
  clear h hb1 hb2 hb0 hz1 hz0 hs2
  go_wp2_with fail
  refine wp_region_later (by kernel_rfl) (by kernel_rfl) ?_
  repeat (go_big_quiet_step (fail))
  refine wpQuiet_nil ?_
  rintro w3 ⟨⟨W0, hb3⟩, rfl⟩
  have g2 : w3.cell? ⟨w.heap.size, 2, none⟩ = some (.int .i64 z) := cell_old hn2 hb3
  have g3 : w3.cell? ⟨w.heap.size + 1, 2, none⟩ = some (.int .u64 u) := cell_old hv2 hb3
  have g4 : w3.cell? ⟨w.heap.size + 1, 3, none⟩ = some (.string s) := cell_old hv3 hb3
  have hz3 : w.heap.size + 1 < w3.heap.size := by have := hb3.size; omega
  go_wp2_with fail
  refine wp_region_later (by kernel_rfl) (by kernel_rfl) ?_
  repeat (go_big_quiet_step (fail))
  refine wpQuiet_nil ?_
  rintro w4 ⟨⟨W0, hb4⟩, rfl⟩
  have k2 : w4.cell? ⟨w.heap.size, 2, none⟩ = some (.int .i64 z) := cell_old g2 hb4
  have k4 : w4.cell? ⟨w.heap.size + 1, 3, none⟩ = some (.string s) := cell_old g4 hb4
  go_wp2_with fail
  go_ret
  exact ⟨rfl, (hb02.trans (hb3.mono hb02.size)).trans (hb4.mono (hb02.trans (hb3.mono hb02.size)).size)⟩
theorem rFits_any (c : Col) (v : Vl) (w : World) (hn : c.n.size ≤ 9223372036854775807) :
    Calls Tryz.prog 30 #[.agg #[.string c.n, .int .i64 c.t, .int .i64 c.z, .bool c.u], .agg #[.int .i64 v.k, .int .i64 v.i, .int .u64 v.u, .string v.s]] w fun e w' => e = .returned (.int .i64 (fitsN c v)) ∧ Below w.heap.size w w' := by
  obtain ⟨n, t, z, nl⟩ := c
  obtain ⟨k, i, u, s⟩ := v
  unfold fitsN
  simp only at hn ⊢
  cases hc : colOk ⟨n, t, z, nl⟩
  · exact rFits_col n t z nl k i u s w hn hc
  rw [if_pos rfl]
  have hsz : szOk t z = true := by unfold colOk at hc; rw [Bool.and_eq_true] at hc; exact hc.1
  unfold fitN Vl.chk
  simp only
  by_cases h0 : chk k i u s = 0
  · rw [if_neg (by simpa using h0)]
    by_cases hk : k = 0
    · subst hk
      rw [if_pos rfl]
      cases nl
      · exact rFits_nonull n t z i u s w hn hc h0
      · exact rFits_null n t z i u s w hn hc h0
    · rw [if_neg hk]
      by_cases ht : k = t
      · subst ht
        rw [if_neg (by simp)]
        rcases type_cases k with ht | rfl | rfl | rfl | rfl
        · rw [szOk_none ht] at hsz
          cases hsz
        · rw [show bnd 1 z ⟨1, i, u, s⟩ = (decide (leastI z ≤ i) && decide (i ≤ mostI z)) from rfl]
          by_cases h1 : leastI z ≤ i
          · by_cases h2 : i ≤ mostI z
            · rw [if_pos (by simp [h1, h2])]
              exact rFits1_in n z nl i u s w hn hc h0 hsz h1 h2
            · rw [if_neg (by simp [h2])]
              exact rFits1_high n z nl i u s w hn hc h0 hsz h1 (by omega)
          · rw [if_neg (by simp [h1])]
            exact rFits1_low n z nl i u s w hn hc h0 hsz (by omega)
        · rw [show bnd 2 z ⟨2, i, u, s⟩ = decide (u ≤ mostU z) from rfl]
          by_cases h1 : u ≤ mostU z
          · rw [if_pos (by simp [h1])]
            exact rFits2_in n z nl i u s w hn hc h0 hsz h1
          · rw [if_neg (by simp [h1])]
            exact rFits2_out n z nl i u s w hn hc h0 hsz (by omega)
        · exact rFits3_in n z nl i u s w hn hc h0
        · rw [show bnd 4 z ⟨4, i, u, s⟩ = decide ((s.size : Int) ≤ z) from rfl]
          by_cases h1 : (s.size : Int) ≤ z
          · rw [if_pos (by simp [h1])]
            exact rFits4_in n z nl i u s w hn hc h0 h1
          · rw [if_neg (by simp [h1])]
            exact rFits4_out n z nl i u s w hn hc h0 (by omega)
      · rw [if_pos ht]
        exact rFits_type n t z nl k i u s w hn hc h0 (by simpa using hk) (by simpa using ht)
  · rw [if_pos h0]
    exact rFits_chk n t z nl k i u s w hn hc _ rfl h0
end Go.Proofs.YtmgeefhacnadcaaGreatDoor
namespace Go.Proofs.YtmgeefhacnadcaaGreatDoor
open Go.RowKit

theorem setTo_succ (n : Nat) (l : List Int) (k : Nat) (x : Int) (hk : k < l.length) (hc : l[k] = x) : setTo n l (k + 1) = (setTo n l k && ((decide (0 ≤ x) && decide (x < n)) && !decide (firstI l x < k))) := by
  unfold setTo
  rw [List.range_succ, List.all_append]
  have e : l.getD k 0 = x := by rw [List.getD_eq_getElem?_getD, List.getElem?_eq_getElem hk, hc]; rfl
  simp only [List.all_cons, List.all_nil, Bool.and_true]
  unfold dupB
  rw [e]
theorem setOk_no (n : Nat) (l : List Int) (k : Nat) (x : Int) (hk : k < l.length) (hc : l[k] = x) (h : ((decide (0 ≤ x) && decide (x < n)) && !decide (firstI l x < k)) = false) : setOk n l = false := by
  have : setTo n l (k + 1) = false := by rw [setTo_succ n l k x hk hc, h, Bool.and_false]
  have : setTo n l l.length = false := by
    unfold setTo at *
    rw [List.all_eq_false] at *
    obtain ⟨x, hx, hp⟩ := this
    exact ⟨x, by rw [List.mem_range] at *; omega, hp⟩
  unfold setOk
  rw [this, Bool.and_false, Bool.and_false]

theorem held_drewN {B : Nat} {w W : World} (h : Below B w W) {n : Nat} : Below B w (W.drewN n) := ⟨h.os, h.tape, h.output, h.size, h.block⟩
set_option maxRecDepth 100000 in
set_option maxHeartbeats 4000000 in
theorem rset_any (ol : Option Addr) (cl : Nat) (l : List Int) (n : Nat) (w : World) (hl : l.length ≤ 1000) (hi : IntsIn w ol l) :
    Calls Tryz.prog 98 #[.slice ol l.length cl, .int .i64 n] w fun e w' => e = .returned (.bool (setOk n l)) ∧ Below w.heap.size w w' := by
  have HI := Lib.hid hi
  clear hi
  go_enter Tryz.func98, Tryz.ntmps98
  go_wp2
  go_loopw [5] (fun i wr => ∃ k : Nat, k ≤ l.length ∧ k ≤ 5 ∧ i = .int .i64 k ∧ Hid (setTo n l k = true) ∧ Hid (Below w.heap.size w wr)) (fun i _ => l.length - (intOf i).toNat)
  case atStart => exact ⟨0, Nat.zero_le _, by omega, rfl, Lib.hid rfl, Lib.hid (Below.refl _ _)⟩
  case round =>
    obtain ⟨k, hk, hk5, rfl, HK, HB⟩ := hrel
    by_cases hlt : k < l.length
    · by_cases h5 : k < 5
      · obtain ⟨x, hx⟩ : ∃ x, l[k] = x := ⟨_, rfl⟩
        obtain ⟨a, rfl, hat⟩ := HI.out.keep HB.out (Nat.le_refl _) k hlt
        rw [hx] at hat
        by_cases h0 : 0 ≤ x
        · by_cases h1 : x < n
          · have HX := Lib.hid hx
            clear hx
            go_wp2
            obtain ⟨wo, rfl⟩ : ∃ wo : World, wo = wr := ⟨_, rfl⟩
            go_loopw [6] (fun j wi => ∃ q : Nat, q ≤ k ∧ j = .int .i64 q ∧ Hid (FRelI l x q) ∧ Hid (Below w.heap.size w wi)) (fun j _ => k - (intOf j).toNat)
            case atStart => exact ⟨0, Nat.zero_le _, rfl, Lib.hid (FRelI.zero _ _), HB⟩
            case round =>
              clear hat
              obtain ⟨q, hq, rfl, HQ, HBI⟩ := hrel
              by_cases hqk : q < k
              · obtain ⟨y, hy⟩ : ∃ y, l[q] = y := ⟨_, rfl⟩
                have hat : wr.cell? (a.add k) = some (.int .i64 x) := by
                  obtain ⟨a1, e1, h1⟩ := HI.out.keep HBI.out (Nat.le_refl _) k hlt
                  cases e1
                  rw [HX.out] at h1
                  exact h1
                have hatq : wr.cell? (a.add q) = some (.int .i64 y) := by
                  obtain ⟨a1, e1, h1⟩ := HI.out.keep HBI.out (Nat.le_refl _) q (by omega)
                  cases e1
                  rw [hy] at h1
                  exact h1
                have b0 : (0 : Int) ≤ (q : Int) := by omega
                have b1 : (q : Int) < (l.length : Int) := by omega
                have b2 : (0 : Int) ≤ (k : Int) := by omega
                have b3 : (k : Int) < (l.length : Int) := by omega
                by_cases hxy : x = y
                · have HN := Lib.hid (setOk_no n l k x hlt HX.out (by rw [HQ.out.hit (by omega) hy hxy]; simp; omega))
                  have e1 : (y == x) = true := by simpa using hxy.symm
                  clear hy hxy
                  go_wp2
                  go_quiet (fail)
                  go_wp2
                  go_ret
                  exact ⟨by rw [HN.out]; rfl, held_drewN HBI.out⟩
                · have HN := Lib.hid (HQ.out.next (by omega) hy hxy)
                  have e1 : (y == x) = false := by rw [beq_eq_false_iff_ne]; exact fun h => hxy h.symm
                  clear hy hxy
                  go_wp2
                  go_quiet (fail)
                  go_wp2
                  go_roundw
                  case rel => exact ⟨q + 1, by omega, by go_num, HN, Lib.hid (held_drewN HBI.out)⟩
                  case measure => simp [intOf]; omega
              · obtain rfl : q = k := by omega
                have HN := Lib.hid (show setTo n l (q + 1) = true by rw [setTo_succ n l q x hlt HX.out, HK.out, HQ.out.hit hlt HX.out rfl]; simp [h0, h1])
                go_wp2
                go_roundw
                case rel => exact ⟨q + 1, by omega, by omega, by go_num, HN, HBI⟩
                case measure => simp [intOf]; omega
          · have HN := Lib.hid (setOk_no n l k x hlt hx (by rw [show decide (x < (n : Int)) = false by simp; omega]; simp))
            clear hx
            go_wp2
            go_ret
            exact ⟨by rw [HN.out]; rfl, HB.out⟩
        · have HN := Lib.hid (setOk_no n l k x hlt hx (by rw [show decide (0 ≤ x) = false by simp; omega]; simp))
          clear hx
          go_wp2
          go_ret
          exact ⟨by rw [HN.out]; rfl, HB.out⟩
      · have HN := Lib.hid (show setOk n l = false by unfold setOk; rw [show decide (l.length ≤ 4) = false by simp; omega]; simp)
        have hd : decide ((l.length : Int) ≤ 4) = false := by rw [decide_eq_false_iff_not]; omega
        go_wp2
        go_ret
        exact ⟨by rw [HN.out]; rfl, HB.out⟩
    · obtain rfl : k = l.length := by omega
      by_cases h1 : 1 ≤ l.length
      · by_cases h4 : l.length ≤ 4
        · have HN := Lib.hid (show setOk n l = true by unfold setOk; rw [HK.out]; simp [h1, h4])
          have hd : decide ((l.length : Int) ≤ 4) = true := by rw [decide_eq_true_eq]; omega
          go_wp2
          go_ret
          exact ⟨by rw [HN.out]; rfl, HB.out⟩
        · have HN := Lib.hid (show setOk n l = false by unfold setOk; rw [show decide (l.length ≤ 4) = false by simp; omega]; simp)
          have hd : decide ((l.length : Int) ≤ 4) = false := by rw [decide_eq_false_iff_not]; omega
          go_wp2
          go_ret
          exact ⟨by rw [HN.out]; rfl, HB.out⟩
      · have HN := Lib.hid (show setOk n l = false by unfold setOk; rw [show decide (1 ≤ l.length) = false by rw [decide_eq_false_iff_not]; exact h1]; simp)
        go_wp2
        go_ret
        exact ⟨by rw [HN.out]; rfl, HB.out⟩

def uqsTo (S : Sch) (k : Nat) : Bool := (List.range k).all fun i => setOk S.cols.length (S.uqs.getD i [])
theorem uqsTo_succ (S : Sch) (k : Nat) (l : List Int) (hk : k < S.uqs.length) (hc : S.uqs[k] = l) : uqsTo S (k + 1) = (uqsTo S k && setOk S.cols.length l) := by
  unfold uqsTo
  rw [List.range_succ, List.all_append]
  have e : S.uqs.getD k [] = l := by rw [List.getD_eq_getElem?_getD, List.getElem?_eq_getElem hk, hc]; rfl
  simp only [List.all_cons, List.all_nil, Bool.and_true]
  rw [e]
theorem uqsTo_no (S : Sch) (k : Nat) (l : List Int) (hk : k < S.uqs.length) (hc : S.uqs[k] = l) (h : setOk S.cols.length l = false) : uqsTo S S.uqs.length = false := by
  have : uqsTo S (k + 1) = false := by rw [uqsTo_succ S k l hk hc, h, Bool.and_false]
  unfold uqsTo at *
  rw [List.all_eq_false] at *
  obtain ⟨x, hx, hp⟩ := this
  exact ⟨x, by rw [List.mem_range] at *; omega, hp⟩
theorem setsTo_eq (S : Sch) : ∀ m, setsTo S (1 + m) = ((setOk S.cols.length S.key && nullTo S.cols S.key S.key.length) && uqsTo S m)
  | 0 => by
    rw [show 1 + 0 = 0 + 1 from rfl, setsTo_succ]
    show (true && okSet S.cols true S.key) = _
    rw [okSet_eq]
    simp [uqsTo]
  | m + 1 => by
    rw [show 1 + (m + 1) = (1 + m) + 1 from rfl, setsTo_succ, setsTo_eq S m]
    have e : uqsTo S (m + 1) = (uqsTo S m && setOk S.cols.length (S.uqs.getD m [])) := by
      unfold uqsTo
      rw [List.range_succ, List.all_append]
      simp
    rw [e, okSet_eq, show ((1 + m == 0) = false) by simp, show setAt S (1 + m) = S.uqs.getD m [] by unfold setAt; rw [if_neg (by omega), show 1 + m - 1 = m by omega]]
    simp [Bool.and_assoc]
def lensOk (S : Sch) : Bool := decide (1 ≤ S.cols.length) && (decide (S.cols.length ≤ 8) && decide (S.uqs.length ≤ 3))
theorem schOk_eq (S : Sch) : schOk S = (lensOk S && (colsTo S.cols S.cols.length && ((setOk S.cols.length S.key && nullTo S.cols S.key S.key.length) && uqsTo S S.uqs.length))) := by
  unfold schOk lensOk
  rw [setsTo_eq]
theorem nullTo_succ (cols : List Col) (l : List Int) (k : Nat) (x : Int) (c : Col) (hk : k < l.length) (hx : l[k] = x) (hc : cols.getD x.toNat col0 = c) : nullTo cols l (k + 1) = (nullTo cols l k && !c.u) := by
  unfold nullTo
  rw [List.range_succ, List.all_append]
  have e : l.getD k 0 = x := by rw [List.getD_eq_getElem?_getD, List.getElem?_eq_getElem hk, hx]; rfl
  simp only [List.all_cons, List.all_nil, Bool.and_true]
  unfold nullAt
  rw [e, hc]
theorem nullTo_no (cols : List Col) (l : List Int) (k : Nat) (x : Int) (c : Col) (hk : k < l.length) (hx : l[k] = x) (hc : cols.getD x.toNat col0 = c) (h : c.u = true) : nullTo cols l l.length = false := by
  have : nullTo cols l (k + 1) = false := by rw [nullTo_succ cols l k x c hk hx hc, h]; simp
  unfold nullTo at *
  rw [List.all_eq_false] at *
  obtain ⟨x, hx, hp⟩ := this
  exact ⟨x, by rw [List.mem_range] at *; omega, hp⟩
theorem setOk_range {n : Nat} {l : List Int} (h : setOk n l = true) {k : Nat} (hk : k < l.length) : 0 ≤ l[k] ∧ l[k] < n := by
  unfold setOk setTo at h
  simp only [Bool.and_eq_true, List.all_eq_true, List.mem_range] at h
  have := (h.2.2 k hk).1
  rw [List.getD_eq_getElem?_getD, List.getElem?_eq_getElem hk] at this
  simpa using this

set_option maxRecDepth 100000 in
set_option maxHeartbeats 8000000 in
theorem rRight_any (p : SchV) (S : Sch) (w : World) (hnm : ∀ c ∈ S.cols, c.n.size ≤ 9223372036854775807) (hcl : S.cols.length ≤ 1000) (hul : S.uqs.length ≤ 1000) (hkl : S.key.length ≤ 1000) (hpl : ∀ l ∈ S.uqs, l.length ≤ 1000) (hS : SchIn w p S) :
    Calls Tryz.prog 61 #[.agg #[.slice p.oc S.cols.length p.cc, .slice p.ok S.key.length p.ck, .slice p.ou S.uqs.length p.cu]] w fun e w' => e = .returned (.bool (schOk S)) ∧ Below w.heap.size w w' := by
  have HOK := Lib.hid (schOk_eq S)
  have HNM := Lib.hid hnm
  have HPL := Lib.hid hpl
  have HC := Lib.hid hS.cols
  have HK := Lib.hid hS.key
  have HU := Lib.hid hS.uqs
  clear hnm hpl hS
  obtain ⟨oc, cc, ok, ck, ou, cu⟩ := p
  obtain ⟨cols, key, uqs⟩ := S
  simp only at *
  have HRK : Hid (∀ W', Below w.heap.size w W' → Calls Tryz.prog 98 #[.slice ok key.length ck, .int .i64 cols.length] W' fun e w' => e = .returned (.bool (setOk cols.length key)) ∧ Below W'.heap.size W' w') := Lib.hid (fun W' hb => rset_any ok ck key cols.length W' hkl (HK.out.keep hb (Nat.le_refl _)))
  by_cases hl : 1 ≤ cols.length ∧ cols.length ≤ 8 ∧ uqs.length ≤ 3
  · obtain ⟨l1, l2, l3⟩ := hl
    have HLN := Lib.hid (show lensOk ⟨cols, key, uqs⟩ = true by unfold lensOk; simp [l1, l2, l3])
    cases hks : setOk cols.length key
    · have HN := Lib.hid (show schOk ⟨cols, key, uqs⟩ = false by rw [HOK.out, hks]; simp)
      have HQ := Lib.hid hks
      clear hks
      go_enter Tryz.func61, Tryz.ntmps61
      go_wp2_with (first | (go_at_call 98; refine (HRK.out _ ((Below.refl _ _).alloc (Nat.le_refl _) _)).mono ?_; rintro e w3 ⟨he, hb3⟩; rw [HQ.out] at he; subst he))
      go_ret
      exact ⟨by rw [HN.out]; rfl, ((Below.refl _ _).alloc (Nat.le_refl _) _).trans (hb3.mono (by simp))⟩
    · have HQ := Lib.hid hks
      have HOK2 := Lib.hid (show schOk ⟨cols, key, uqs⟩ = (colsTo cols cols.length && (nullTo cols key key.length && uqsTo ⟨cols, key, uqs⟩ uqs.length)) by rw [HOK.out, HLN.out, hks]; rfl)
      clear hks
      go_enter Tryz.func61, Tryz.ntmps61
      go_wp2_with fail
      obtain ⟨W1, hW1⟩ : ∃ W1, w.alloc (.cells #[.slice oc cols.length cc, .slice ok key.length ck, .slice ou uqs.length cu] 101) = W1 := ⟨_, rfl⟩
      have hb1 : Below w.heap.size w W1 := by rw [← hW1]; exact (Below.refl _ _).alloc (Nat.le_refl _) _
      have hs1 : w.heap.size < W1.heap.size := by rw [← hW1]; simp
      have k0 : W1.cell? ⟨w.heap.size, 0, none⟩ = some (.slice oc cols.length cc) := by rw [← hW1]; simp [go_sem]
      have k1 : W1.cell? ⟨w.heap.size, 1, none⟩ = some (.slice ok key.length ck) := by rw [← hW1]; simp [go_sem]
      have k2 : W1.cell? ⟨w.heap.size, 2, none⟩ = some (.slice ou uqs.length cu) := by rw [← hW1]; simp [go_sem]
      rw [hW1]
      have HB1 := Lib.hid hb1
      clear hW1 hb1
      refine (HRK.out _ HB1.out).mono ?_
      rintro e w2 ⟨he, hb2⟩
      rw [HQ.out] at he
      subst he
      have HB2 := Lib.hid hb2
      have hs2 := hb2.size
      have n0 : w2.cell? ⟨w.heap.size, 0, none⟩ = some (.slice oc cols.length cc) := cell_old k0 hb2
      have n1 : w2.cell? ⟨w.heap.size, 1, none⟩ = some (.slice ok key.length ck) := cell_old k1 hb2
      have n2 : w2.cell? ⟨w.heap.size, 2, none⟩ = some (.slice ou uqs.length cu) := cell_old k2 hb2
      clear hb2
      have HX0 : Hid (∀ W', Below W1.heap.size W1 W' → W'.cell? ⟨w.heap.size, 0, none⟩ = some (.slice oc cols.length cc) ∧ W'.cell? ⟨w.heap.size, 1, none⟩ = some (.slice ok key.length ck) ∧ W'.cell? ⟨w.heap.size, 2, none⟩ = some (.slice ou uqs.length cu) ∧ w.heap.size < W'.heap.size) := Lib.hid (fun W' hb => ⟨cell_old k0 hb, cell_old k1 hb, cell_old k2 hb, by have := hb.size; omega⟩)
      clear k0 k1 k2
      go_wp2_with fail
      go_loopw [4] (fun i wr => ∃ k : Nat, k ≤ cols.length ∧ i = .int .i64 k ∧ Hid (colsTo cols k = true) ∧ Hid (Below W1.heap.size W1 wr)) (fun i _ => cols.length - (intOf i).toNat)
      case atStart => exact ⟨0, Nat.zero_le _, rfl, Lib.hid rfl, HB2⟩
      case round =>
        clear n0 n1 n2 hs2
        obtain ⟨k, hk, rfl, HCT, HB⟩ := hrel
        obtain ⟨m0, m1, m2, m3⟩ := HX0.out wr HB.out
        have HBW := Lib.hid (HB1.out.trans (HB.out.mono HB1.out.size))
        by_cases hlt : k < cols.length
        · obtain ⟨a, rfl, hat⟩ := HC.out.keep HBW.out (Nat.le_refl _) k hlt
          obtain ⟨c, hc⟩ : ∃ c, cols[k] = c := ⟨_, rfl⟩
          rw [hc] at hat
          have hal := hat.lt
          obtain ⟨q0, q1, q2, q3⟩ := hat
          have HRC := Lib.hid (rcolumn_any c wr (HNM.out c (hc ▸ List.getElem_mem hlt)))
          have HCC := Lib.hid hc
          cases hok : colOk c
          · have HN := Lib.hid (show schOk ⟨cols, key, uqs⟩ = false by rw [HOK2.out, colsTo_no cols k c hlt hc (by rw [hok]; rfl)]; rfl)
            have HO := Lib.hid hok
            clear hok hc
            go_wp2_with (first | (go_at_call 62; refine HRC.out.mono ?_; rintro e w3 ⟨he, hb3⟩; rw [HO.out] at he; subst he))
            go_ret
            exact ⟨by rw [HN.out]; rfl, HBW.out.trans (hb3.mono HBW.out.size)⟩
          · have HO := Lib.hid hok
            clear hok hc
            go_wp2_with fail
            refine HRC.out.mono ?_
            rintro e w3 ⟨he, hb3⟩
            rw [HO.out] at he
            subst he
            have HB3 := Lib.hid (HB.out.trans (hb3.mono HB.out.size))
            clear hb3 HRC
            go_wp2_with fail
            clear m0 m1 m2 m3 q0 q1 q2 q3 hal
            go_loopw [5] (fun j wi => ∃ q : Nat, q ≤ k ∧ j = .int .i64 q ∧ Hid (FRel cols c.n q) ∧ Hid (Below W1.heap.size W1 wi)) (fun j _ => k - (intOf j).toNat)
            case atStart => exact ⟨0, Nat.zero_le _, rfl, Lib.hid (FRel.zero _ _), HB3⟩
            case round =>
              obtain ⟨q, hq, rfl, HFR, HBI⟩ := hrel
              obtain ⟨m0, m1, m2, m3⟩ := HX0.out _ HBI.out
              have HBX := Lib.hid (HB1.out.trans (HBI.out.mono HB1.out.size))
              by_cases hqk : q < k
              · obtain ⟨cq, hcq⟩ : ∃ cq, cols[q] = cq := ⟨_, rfl⟩
                obtain ⟨a1, e1, hat1⟩ := HC.out.keep HBX.out (Nat.le_refl _) k hlt
                obtain ⟨a2, e2, hat2⟩ := HC.out.keep HBX.out (Nat.le_refl _) q (by omega)
                cases e1
                cases e2
                rw [HCC.out] at hat1
                rw [hcq] at hat2
                have hal1 := hat1.lt
                have hal2 := hat2.lt
                have r1 := hat1.1
                have r2 := hat2.1
                have b0 : (0 : Int) ≤ (q : Int) := by omega
                have b1 : (q : Int) < (cols.length : Int) := by omega
                have b2 : (0 : Int) ≤ (k : Int) := by omega
                have b3 : (k : Int) < (cols.length : Int) := by omega
                clear hat1 hat2
                cases hn : isN c.n cq
                · have HN := Lib.hid (HFR.out.next (by omega) hcq hn)
                  have e1 : (cq.n.toList == c.n.toList) = false := hn
                  clear hn hcq
                  go_wp2
                  go_quiet (fail)
                  go_wp2
                  go_roundw
                  case rel => exact ⟨q + 1, by omega, by go_num, HN, Lib.hid (held_drewN HBI.out)⟩
                  case measure => simp [intOf]; omega
                · have HN := Lib.hid (show schOk ⟨cols, key, uqs⟩ = false by rw [HOK2.out, colsTo_no cols k c hlt HCC.out (by rw [HFR.out.hit (by omega) hcq hn, HO.out]; simp; omega)]; rfl)
                  have e1 : (cq.n.toList == c.n.toList) = true := hn
                  clear hn hcq
                  go_wp2
                  go_quiet (fail)
                  go_wp2
                  go_ret
                  exact ⟨by rw [HN.out]; rfl, held_drewN HBX.out⟩
              · obtain rfl : q = k := by omega
                have HN := Lib.hid (show colsTo cols (q + 1) = true by rw [colsTo_succ cols q c hlt HCC.out, HCT.out, HO.out, HFR.out.hit hlt HCC.out (by unfold isN; simp)]; simp)
                go_wp2
                go_roundw
                case rel => exact ⟨q + 1, by omega, by go_num, HN, HBI⟩
                case measure => simp [intOf]; omega
        · obtain rfl : k = cols.length := by omega
          have HOK3 := Lib.hid (show schOk ⟨cols, key, uqs⟩ = (nullTo cols key key.length && uqsTo ⟨cols, key, uqs⟩ uqs.length) by rw [HOK2.out, HCT.out]; rfl)
          go_wp2_with fail
          clear m0 m1 m2 m3
          go_loopw [6] (fun j wi => ∃ q : Nat, q ≤ key.length ∧ j = .int .i64 q ∧ Hid (nullTo cols key q = true) ∧ Hid (Below W1.heap.size W1 wi)) (fun j _ => key.length - (intOf j).toNat)
          case atStart => exact ⟨0, Nat.zero_le _, rfl, Lib.hid rfl, HB⟩
          case round =>
            obtain ⟨q, hq, rfl, HNT, HBI⟩ := hrel
            obtain ⟨m0, m1, m2, m3⟩ := HX0.out _ HBI.out
            have HBX := Lib.hid (HB1.out.trans (HBI.out.mono HB1.out.size))
            by_cases hqk : q < key.length
            · obtain ⟨x, hx⟩ : ∃ x, key[q] = x := ⟨_, rfl⟩
              have hrg := setOk_range HQ.out hqk
              rw [hx] at hrg
              obtain ⟨g0, g1⟩ := hrg
              obtain ⟨m, rfl⟩ := Int.eq_ofNat_of_zero_le g0
              have hm : m < cols.length := by omega
              obtain ⟨c, hc⟩ : ∃ c, cols[m] = c := ⟨_, rfl⟩
              have hcd : cols.getD (Int.toNat (m : Int)) col0 = c := by rw [Int.toNat_natCast, List.getD_eq_getElem?_getD, List.getElem?_eq_getElem hm, hc]; rfl
              obtain ⟨a1, rfl, hat1⟩ := HC.out.keep HBX.out (Nat.le_refl _) m hm
              obtain ⟨a2, rfl, hat2⟩ := HK.out.keep HBX.out (Nat.le_refl _) q hqk
              rw [hc] at hat1
              rw [hx] at hat2
              have hal1 := hat1.lt
              have hal2 := World.block_lt_of_cell? _ _ hat2
              have r1 := hat1.2.2.2
              have b0 : (0 : Int) ≤ (q : Int) := by omega
              have b1 : (q : Int) < (key.length : Int) := by omega
              clear hat1
              cases hu : c.u
              · have HN := Lib.hid (show nullTo cols key (q + 1) = true by rw [nullTo_succ cols key q m c hqk hx hcd, HNT.out, hu]; rfl)
                rw [hu] at r1
                clear hx hc hcd
                go_wp2
                go_quiet (fail)
                go_wp2
                go_roundw
                case rel => exact ⟨q + 1, by omega, by go_num, HN, Lib.hid (held_drewN HBI.out)⟩
                case measure => simp [intOf]; omega
              · have HN := Lib.hid (show schOk ⟨cols, key, uqs⟩ = false by rw [HOK3.out, nullTo_no cols key q m c hqk hx hcd hu]; rfl)
                rw [hu] at r1
                clear hx hc hcd
                go_wp2
                go_quiet (fail)
                go_wp2
                go_ret
                exact ⟨by rw [HN.out]; rfl, held_drewN HBX.out⟩
            · obtain rfl : q = key.length := by omega
              have HOK4 := Lib.hid (show schOk ⟨cols, key, uqs⟩ = uqsTo ⟨cols, key, uqs⟩ uqs.length by rw [HOK3.out, HNT.out]; rfl)
              go_wp2_with fail
              clear m0 m1 m2 m3
              go_loopw [7] (fun j wi => ∃ q : Nat, q ≤ uqs.length ∧ j = .int .i64 q ∧ Hid (uqsTo ⟨cols, key, uqs⟩ q = true) ∧ Hid (Below W1.heap.size W1 wi)) (fun j _ => uqs.length - (intOf j).toNat)
              case atStart => exact ⟨0, Nat.zero_le _, rfl, Lib.hid rfl, HBI⟩
              case round =>
                obtain ⟨u, hu, rfl, HUT, HBU⟩ := hrel
                obtain ⟨m0, m1, m2, m3⟩ := HX0.out _ HBU.out
                have HBY := Lib.hid (HB1.out.trans (HBU.out.mono HB1.out.size))
                by_cases huk : u < uqs.length
                · obtain ⟨l, hul2⟩ : ∃ l, uqs[u] = l := ⟨_, rfl⟩
                  obtain ⟨a1, ob, cb, rfl, hat1, _, hil⟩ := HU.out.keep HBY.out (Nat.le_refl _) u huk
                  rw [hul2] at hat1 hil
                  have hal1 := World.block_lt_of_cell? _ _ hat1
                  have HRS := Lib.hid (rset_any ob cb l cols.length _ (HPL.out l (hul2 ▸ List.getElem_mem huk)) hil)
                  clear hil
                  cases hsl : setOk cols.length l
                  · have HN := Lib.hid (show schOk ⟨cols, key, uqs⟩ = false by rw [HOK4.out]; exact uqsTo_no ⟨cols, key, uqs⟩ u l huk hul2 hsl)
                    have HSL := Lib.hid hsl
                    clear hsl hul2
                    go_wp2_with (first | (go_at_call 98; refine HRS.out.mono ?_; rintro e w3 ⟨he, hb3⟩; rw [HSL.out] at he; subst he))
                    go_ret
                    exact ⟨by rw [HN.out]; rfl, HBY.out.trans (hb3.mono HBY.out.size)⟩
                  · have HN := Lib.hid (show uqsTo ⟨cols, key, uqs⟩ (u + 1) = true by rw [uqsTo_succ ⟨cols, key, uqs⟩ u l huk hul2, HUT.out]; exact hsl)
                    have HSL := Lib.hid hsl
                    clear hsl hul2
                    go_wp2_with (first | (go_at_call 98; refine HRS.out.mono ?_; rintro e w3 ⟨he, hb3⟩; rw [HSL.out] at he; subst he))
                    have HB9 := Lib.hid (HBU.out.trans (hb3.mono HBU.out.size))
                    clear hb3
                    go_roundw
                    case rel => exact ⟨u + 1, by omega, by go_num, HN, HB9⟩
                    case measure => simp [intOf]; omega
                · obtain rfl : u = uqs.length := by omega
                  have HN := Lib.hid (HOK4.out.trans HUT.out)
                  go_wp2_with fail
                  go_ret
                  exact ⟨by rw [HN.out]; rfl, HBY.out⟩
  · have HN := Lib.hid (show schOk ⟨cols, key, uqs⟩ = false by
      rw [HOK.out, show lensOk ⟨cols, key, uqs⟩ = false by
        rw [Bool.eq_false_iff]; intro h; apply hl; unfold lensOk at h; simpa [and_assoc] using h]
      rfl)
    have hdis : cols.length < 1 ∨ 8 < cols.length ∨ 3 < uqs.length := by omega
    clear hl
    go_enter Tryz.func61, Tryz.ntmps61
    go_wp2_with fail
    all_goals first
      | (exfalso; omega)
      | (go_ret; exact ⟨by rw [HN.out]; rfl, by go_grown⟩)
end Go.Proofs.YtmgeefhacnadcaaGreatDoor
