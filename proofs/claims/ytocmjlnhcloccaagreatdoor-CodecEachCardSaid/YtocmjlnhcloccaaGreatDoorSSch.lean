/-
  schema: what may be; and swingbridgeref03's.
-/
import Derived.Test.YtocmjlnhcloccaaGreatDoorSCol
import Derived.Test.YtocmjlnhcloccaaGreatDoorVVl
import Derived.Test.YtocmjlnhcloccaaGreatDoorBelowQ
import Derived.Deep.OwnRows
import Derived.Test.YtocmjlnhcloccaaGreatDoorBase
import Derived.RangeFuncNested
import Derived.RangeFuncBound
import Derived.RangeFuncCalls
import Derived.RangeFuncLeaves
import Derived.Shelf.Abstract
import Derived.Shelf.RegionOpen
import Derived.OwnWalkIn
import Derived.TacticsInMore
import Derived.LoopNIn
import Derived.LoopIn
import Derived.Scope
import Derived.Test.YtocmjlnhcloccaaGreatDoorSFits
namespace Go.Proofs.YtocmjlnhcloccaaGreatDoor
open Go.RowKit

def ColAt (w : World) (a : Addr) (c : Col) : Prop := w.cell? a = some (.string c.n) ∧ w.cell? ⟨a.block, a.off + 1, none⟩ = some (.int .i64 c.t) ∧ w.cell? ⟨a.block, a.off + 2, none⟩ = some (.int .i64 c.z) ∧ w.cell? ⟨a.block, a.off + 3, none⟩ = some (.bool c.u)
def ColsIn (w : World) (oa : Option Addr) (l : List Col) : Prop := ∀ (j : Nat) (h : j < l.length), ∃ a, oa = some a ∧ ColAt w (a.add (j * 4)) l[j]
def IntsIn (w : World) (oa : Option Addr) (l : List Int) : Prop := ∀ (j : Nat) (h : j < l.length), ∃ a, oa = some a ∧ w.cell? (a.add j) = some (.int .i64 l[j])
def SetsIn (w : World) (oa : Option Addr) (l : List (List Int)) : Prop := ∀ (j : Nat) (h : j < l.length), ∃ a ob cb, oa = some a ∧ w.cell? (a.add j) = some (.slice ob l[j].length cb) ∧ l[j].length ≤ cb ∧ IntsIn w ob l[j]

theorem ColAt.lt {w : World} {a : Addr} {c : Col} (h : ColAt w a c) : a.block < w.heap.size := World.block_lt_of_cell? w a h.1
theorem ColAt.keep {w w' : World} {B : Nat} {a : Addr} {c : Col} (h : ColAt w a c) (hb : Below B w w') (hB : w.heap.size ≤ B) : ColAt w' a c := by
  have hl := h.lt
  refine ⟨?_, ?_, ?_, ?_⟩
  · rw [hb.cell (by omega)]; exact h.1
  · rw [hb.cell (by simp; omega)]; exact h.2.1
  · rw [hb.cell (by simp; omega)]; exact h.2.2.1
  · rw [hb.cell (by simp; omega)]; exact h.2.2.2
theorem ColsIn.keep {w w' : World} {B : Nat} {oa : Option Addr} {l : List Col} (h : ColsIn w oa l) (hb : Below B w w') (hB : w.heap.size ≤ B) : ColsIn w' oa l := fun j hj => by
  obtain ⟨a, e, hc⟩ := h j hj
  exact ⟨a, e, hc.keep hb hB⟩
theorem IntsIn.keep {w w' : World} {B : Nat} {oa : Option Addr} {l : List Int} (h : IntsIn w oa l) (hb : Below B w w') (hB : w.heap.size ≤ B) : IntsIn w' oa l := fun j hj => by
  obtain ⟨a, e, hc⟩ := h j hj
  refine ⟨a, e, ?_⟩
  rw [hb.cell (by have := World.block_lt_of_cell? w _ hc; omega)]
  exact hc
theorem SetsIn.keep {w w' : World} {B : Nat} {oa : Option Addr} {l : List (List Int)} (h : SetsIn w oa l) (hb : Below B w w') (hB : w.heap.size ≤ B) : SetsIn w' oa l := fun j hj => by
  obtain ⟨a, ob, cb, e, hc, hl, hi⟩ := h j hj
  refine ⟨a, ob, cb, e, ?_, hl, hi.keep hb hB⟩
  rw [hb.cell (by have := World.block_lt_of_cell? w _ hc; omega)]
  exact hc

/-- a schema -/
structure Sch where
  cols : List Col
  key : List Int
  uqs : List (List Int)
/-- a schema's value: where its lists lie -/
structure SchV where
  oc : Option Addr
  cc : Nat
  ok : Option Addr
  ck : Nat
  ou : Option Addr
  cu : Nat
def SchV.cols (p : SchV) (S : Sch) : Value := .slice p.oc S.cols.length p.cc
def SchV.key (p : SchV) (S : Sch) : Value := .slice p.ok S.key.length p.ck
def SchV.uqs (p : SchV) (S : Sch) : Value := .slice p.ou S.uqs.length p.cu
structure SchIn (w : World) (p : SchV) (S : Sch) : Prop where
  cols : ColsIn w p.oc S.cols
  key : IntsIn w p.ok S.key
  uqs : SetsIn w p.ou S.uqs
  kcap : S.key.length ≤ p.ck
theorem SchIn.keep {w w' : World} {B : Nat} {p : SchV} {S : Sch} (h : SchIn w p S) (hb : Below B w w') (hB : w.heap.size ≤ B) : SchIn w' p S :=
  ⟨h.cols.keep hb hB, h.key.keep hb hB, h.uqs.keep hb hB, h.kcap⟩
/-- no more than is looked at -/
structure Sch.few (S : Sch) : Prop where
  cols : S.cols.length ≤ 12
  names : ∀ c ∈ S.cols, c.n.size ≤ 40
  key : S.key.length ≤ 8
  uqs : S.uqs.length ≤ 6
  places : ∀ l ∈ S.uqs, l.length ≤ 8

def isN (name : ByteArray) (c : Col) : Bool := c.n.toList == name.toList
def firstFrom (name : ByteArray) : List Col → Int → Int
  | [], _ => -1
  | c :: l, i => if isN name c = true then i else firstFrom name l (i + 1)
/-- the place of the first column of that name; -1 -/
def firstC (l : List Col) (name : ByteArray) : Int := firstFrom name l 0
def FRel (l : List Col) (name : ByteArray) (k : Nat) : Prop := firstC l name = firstFrom name (l.drop k) k
theorem FRel.zero (l : List Col) (name : ByteArray) : FRel l name 0 := rfl
theorem FRel.next {l : List Col} {name : ByteArray} {k : Nat} {c : Col} (h : FRel l name k) (hk : k < l.length) (hc : l[k] = c) (hn : isN name c = false) : FRel l name (k + 1) := by
  unfold FRel at *
  rw [h, List.drop_eq_getElem_cons hk, hc]
  simp [firstFrom, hn]
theorem FRel.hit {l : List Col} {name : ByteArray} {k : Nat} {c : Col} (h : FRel l name k) (hk : k < l.length) (hc : l[k] = c) (hn : isN name c = true) : firstC l name = k := by
  unfold FRel at *
  rw [h, List.drop_eq_getElem_cons hk, hc]
  simp [firstFrom, hn]
theorem FRel.none {l : List Col} {name : ByteArray} {k : Nat} (h : FRel l name k) (hk : l.length ≤ k) : firstC l name = -1 := by
  unfold FRel at *
  rw [h, List.drop_eq_nil_of_le hk]
  rfl

set_option maxHeartbeats 400000 in
theorem first1_any (n : ByteArray) (t z : Int) (u : Bool) (p : Nat) (name : ByteArray) (w : World) (h0 : w.cell? ⟨p, 0, none⟩ = some (.string name)) :
    Calls Tryz.prog 138 #[.agg #[.string n, .int .i64 t, .int .i64 z, .bool u], .pointer (some ⟨p, 0, none⟩)] w fun e w' => e = .returned (.bool (isN name ⟨n, t, z, u⟩)) ∧ Below w.heap.size w w' := by
  have hp := cell_lt h0
  unfold isN
  cases hb : n.toList == name.toList
  all_goals
    go_enter Tryz.func138, Tryz.ntmps138
    go_wp2
    go_ret
    exact ⟨rfl, by go_grown⟩

set_option maxRecDepth 100000 in
set_option maxHeartbeats 2000000 in
theorem IndexFuncC_any (oa : Option Addr) (cap : Nat) (l : List Col) (p : Nat) (name : ByteArray) (w : World) (hl : l.length ≤ 1000) (hc : ColsIn w oa l) (h0 : w.cell? ⟨p, 0, none⟩ = some (.string name)) :
    Calls Tryz.prog 137 #[.slice oa l.length cap, .func (.func 138) #[] #[.pointer (some ⟨p, 0, none⟩)]] w fun e w' => e = .returned (.int .i64 (firstC l name)) ∧ Below w.heap.size w w' := by
  have H0 := Lib.hid h0
  clear h0
  go_enter Tryz.func137, Tryz.ntmps137
  go_wp2
  go_loopw [8] (fun i wr => ∃ k : Nat, k ≤ l.length ∧ i = .int .i64 k ∧ Hid (FRel l name k) ∧ Below w.heap.size w wr) (fun i _ => l.length - (intOf i).toNat)
  case atStart => exact ⟨0, Nat.zero_le _, rfl, Lib.hid (FRel.zero _ _), Below.refl _ _⟩
  case round =>
    obtain ⟨k, hk, rfl, HK, hbw⟩ := hrel
    by_cases hlt : k < l.length
    · obtain ⟨a, rfl, hat⟩ := hc k hlt
      obtain ⟨c, hcc⟩ : ∃ c, l[k] = c := ⟨_, rfl⟩
      rw [hcc] at hat
      obtain ⟨c0, c1, c2, c3⟩ := hat.keep hbw (Nat.le_refl _)
      have HC := Lib.hid (first1_any c.n c.t c.z c.u p name wr (by rw [hbw.cell (cell_lt H0.out)]; exact H0.out))
      clear hat hc
      cases hn : isN name c
      · have HN := Lib.hid (HK.out.next hlt hcc hn)
        have HQ := Lib.hid hn
        clear hn hcc
        go_wp2_with (first | (go_at_call 138; refine HC.out.mono ?_; rintro e w' ⟨he, hb⟩; rw [show isN name ⟨c.n, c.t, c.z, c.u⟩ = false from HQ.out] at he; subst he))
        go_roundw
        case rel => exact ⟨k + 1, by omega, by go_num, HN, hbw.trans (hb.mono hbw.size)⟩
        case measure => simp [intOf]; omega
      · have HN := Lib.hid (HK.out.hit hlt hcc hn)
        have HQ := Lib.hid hn
        clear hn hcc
        go_wp2_with (first | (go_at_call 138; refine HC.out.mono ?_; rintro e w' ⟨he, hb⟩; rw [show isN name ⟨c.n, c.t, c.z, c.u⟩ = true from HQ.out] at he; subst he))
        go_ret
        exact ⟨by rw [HN.out]; rfl, hbw.trans (hb.mono hbw.size)⟩
    · have HN := Lib.hid (HK.out.none (by omega))
      clear hc
      go_wp2
      go_ret
      exact ⟨by rw [HN.out]; rfl, hbw⟩

set_option maxRecDepth 100000 in
set_option maxHeartbeats 2000000 in
theorem first_any (oc : Option Addr) (cc : Nat) (l : List Col) (ok : Option Addr) (nk ck : Nat) (ou : Option Addr) (nu cu : Nat) (om : Option Nat) (name : ByteArray) (w : World) (hl : l.length ≤ 1000) (hc : ColsIn w oc l) :
    Calls Tryz.prog 106 #[.agg #[.slice oc l.length cc, .slice ok nk ck, .slice ou nu cu, .map om], .string name] w fun e w' => e = .returned (.int .i64 (firstC l name)) ∧ Below w.heap.size w w' := by
  have H : Hid (∀ A W, W = ((w.alloc A).alloc (.cells #[.string name] 9)) → Calls Tryz.prog 137 #[.slice oc l.length cc, .func (.func 138) #[] #[.pointer (some ⟨w.heap.size + 1, 0, none⟩)]] W fun e w' => e = .returned (.int .i64 (firstC l name)) ∧ Below W.heap.size W w') :=
    Lib.hid (fun A W hW => by
      subst hW
      refine IndexFuncC_any oc cc l (w.heap.size + 1) name _ hl (hc.keep (((Below.refl _ _).alloc (Nat.le_refl _) _).alloc (by simp) _) (Nat.le_refl _)) ?_
      simp)
  clear hc hl
  go_enter Tryz.func106, Tryz.ntmps106
  go_wp2_with (first | (go_at_call 137; refine (H.out _ _ rfl).mono ?_; rintro e w' ⟨rfl, hb⟩))
  go_ret
  exact ⟨rfl, (((Below.refl _ _).alloc (Nat.le_refl _) _).alloc (by simp) _).trans (hb.mono (by simp; omega))⟩

end Go.Proofs.YtocmjlnhcloccaaGreatDoor
namespace Go.Proofs.YtocmjlnhcloccaaGreatDoor
open Go.RowKit

/-- are all places there? -/
def inAll (n : Nat) (l : List Int) : Bool := l.all fun x => decide (0 ≤ x) && decide (x < n)
theorem inAll_at {n : Nat} {l : List Int} (h : inAll n l = true) {k : Nat} (hk : k < l.length) : 0 ≤ l[k] ∧ l[k] < n := by
  unfold inAll at h
  rw [List.all_eq_true] at h
  simpa using h _ (List.getElem_mem hk)
theorem inAll_no {n : Nat} {l : List Int} {k : Nat} (hk : k < l.length) (h : l[k] < 0 ∨ (n : Int) ≤ l[k]) : inAll n l = false := by
  unfold inAll
  rw [List.all_eq_false]
  refine ⟨_, List.getElem_mem hk, ?_⟩
  simp
  omega
def pickL {α : Type} (d : α) (l : List α) (at' : List Int) : List α := at'.map fun x => l.getD x.toNat d
def rowOf {α : Type} (cell : α → Nat → Value) (z : Nat → Value) (d : α) (l : List α) (k j : Nat) : Value := if j < k * 4 then cell (l.getD (j / 4) d) (j % 4) else z (j % 4)
theorem rowOf_next {α : Type} {cell : α → Nat → Value} {z : Nat → Value} {d : α} {l : List α} {k : Nat} (j : Nat) (v0 v1 v2 v3 : Value) (h0 : v0 = cell (l.getD k d) 0) (h1 : v1 = cell (l.getD k d) 1) (h2 : v2 = cell (l.getD k d) 2) (h3 : v3 = cell (l.getD k d) 3) :
    (if j = k * 4 + 3 then v3 else if j = k * 4 + 2 then v2 else if j = k * 4 + 1 then v1 else if j = k * 4 then v0 else rowOf cell z d l k j) = rowOf cell z d l (k + 1) j := by
  unfold rowOf
  by_cases e3 : j = k * 4 + 3
  · subst e3
    rw [if_pos rfl, if_pos (by omega), show (k * 4 + 3) / 4 = k by omega, show (k * 4 + 3) % 4 = 3 by omega, h3]
  rw [if_neg e3]
  by_cases e2 : j = k * 4 + 2
  · subst e2
    rw [if_pos rfl, if_pos (by omega), show (k * 4 + 2) / 4 = k by omega, show (k * 4 + 2) % 4 = 2 by omega, h2]
  rw [if_neg e2]
  by_cases e1 : j = k * 4 + 1
  · subst e1
    rw [if_pos rfl, if_pos (by omega), show (k * 4 + 1) / 4 = k by omega, show (k * 4 + 1) % 4 = 1 by omega, h1]
  rw [if_neg e1]
  by_cases e0 : j = k * 4
  · subst e0
    rw [if_pos rfl, if_pos (by omega), show (k * 4) / 4 = k by omega, show (k * 4) % 4 = 0 by omega, h0]
  rw [if_neg e0]
  by_cases h : j < k * 4
  · rw [if_pos h, if_pos (by omega)]
  · rw [if_neg h, if_neg (by omega)]
theorem run_make4 {P : Program} (t e : TypeId) (z : Value) (bytes : Nat) (ht : P.underlying t = some (.slice e)) (hinfo : (P.info? e).map (fun i => (i.zero, i.size, i.bytes)) = some (some z, 4, bytes)) (n : Nat) (hbytes : bytes * n ≤ 281474976710656) (h63 : n ≤ 9223372036854775807) (w : World) :
    (Instr.makeSlice t (.int .i64 (n : Int)) (.int .i64 (n : Int))).run P w = .ok (.slice (some ⟨w.heap.size, 0, none⟩) n n) (w.alloc (.cells (madeCells z.cells (n * 4)) e)) := by
  obtain ⟨i, hi, hzz⟩ := Option.map_eq_some_iff.1 hinfo
  simp only [Prod.mk.injEq] at hzz
  obtain ⟨hz, hs, hb⟩ := hzz
  have hb' : (i.bytes : Int) * (n : Int) ≤ 281474976710656 := by
    have h : ((i.bytes * n : Nat) : Int) ≤ 281474976710656 := by rw [hb]; omega
    rwa [Int.natCast_mul] at h
  have hr := run_make (P := P) w t e i z ht hi hz .i64 .i64 n n (by omega) (Int.le_refl _) hb' (by omega)
  simp only [Int.toNat_natCast, hs] at hr
  exact hr
theorem rowIs_made4 (w : World) (z : Array Value) (hz : z.size = 4) (n : Nat) (t : TypeId) : (w.alloc (.cells (madeCells z (n * 4)) t)).rowIs w.heap.size t (n * 4) (fun j => z[j % 4]!) := by
  have h := World.rowIs_alloc w (madeCells z (n * 4)) t (fun j => z[j % 4]!) (fun i hi => by simp [madeCells] at hi ⊢; simp [hi, hz])
  rwa [size_madeCells] at h

def col0 : Col := ⟨⟨#[]⟩, 0, 0, false⟩
def colCell (c : Col) : Nat → Value
  | 0 => .string c.n
  | 1 => .int .i64 c.t
  | 2 => .int .i64 c.z
  | _ => .bool c.u
def val0 : Vl := ⟨0, 0, 0, ⟨#[]⟩⟩
def valCell (v : Vl) : Nat → Value
  | 0 => .int .i64 v.k
  | 1 => .int .i64 v.i
  | 2 => .int .u64 v.u
  | _ => .string v.s
def ValsIn (w : World) (oa : Option Addr) (l : List Vl) : Prop := ∀ (j : Nat) (h : j < l.length), ∃ a, oa = some a ∧ ValAt w (a.add (j * 4)) l[j]
theorem ValsIn.keep {w w' : World} {B : Nat} {oa : Option Addr} {l : List Vl} (h : ValsIn w oa l) (hb : Below B w w') (hB : w.heap.size ≤ B) : ValsIn w' oa l := fun j hj => by
  obtain ⟨a, e, hc⟩ := h j hj
  exact ⟨a, e, hc.keep hb hB⟩
theorem add4 (b j : Nat) : (⟨b, 0, none⟩ : Addr).add (j * 4) = ⟨b, j * 4, none⟩ := by
  unfold Addr.add
  split
  · rename_i h; rw [h]
  · simp

theorem infoC : (Tryz.prog.info? 64).map (fun i => (i.zero, i.size, i.bytes)) = some (some (.agg #[.string ⟨#[]⟩, .int .i64 0, .int .i64 0, .bool false]), 4, 40) := by kernel_rfl
theorem rowC {w : World} {b : Nat} {l : List Col} (h : w.rowIs b 64 (l.length * 4) (rowOf colCell (fun j => (#[.string ⟨#[]⟩, .int .i64 0, .int .i64 0, .bool false] : Array Value)[j]!) col0 l l.length)) : ColsIn w (some ⟨b, 0, none⟩) l := fun j hj => by
  have q : ∀ i, i < 4 → w.cell? ⟨b, j * 4 + i, none⟩ = some (colCell l[j] i) := fun i hi => by
    have h1 := h.cell (i := j * 4 + i) (by omega)
    unfold rowOf at h1
    rw [if_pos (by omega), show (j * 4 + i) / 4 = j by omega, show (j * 4 + i) % 4 = i by omega, List.getD_eq_getElem?_getD, List.getElem?_eq_getElem hj] at h1
    exact h1
  refine ⟨_, rfl, ?_⟩
  rw [add4]
  exact ⟨q 0 (by omega), q 1 (by omega), q 2 (by omega), q 3 (by omega)⟩

set_option maxRecDepth 100000 in
set_option maxHeartbeats 2000000 in
theorem pickC_any (oc : Option Addr) (cc : Nat) (l : List Col) (ol : Option Addr) (cl : Nat) (pl : List Int) (w : World) (_hl : l.length ≤ 1000) (hp : pl.length ≤ 1000) (hc : ColsIn w oc l) (hi : IntsIn w ol pl) :
    Calls Tryz.prog 139 #[.slice oc l.length cc, .slice ol pl.length cl] w fun e w' =>
      (inAll l.length pl = true ∧ (∃ b, e = .returned (.tuple #[.slice (some ⟨b, 0, none⟩) pl.length pl.length, .nilIface]) ∧ ColsIn w' (some ⟨b, 0, none⟩) (pickL col0 l pl)) ∧ Below w.heap.size w w') ∨
      (inAll l.length pl = false ∧ (∃ b, e = .returned (.tuple #[.slice none 0 0, .iface 138 (.pointer (some ⟨b, 0, none⟩))]) ∧ w.heap.size ≤ b ∧ w'.cell? ⟨b, 1, none⟩ = some (.int .i64 4)) ∧ Below w.heap.size w w') := by
  have hmk : ∀ W, (Instr.makeSlice 22 (.int .i64 (pl.length : Int)) (.int .i64 (pl.length : Int))).run Tryz.prog W = .ok (.slice (some ⟨W.heap.size, 0, none⟩) pl.length pl.length) (W.alloc (.cells (madeCells #[.string ⟨#[]⟩, .int .i64 0, .int .i64 0, .bool false] (pl.length * 4)) 64)) :=
    run_make4 22 64 (.agg #[.string ⟨#[]⟩, .int .i64 0, .int .i64 0, .bool false]) 40 Tryz.underlying22 infoC pl.length (by omega) (by omega)
  have HC := Lib.hid hc
  have HI := Lib.hid hi
  clear hc hi
  go_enter Tryz.func139, Tryz.ntmps139
  go_wp2
  have hrow0 := rowIs_made4 w #[.string ⟨#[]⟩, .int .i64 0, .int .i64 0, .bool false] rfl pl.length 64
  have hb0 : Below w.heap.size w (w.alloc (.cells (madeCells #[.string ⟨#[]⟩, .int .i64 0, .int .i64 0, .bool false] (pl.length * 4)) 64)) := (Below.refl _ _).alloc (Nat.le_refl _) _
  generalize w.alloc (.cells (madeCells #[.string ⟨#[]⟩, .int .i64 0, .int .i64 0, .bool false] (pl.length * 4)) 64) = w1 at *
  go_loopw [14] (fun i wr => ∃ (k : Nat), k ≤ pl.length ∧ i = .int .i64 k ∧ Hid (∀ j (h : j < pl.length), j < k → 0 ≤ pl[j] ∧ pl[j] < l.length) ∧ wr.rowIs w.heap.size 64 (pl.length * 4) (rowOf colCell (fun j => (#[.string ⟨#[]⟩, .int .i64 0, .int .i64 0, .bool false] : Array Value)[j]!) col0 (pickL col0 l pl) k) ∧ Below w.heap.size w wr) (fun i _ => pl.length - (intOf i).toNat)
  case atStart => exact ⟨0, by omega, rfl, Lib.hid (fun j _ h => absurd h (Nat.not_lt_zero j)), hrow0.congr (fun j _ => by simp [rowOf]), hb0⟩
  case round =>
    obtain ⟨k, hk, rfl, HK, hrow, hbw⟩ := hrel
    clear hrow0 hb0 hmk
    have hgl := hrow.lt
    by_cases hkl : k < pl.length
    · obtain ⟨x, hx⟩ : ∃ v, pl[k] = v := ⟨_, rfl⟩
      obtain ⟨ai, rfl, hxc⟩ := HI.out.keep hbw (Nat.le_refl _) k hkl
      rw [hx] at hxc
      by_cases h0 : 0 ≤ x
      · by_cases h1 : x < l.length
        · obtain ⟨m, rfl⟩ := Int.eq_ofNat_of_zero_le h0
          have hm : m < l.length := by omega
          obtain ⟨c, hcc⟩ : ∃ c, l[m] = c := ⟨_, rfl⟩
          obtain ⟨ac, rfl, hat⟩ := HC.out.keep hbw (Nat.le_refl _) m hm
          rw [hcc] at hat
          have hal := hat.lt
          have hne : (ac.add (m * 4)).block < w.heap.size := by
            obtain ⟨a2, e2, hat2⟩ := HC.out m hm
            cases e2
            exact hat2.lt
          obtain ⟨c0, c1, c2, c3⟩ := hat
          have HP := Lib.hid (show (pickL col0 l pl).getD k col0 = c by unfold pickL; rw [List.getD_eq_getElem?_getD, List.getElem?_map, List.getElem?_eq_getElem hkl, hx]; simp [List.getElem?_eq_getElem hm, hcc])
          have HK2 := Lib.hid (show ∀ j (h : j < pl.length), j < k + 1 → 0 ≤ pl[j] ∧ pl[j] < l.length from fun j h hj => by
            by_cases e : j = k
            · subst e; rw [hx]; omega
            · exact HK.out j h (by omega))
          clear hx hcc HC HI
          have r0 := hrow.cell (i := k * 4) (by omega)
          have r1 := hrow.cell (i := k * 4 + 1) (by omega)
          have r2 := hrow.cell (i := k * 4 + 2) (by omega)
          have r3 := hrow.cell (i := k * 4 + 3) (by omega)
          have f0 := hrow.frozen (k * 4)
          have f1 := hrow.frozen (k * 4 + 1)
          have f2 := hrow.frozen (k * 4 + 2)
          have f3 := hrow.frozen (k * 4 + 3)
          go_wp2_with (go_at_call 88; refine (Of_any _ _ _).mono ?_; rintro e w' ⟨rfl, rfl⟩)
          go_roundw
          case rel => exact ⟨k + 1, by omega, by go_num, HK2, ((((hrow.set _ _).set _ _).set _ _).set _ _).congr (fun j _ => rowOf_next (cell := colCell) j (colCell c 0) (colCell c 1) (colCell c 2) (colCell c 3) (by rw [HP.out]) (by rw [HP.out]) (by rw [HP.out]) (by rw [HP.out])), (((hbw.setCell (Nat.le_refl _) _).setCell (Nat.le_refl _) _).setCell (Nat.le_refl _) _).setCell (Nat.le_refl _) _⟩
          case measure => simp [intOf]; omega
        · have HN := Lib.hid (inAll_no (n := l.length) hkl (by omega))
          clear hx HC HI
          go_wp2_with (go_at_call 88; refine (Of_any _ _ _).mono ?_; rintro e w' ⟨rfl, rfl⟩)
          go_ret2
          exact .inr ⟨HN.out, ⟨_, rfl, hbw.size, by simp [go_sem]⟩, hbw.alloc hbw.size _⟩
      · have HN := Lib.hid (inAll_no (n := l.length) hkl (by omega))
        clear hx HC HI
        go_wp2_with (go_at_call 88; refine (Of_any _ _ _).mono ?_; rintro e w' ⟨rfl, rfl⟩)
        go_ret2
        exact .inr ⟨HN.out, ⟨_, rfl, hbw.size, by simp [go_sem]⟩, hbw.alloc hbw.size _⟩
    · obtain rfl : k = pl.length := by omega
      have HA := Lib.hid (show inAll l.length pl = true by
        unfold inAll
        rw [List.all_eq_true]
        intro x hx
        obtain ⟨j, hj, rfl⟩ := List.getElem_of_mem hx
        have := HK.out j hj hj
        simpa using this)
      have hlen : (pickL col0 l pl).length = pl.length := by simp [pickL]
      have HR := Lib.hid (rowC (l := pickL col0 l pl) (by rw [hlen]; exact hrow))
      clear hrow hlen
      go_wp2_with (go_at_call 88; refine (Of_any _ _ _).mono ?_; rintro e w' ⟨rfl, rfl⟩)
      go_ret2
      exact .inl ⟨HA.out, ⟨_, rfl, HR.out⟩, hbw⟩

theorem infoV : (Tryz.prog.info? 68).map (fun i => (i.zero, i.size, i.bytes)) = some (some (.agg #[.int .i64 0, .int .i64 0, .int .u64 0, .string ⟨#[]⟩]), 4, 40) := by kernel_rfl
theorem rowV {w : World} {b : Nat} {l : List Vl} (h : w.rowIs b 68 (l.length * 4) (rowOf valCell (fun j => (#[.int .i64 0, .int .i64 0, .int .u64 0, .string ⟨#[]⟩] : Array Value)[j]!) val0 l l.length)) : ValsIn w (some ⟨b, 0, none⟩) l := fun j hj => by
  have q : ∀ i, i < 4 → w.cell? ⟨b, j * 4 + i, none⟩ = some (valCell l[j] i) := fun i hi => by
    have h1 := h.cell (i := j * 4 + i) (by omega)
    unfold rowOf at h1
    rw [if_pos (by omega), show (j * 4 + i) / 4 = j by omega, show (j * 4 + i) % 4 = i by omega, List.getD_eq_getElem?_getD, List.getElem?_eq_getElem hj] at h1
    exact h1
  refine ⟨_, rfl, ?_⟩
  rw [add4]
  exact ⟨q 0 (by omega), q 1 (by omega), q 2 (by omega), q 3 (by omega)⟩

end Go.Proofs.YtocmjlnhcloccaaGreatDoor
namespace Go.Proofs.YtocmjlnhcloccaaGreatDoor
open Go.RowKit Go.Extern.Stop Go.Stop Go.Extern

theorem noIsM (v : Value) (w : World) : (Instr.typeAssert (.iface 138 v) 112 247 true).run Tryz.prog w = .ok (.tuple #[.nilIface, .bool false]) w :=
  run_typeAssert_lacksB Tryz.underlying247 (by kernel_rfl) (by kernel_rfl) v 112 w
theorem rl_cmpE (w : World) : (ReflectliteType.method (fun t => do Rtype.noPackHeld "Comparable" t; (fun a => Value.bool a.comparable) <$> typeInfo t) #[.agg #[.pointer (some ⟨5, 32, none⟩)]]).run Tryz.prog w = .ok (.bool true) w := by kernel_rfl
theorem eq_num (w : World) : (binOp .eql 112 (.iface 32 (.int .i64 4)) (.iface 32 (.int .i64 4))).run Tryz.prog w = .ok (.bool true) w := by kernel_rfl
theorem eq_mis (v : Value) (w : World) : (binOp .eql 112 (.iface 138 v) (.iface 32 (.int .i64 4))).run Tryz.prog w = .ok (.bool false) w := by kernel_rfl

set_option maxHeartbeats 1000000 in
theorem is_none (w : World) : Calls Tryz.prog 140 #[.nilIface, .iface 32 (.int .i64 4)] w fun e w' => e = .returned (.bool false) ∧ w = w' := by
  have hn : ∀ w, (binOp .eql 112 .nilIface (.iface 32 (.int .i64 4))).run Tryz.prog w = .ok (.bool false) w := fun w => by kernel_rfl
  go_enter Tryz.func140, Tryz.ntmps140
  go_wp2
  go_ret
  exact ⟨rfl, rfl⟩

set_option maxRecDepth 100000 in
set_option maxHeartbeats 4000000 in
theorem is_mis (b : Nat) (w : World) (h1 : w.cell? ⟨b, 1, none⟩ = some (.int .i64 4)) :
    Calls Tryz.prog 140 #[.iface 138 (.pointer (some ⟨b, 0, none⟩)), .iface 32 (.int .i64 4)] w fun e w' => e = .returned (.bool true) ∧ w = w' := by
  have hTO := @run_callFunc_extern Tryz.prog 150 _ ReflectliteType.typeOf Tryz.func150 (by kernel_rfl) (by kernel_rfl) (by kernel_rfl) (by kernel_rfl)
  have hCm := @run_callFunc_extern Tryz.prog 238 _ (ReflectliteType.method fun t => do Rtype.noPackHeld "Comparable" t; pure (.bool (← typeInfo t).comparable)) Tryz.func238 (by kernel_rfl) (by kernel_rfl) (by kernel_rfl) (by kernel_rfl)
  have r1 := rl_typeOfE
  have r2 := rl_cmpE
  have r3 := noIsM
  have r4 := hasUnwrapM
  have r5 := eq_num
  have r6 := eq_mis
  go_enter Tryz.func140, Tryz.ntmps140
  go_wp2
  refine wp_loop_rounds 2 ?_
  rw [rounds_succ]
  go_wp2
  rw [rounds_succ]
  go_wp2
  go_ret
  exact ⟨rfl, rfl⟩

/-- the place of the first such number; -1 -/
def firstIFrom (x : Int) : List Int → Int → Int
  | [], _ => -1
  | y :: l, i => if x = y then i else firstIFrom x l (i + 1)
def firstI (l : List Int) (x : Int) : Int := firstIFrom x l 0
def FRelI (l : List Int) (x : Int) (k : Nat) : Prop := firstI l x = firstIFrom x (l.drop k) k
theorem FRelI.zero (l : List Int) (x : Int) : FRelI l x 0 := rfl
theorem FRelI.next {l : List Int} {x y : Int} {k : Nat} (h : FRelI l x k) (hk : k < l.length) (hc : l[k] = y) (hn : x ≠ y) : FRelI l x (k + 1) := by
  unfold FRelI at *
  rw [h, List.drop_eq_getElem_cons hk, hc]
  simp [firstIFrom, hn]
theorem FRelI.hit {l : List Int} {x y : Int} {k : Nat} (h : FRelI l x k) (hk : k < l.length) (hc : l[k] = y) (hn : x = y) : firstI l x = k := by
  unfold FRelI at *
  rw [h, List.drop_eq_getElem_cons hk, hc]
  simp [firstIFrom, hn]
theorem FRelI.none {l : List Int} {x : Int} {k : Nat} (h : FRelI l x k) (hk : l.length ≤ k) : firstI l x = -1 := by
  unfold FRelI at *
  rw [h, List.drop_eq_nil_of_le hk]
  rfl
set_option maxRecDepth 100000 in
set_option maxHeartbeats 1000000 in
theorem iIndex_any (oa : Option Addr) (cap : Nat) (l : List Int) (x : Int) (w : World) (hl : l.length ≤ 1000) (hc : IntsIn w oa l) :
    Calls Tryz.prog 141 #[.slice oa l.length cap, .int .i64 x] w fun e w' => e = .returned (.int .i64 (firstI l x)) ∧ w = w' := by
  go_enter Tryz.func141, Tryz.ntmps141
  go_wp2
  go_loop [8] (fun i => ∃ k : Nat, k ≤ l.length ∧ i = .int .i64 k ∧ Hid (FRelI l x k)) (fun i => l.length - (intOf i).toNat)
  case atStart => exact ⟨0, Nat.zero_le _, rfl, Lib.hid (FRelI.zero _ _)⟩
  case round =>
    obtain ⟨k, hk, rfl, HK⟩ := hrel
    by_cases hlt : k < l.length
    · obtain ⟨a, rfl, hat⟩ := hc k hlt
      obtain ⟨y, hy⟩ : ∃ y, l[k] = y := ⟨_, rfl⟩
      rw [hy] at hat
      clear hc
      by_cases hxy : x = y
      · have HN := Lib.hid (HK.out.hit hlt hy hxy)
        have hq : (x == y) = true := by simpa using hxy
        clear hxy hy
        go_wp2
        go_ret
        exact ⟨by rw [HN.out]; rfl, rfl⟩
      · have HN := Lib.hid (HK.out.next hlt hy hxy)
        have hq : (x == y) = false := by simpa using hxy
        clear hxy hy
        go_wp2
        go_round
        case rel => exact ⟨k + 1, by omega, by go_num, HN⟩
        case measure => simp [intOf]; omega
    · have HN := Lib.hid (HK.out.none (by omega))
      clear hc
      go_wp2
      go_ret
      exact ⟨by rw [HN.out]; rfl, rfl⟩
end Go.Proofs.YtocmjlnhcloccaaGreatDoor
namespace Go.Proofs.YtocmjlnhcloccaaGreatDoor
open Go.RowKit

/-- from block B on, and where G holds, the blocks lie as they lay -/
structure Keep (B : Nat) (G : Nat → Prop) (W W' : World) : Prop where
  size : W.heap.size ≤ W'.heap.size
  same : ∀ k, k < W.heap.size → (B ≤ k ∨ G k) → W'.heap[k]? = W.heap[k]?
theorem Keep.refl (B : Nat) (G : Nat → Prop) (W : World) : Keep B G W W := ⟨Nat.le_refl _, fun _ _ _ => rfl⟩
theorem Keep.trans {B : Nat} {G : Nat → Prop} {X Y Z : World} (h : Keep B G X Y) (k : Keep B G Y Z) : Keep B G X Z :=
  ⟨Nat.le_trans h.size k.size, fun i hi hG => (k.same i (Nat.lt_of_lt_of_le hi h.size) hG).trans (h.same i hi hG)⟩
theorem Keep.setCell {B : Nat} {G : Nat → Prop} {X Y : World} (h : Keep B G X Y) {p : Addr} (hp : p.block < B) (hG : ¬ G p.block) (u : Value) : Keep B G X (Y.setCell p u) :=
  h.trans ⟨by simp [World.setCell], fun k _ hk => Below.heap_setCell _ _ _ _ (fun e => by subst e; rcases hk with hk | hk; omega; exact hG hk)⟩
theorem Keep.alloc {B : Nat} {G : Nat → Prop} {X Y : World} (h : Keep B G X Y) (o : Obj) : Keep B G X (Y.alloc o) :=
  h.trans ⟨by simp, fun k hk _ => Below.heap_alloc _ _ _ hk⟩

/-- what is said of the world stays where blocks from B on turn -/
def Firm {β : Type} (B : Nat) (J : β → World → Prop) : Prop := ∀ s A A', J s A → Below B A A' → J s A'

/-- THE ITERATOR's CONTRACT -/
def SeqTurns {α : Type} (F : Fence) (n : Nat) (P : Program) (g : Nat) (fb lb : Array Value) (encs : α → Array Value) (G : Nat → Prop) (S Sp : List α → Prop) (w : World) : Prop :=
  ∀ (l : Nat) (J Jx : List α → World → Prop) (W : World), Below w.heap.size w W → Firm W.heap.size J →
    (∀ pre x W1, J pre W1 → Sp (pre ++ [x]) → W.heap.size ≤ W1.heap.size → YieldAt F (n - 1) P l (encs x) W1 fun e W' =>
      (e = .returned (.bool true) ∧ J (pre ++ [x]) W' ∧ Keep W.heap.size G W1 W') ∨ (e = .returned (.bool false) ∧ Jx (pre ++ [x]) W')) →
    J [] W →
    CallsIn F n P g ((fb ++ #[.func (.yield l) #[] #[]]) ++ lb) W fun e W' => (∃ v, e = .returned v) ∧ ((∃ xs, S xs ∧ J xs W') ∨ (∃ pre, Sp pre ∧ Jx pre W'))

/-- how a round's body may be left -/
def turnPost {α : Type} (B : Nat) (G : Nat → Prop) (I : List α → World → Prop) (Ix : Code → List α → World → Prop) (xs : List α) (W : World) : Exit → Act → World → Prop
  | .normal, _, W' => Keep B G W W' ∧ I xs W'
  | .ret, _, W' => Keep B G W W' ∧ Ix .ret xs W'
  | .exit id, _, W' => Keep B G W W' ∧ Ix (.exit id) xs W'
  | .goto _, _, _ => False
  | .panic _, _, _ => False
  | .outgrown, _, _ => False

theorem Firm.put {β : Type} {B : Nat} {J : β → World → Prop} (h : Firm B J) {s : β} {W : World} {l : Nat} (o : Obj) (hs : J s W) (hB : B ≤ l) (_hl : l < W.heap.size) : J s (W.putObj l o) :=
  h s W _ hs ⟨rfl, rfl, rfl, by simp, fun _ hk => World.putObj_heap_other (by omega)⟩

variable {F : Fence} {n : Nat} {P : Program}
/-- THE LOOP's LAW -/
theorem wpIn_turns {α : Type} {g : Operand} {ps : Array Tmp} {assign body : Code} {Q : Exit → Act → World → Prop} {a : Act} {w : World}
    (hro : F.round = none) (h1 : 1 ≤ n) {gf : Nat} {fb lb : Array Value} (hg : a.eval g = .func (.func gf) fb lb) (hFg : F.fn gf) (eg : ∀ args w, (callFunc gf args).run P w = .ok (.enter gf args) w)
    {encs : α → Array Value} {G : Nat → Prop} {S Sp : List α → Prop} (hseq : SeqTurns F (n - 1) P gf fb lb encs G S Sp w) (hG : ∀ k, G k → k < w.heap.size) (hps : ∀ x, (encs x).size = ps.size)
    (I : List α → World → Prop) (Ix : Code → List α → World → Prop) (hI : Firm w.heap.size I) (hIx : ∀ c pre W r o, Ix c pre W → W.heap[w.heap.size + 1]? = some (.loop r) → Ix c pre (W.putObj (w.heap.size + 1) o)) (h0 : I [] w) (a₁ : α → Act)
    (hassign : ∀ (l : Nat) (x : α) (W : World) (K : Act → World → Prop), K (a₁ x) W →
      assign.wpIn (F.inRound l) (n - 1 - 1) P (Exit.then K (fun _ _ _ => False)) { tmps := (ps.zip (encs x)).foldl (fun t (p, v) => t.setIfInBounds p v) a.tmps, defers := [] } W)
    (hbody : ∀ (l : Nat) (pre : List α) (x : α) (W : World), I pre W → Sp (pre ++ [x]) → w.heap.size + 2 ≤ W.heap.size → body.wpIn (F.inRound l) (n - 1 - 1) P (turnPost w.heap.size G I Ix (pre ++ [x]) W) (a₁ x) W)
    (hdone : ∀ (xs : List α) (W : World), S xs → I xs W → W.heap[w.heap.size]? = some (.deferred (some [])) → Q .normal { a with defers := { target := .collected w.heap.size, args := #[] } :: a.defers } W)
    (hstop : ∀ (c : Code) (pre : List α) (W : World), Sp pre → Ix c pre W → W.heap[w.heap.size]? = some (.deferred (some [])) → c.wpIn F n P Q { a with defers := { target := .collected w.heap.size, args := #[] } :: a.defers } W) :
    (Code.rangeFunc g ps assign body).wpIn F n P Q a w := by
  refine wpIn_rangeFunc fun fn hfn => ?_
  rw [hro]
  obtain ⟨B, hB⟩ : ∃ B, w.heap.size = B := ⟨_, rfl⟩
  rw [hB] at hI hIx hbody hdone hstop
  obtain ⟨rec, hrec⟩ : ∃ rec : LoopState → Option Code → Obj, rec = fun st pe => .loop { state := st, pending := pe, fn, tmps := a.tmps, params := ps, assign, body, defers := B } := ⟨_, rfl⟩
  obtain ⟨W1, hW1⟩ : ∃ W1, (w.alloc (.deferred (some []))).alloc (rec .ready none) = W1 := ⟨_, rfl⟩
  have hsz : W1.heap.size = B + 2 := by rw [← hW1, ← hB]; simp
  have hb1 : Below B w W1 := by
    rw [← hW1]
    exact ((Below.refl _ w).alloc (by omega) _).alloc (by simp; omega) _
  have hL1 : W1.heap[B + 1]? = some (rec .ready none) := by
    rw [← hW1, ← hB]
    have := World.alloc_heap_new (w.alloc (.deferred (some []))) (rec .ready none)
    rwa [World.size_alloc] at this
  have hD1 : W1.heap[B]? = some (.deferred (some [])) := by
    rw [← hW1, ← hB]
    exact (Below.heap_alloc _ _ _ (by simp)).trans (World.alloc_heap_new w _)
  refine ⟨B + 1, [{ target := .collected B, args := #[] }], W1, { target := .fn (.func gf) lb, args := fb ++ #[.func (.yield (B + 1)) #[] #[]] }, W1, gf, (fb ++ #[.func (.yield (B + 1)) #[] #[]]) ++ lb, W1, ?_, ?_, ?_, ?_, fun _ => h1, ?_⟩
  · rw [← hW1, hrec, ← hB]
    exact run_enterLoop_outer _ _ _ _ _
  · simp only [resolve, hg]
    simp [go_sem]
  · intro f' hf'
    simp [Target.leads] at hf'
    exact hf' ▸ hFg
  · simp [invoke, go_sem, eg]
  refine (hseq (B + 1) (fun pre W => I pre W ∧ W.heap[B + 1]? = some (rec .ready none) ∧ W.heap[B]? = some (.deferred (some [])))
    (fun pre W => ∃ c, Ix c pre W ∧ W.heap[B + 1]? = some (rec .done (some c)) ∧ W.heap[B]? = some (.deferred (some []))) W1 (by rw [hB]; exact hb1) ?_ ?_ ⟨hI _ _ _ h0 hb1, hL1, hD1⟩).mono ?_
  · rintro s A A' ⟨hi, hl, hd⟩ hb
    rw [hsz] at hb
    exact ⟨hI _ _ _ hi (hb.mono (by omega)), (hb.block _ (by omega)).trans hl, (hb.block _ (by omega)).trans hd⟩
  · rintro pre x W ⟨hi, hl, hd⟩ hsp hsz2
    rw [hsz] at hsz2 ⊢
    have hl' := hl
    rw [hrec] at hl'
    have hy := run_yield (P := P) (args := encs x) hl' (hps x)
    refine ⟨fn, _, assign, body, hy, roundIn_of_wpIn hfn (hassign _ x W _ ⟨_, run_beginRound hl' rfl, ?_⟩)⟩
    have kp : ∀ (V : World) (o : Obj), B + 2 ≤ V.heap.size → Keep (B + 2) G V (V.putObj (B + 1) o) := fun V o hV =>
      ⟨by simp, fun k _ hk => World.putObj_heap_other (by rcases hk with hk | hk; omega; have := hG k hk; omega)⟩
    have mv : ∀ (V V' : World), Keep B G V V' → Keep (B + 2) G V V' := fun V V' h => ⟨h.size, fun k hk hh => h.same k hk (hh.imp_left (fun h => by omega))⟩
    have hk2 := kp W (rec .busy none) hsz2
    have hl2 : (W.putObj (B + 1) (rec .busy none)).heap[B + 1]? = some (rec .busy none) := World.putObj_heap_same (by omega)
    have hd2 : (W.putObj (B + 1) (rec .busy none)).heap[B]? = some (.deferred (some [])) := (World.putObj_heap_other (by omega)).trans hd
    have hi2 : I pre (W.putObj (B + 1) (rec .busy none)) := hI.put _ hi (by omega) (by omega)
    have hs2 : B + 2 ≤ (W.putObj (B + 1) (rec .busy none)).heap.size := by simp; omega
    rw [hrec] at hk2 hl2 hd2 hi2 hs2
    replace hs2 : B + 2 ≤ (W.putObj (B + 1) (.loop { state := .busy, pending := none, fn, tmps := a.tmps, params := ps, assign, body, defers := B })).heap.size := hs2
    refine wpIn_mono (hbody _ pre x _ hi2 hsp hs2) ?_
    have fin : ∀ (jump : Option Code) (W3 : World), Keep B G (W.putObj (B + 1) (.loop { state := .busy, pending := none, fn, tmps := a.tmps, params := ps, assign, body, defers := B })) W3 →
        (∃ r, W3.heap[B + 1]? = some (.loop r)) ∧ (Instr.endRound (B + 1) jump).run P W3 = .ok (.bool jump.isNone) (W3.putObj (B + 1) (rec (if jump.isNone then .ready else .done) jump)) ∧ B + 2 ≤ W3.heap.size ∧
        (W3.putObj (B + 1) (rec (if jump.isNone then .ready else .done) jump)).heap[B + 1]? = some (rec (if jump.isNone then .ready else .done) jump) ∧
        (W3.putObj (B + 1) (rec (if jump.isNone then .ready else .done) jump)).heap[B]? = some (.deferred (some [])) := fun jump W3 hk3 => by
      have hl3 := (hk3.same (B + 1) (by omega) (.inl (by omega))).trans hl2
      have hd3 := (hk3.same B (by omega) (.inl (by omega))).trans hd2
      have hs3 := hk3.size
      have he := run_endRound (P := P) jump hl3
      rw [hrec]
      exact ⟨⟨_, hl3⟩, he, by omega, World.putObj_heap_same (by omega), (World.putObj_heap_other (by omega)).trans hd3⟩
    rintro e a3 W3 hp
    cases e with
    | normal =>
      obtain ⟨hk3, hi3⟩ := hp
      obtain ⟨_, hr, hs3, hl4, hd4⟩ := fin none W3 hk3
      exact ⟨_, _, hr, .inl ⟨rfl, ⟨hI.put _ hi3 (by omega) (by omega), hl4, hd4⟩, (hk2.trans (mv _ _ hk3)).trans (kp _ _ hs3)⟩⟩
    | ret =>
      obtain ⟨hk3, hi3⟩ := hp
      obtain ⟨⟨r3, hr3⟩, hr, hs3, hl4, hd4⟩ := fin (some .ret) W3 hk3
      exact ⟨_, _, hr, .inr ⟨rfl, .ret, hIx _ _ _ _ _ hi3 hr3, hl4, hd4⟩⟩
    | exit id =>
      obtain ⟨hk3, hi3⟩ := hp
      obtain ⟨⟨r3, hr3⟩, hr, hs3, hl4, hd4⟩ := fin (some (.exit id)) W3 hk3
      exact ⟨_, _, hr, .inr ⟨rfl, .exit id, hIx _ _ _ _ _ hi3 hr3, hl4, hd4⟩⟩
    | goto t => exact hp.elim
    | panic ch => exact hp.elim
    | outgrown => exact hp.elim
  · rintro e W2 ⟨⟨v, rfl⟩, (⟨xs, hS, hi, hl, hd⟩ | ⟨pre, hSp, c, hi, hl, hd⟩)⟩
    · have hlt := (Array.getElem?_eq_some_iff.1 hl).1
      rw [hrec] at hl
      exact ⟨none, _, run_endLoop (P := P) hl (by simp), hdone _ _ hS (hI.put _ hi (by omega) hlt) ((World.putObj_heap_other (by omega)).trans hd)⟩
    · have hlt := (Array.getElem?_eq_some_iff.1 hl).1
      rw [hrec] at hl
      exact ⟨some c, _, run_endLoop (P := P) hl (by simp), hstop c _ _ hSp (hIx _ _ _ _ _ hi hl) ((World.putObj_heap_other (by omega)).trans hd)⟩
end Go.Proofs.YtocmjlnhcloccaaGreatDoor
namespace Go.Proofs.YtocmjlnhcloccaaGreatDoor
open Go.RowKit Go.Shelf
attribute [local go_sem] Oper.semAt_some

def dupB (l : List Int) (i : Nat) : Bool := decide (firstI l (l.getD i 0) < i)
def setTo (n : Nat) (l : List Int) (k : Nat) : Bool := (List.range k).all fun i => (decide (0 ≤ l.getD i 0) && decide (l.getD i 0 < n)) && !dupB l i
/-- may places be a set's, of so many columns? -/
def setOk (n : Nat) (l : List Int) : Bool := decide (1 ≤ l.length) && (decide (l.length ≤ 4) && setTo n l l.length)
def nullAt (cols : List Col) (l : List Int) (i : Nat) : Bool := (cols.getD (l.getD i 0).toNat col0).u
def nullTo (cols : List Col) (l : List Int) (k : Nat) : Bool := (List.range k).all fun i => !nullAt cols l i
def loopTo (cols : List Col) (first : Bool) (l : List Int) (k : Nat) : Bool := (List.range k).all fun i => !(first && nullAt cols l i) && !dupB l i
def okSet (cols : List Col) (first : Bool) (l : List Int) : Bool := (decide (1 ≤ l.length) && decide (l.length ≤ 4)) && (inAll cols.length l && loopTo cols first l l.length)
theorem all_range_getD (l : List Int) (p : Int → Bool) : ((List.range l.length).all fun i => p (l.getD i 0)) = l.all p := by
  rw [Bool.eq_iff_iff, List.all_eq_true, List.all_eq_true]
  constructor
  · intro h x hx
    obtain ⟨i, hi, rfl⟩ := List.getElem_of_mem hx
    have := h i (List.mem_range.2 hi)
    rwa [List.getD_eq_getElem?_getD, List.getElem?_eq_getElem hi] at this
  · intro h i hi
    rw [List.mem_range] at hi
    rw [List.getD_eq_getElem?_getD, List.getElem?_eq_getElem hi]
    exact h _ (List.getElem_mem hi)
theorem all_and {α : Type} (l : List α) (p q : α → Bool) : (l.all fun i => p i && q i) = (l.all p && l.all q) := by
  induction l with
  | nil => rfl
  | cons a l ih =>
    simp only [List.all_cons]
    rw [ih]
    cases p a <;> cases q a <;> simp
theorem okSet_eq (cols : List Col) (first : Bool) (l : List Int) : okSet cols first l = (setOk cols.length l && (!first || nullTo cols l l.length)) := by
  unfold okSet setOk setTo loopTo nullTo
  rw [all_and, all_and, all_range_getD l (fun x => decide (0 ≤ x) && decide (x < cols.length))]
  unfold inAll
  generalize decide (1 ≤ l.length) = a
  generalize decide (l.length ≤ 4) = b
  generalize (l.all fun x => decide (0 ≤ x) && decide (x < (cols.length : Int))) = c
  generalize ((List.range l.length).all fun i => !dupB l i) = d
  cases first
  · simp only [Bool.false_and, Bool.not_false, Bool.true_or, Bool.and_true]
    rw [show ((List.range l.length).all fun _ => true) = true by rw [List.all_eq_true]; intros; rfl]
    cases a <;> cases b <;> cases c <;> cases d <;> rfl
  · simp only [Bool.true_and, Bool.not_true, Bool.false_or]
    generalize ((List.range l.length).all fun i => !nullAt cols l i) = e
    cases a <;> cases b <;> cases c <;> cases d <;> cases e <;> rfl

/-- a schema's sets, by number -/
def setAt (S : Sch) (i : Nat) : List Int := if i = 0 then S.key else S.uqs.getD (i - 1) []
def setsTo (S : Sch) (k : Nat) : Bool := (List.range k).all fun i => okSet S.cols (i == 0) (setAt S i)
theorem setsTo_succ (S : Sch) (k : Nat) : setsTo S (k + 1) = (setsTo S k && okSet S.cols (k == 0) (setAt S k)) := by
  unfold setsTo
  rw [List.range_succ, List.all_append]
  simp
theorem setsTo_le (S : Sch) (n k : Nat) (h : k ≤ n) (hk : setsTo S k = false) : setsTo S n = false := by
  unfold setsTo at *
  rw [List.all_eq_false] at *
  obtain ⟨x, hx, hp⟩ := hk
  exact ⟨x, by rw [List.mem_range] at *; omega, hp⟩
def hAt (hs : List (Option Addr × Nat)) (j : Nat) : Option Addr × Nat := hs.getD j (none, 0)
def SetsAt (w : World) (oa : Option Addr) (l : List (List Int)) (hs : List (Option Addr × Nat)) : Prop := ∀ (j : Nat) (h : j < l.length), ∃ a, oa = some a ∧ w.cell? (a.add j) = some (.slice (hAt hs j).1 l[j].length (hAt hs j).2) ∧ l[j].length ≤ (hAt hs j).2 ∧ IntsIn w (hAt hs j).1 l[j]
theorem pick_list' {α : Type} {p : Nat → α → Prop} : ∀ (n : Nat), (∀ i, i < n → ∃ v, p i v) → ∃ l : List α, l.length = n ∧ ∀ (i : Nat) (h : i < l.length), p i l[i]
  | 0, _ => ⟨[], rfl, fun i h => absurd h (Nat.not_lt_zero i)⟩
  | n + 1, h => by
    obtain ⟨l, hl, hp⟩ := pick_list' n (fun i hi => h i (by omega))
    obtain ⟨v, hv⟩ := h n (by omega)
    refine ⟨l ++ [v], by simp [hl], fun i hi => ?_⟩
    by_cases hlt : i < l.length
    · rw [List.getElem_append_left hlt]
      exact hp i hlt
    · have : i = n := by simp at hi; omega
      subst this
      rw [List.getElem_append_right (by omega)]
      simpa [hl] using hv
theorem SetsIn.at {w : World} {oa : Option Addr} {l : List (List Int)} (h : SetsIn w oa l) : ∃ hs, SetsAt w oa l hs := by
  obtain ⟨hs, h1, h2⟩ := pick_list' (p := fun j (x : Option Addr × Nat) => ∀ h : j < l.length, ∃ a, oa = some a ∧ w.cell? (a.add j) = some (.slice x.1 l[j].length x.2) ∧ l[j].length ≤ x.2 ∧ IntsIn w x.1 l[j]) l.length (fun i hi => by
    obtain ⟨a, ob, cb, e, hc, hl, hi'⟩ := h i hi
    exact ⟨(ob, cb), fun _ => ⟨a, e, hc, hl, hi'⟩⟩)
  refine ⟨hs, fun j hj => ?_⟩
  have := h2 j (by omega) hj
  unfold hAt
  rw [List.getD_eq_getElem?_getD, List.getElem?_eq_getElem (by omega)]
  exact this
theorem SetsAt.keep {w w' : World} {B : Nat} {oa : Option Addr} {l : List (List Int)} {hs : List (Option Addr × Nat)} (h : SetsAt w oa l hs) (hb : Below B w w') (hB : w.heap.size ≤ B) : SetsAt w' oa l hs := fun j hj => by
  obtain ⟨a, e, hc, hl, hi⟩ := h j hj
  refine ⟨a, e, ?_, hl, hi.keep hb hB⟩
  rw [hb.cell (by have := World.block_lt_of_cell? w _ hc; omega)]
  exact hc

theorem add_block (a : Addr) (n : Nat) : (a.add n).block = a.block := by unfold Addr.add; split <;> rfl
/-- what is handed on: a set's number, and its places -/
def svS (p : SchV) (S : Sch) (hs : List (Option Addr × Nat)) (x : Nat) : Value := if x = 0 then .slice p.ok S.key.length p.ck else .slice (hAt hs (x - 1)).1 (S.uqs.getD (x - 1) []).length (hAt hs (x - 1)).2
def encS (p : SchV) (S : Sch) (hs : List (Option Addr × Nat)) (x : Nat) : Array Value := #[.int .i64 x, svS p S hs x]
theorem encS_next (p : SchV) (S : Sch) (hs : List (Option Addr × Nat)) (k : Nat) (hk : k < S.uqs.length) : encS p S hs (k + 1) = #[.int .i64 (1 + (k : Int)), .slice (hAt hs k).1 S.uqs[k].length (hAt hs k).2] := by
  unfold encS svS
  rw [if_neg (by omega), Nat.add_sub_cancel, List.getD_eq_getElem?_getD, List.getElem?_eq_getElem hk]
  simp
  omega
def SpS (S : Sch) (pre : List Nat) : Prop := ∃ k, pre = List.range k ∧ k ≤ 1 + S.uqs.length
def GS (oa : Option Addr) (l : List (List Int)) (k : Nat) : Prop := (∃ a, oa = some a ∧ k = a.block) ∧ l ≠ []

set_option maxRecDepth 100000 in
set_option maxHeartbeats 2000000 in
theorem lsets_turns (n : Nat) (hn : 1 ≤ n) (p : SchV) (S : Sch) (om : Option Nat) (hs : List (Option Addr × Nat)) (w : World) (hl : S.uqs.length ≤ 1000) (hS : SetsAt w p.ou S.uqs hs) :
    SeqTurns Fence.wide n Tryz.prog 112 #[.agg #[.slice p.oc S.cols.length p.cc, .slice p.ok S.key.length p.ck, .slice p.ou S.uqs.length p.cu, .map om]] #[] (encS p S hs) (GS p.ou S.uqs) (fun xs => xs = List.range (1 + S.uqs.length)) (SpS S) w := fun ll J Jx W hW hJ hY h0 => by
  have HSW := Lib.hid (hS.keep hW (Nat.le_refl _))
  have HJ0 := Lib.hid (hJ [] _ _ h0 ((Below.refl W.heap.size W).alloc (Nat.le_refl _) (.cells #[.slice p.oc S.cols.length p.cc, .slice p.ok S.key.length p.ck, .slice p.ou S.uqs.length p.cu, .map om] 116)))
  have HY0 := hY [] 0 _ HJ0.out ⟨1, rfl, by omega⟩ (by simp)
  rw [show encS p S hs 0 = #[.int .i64 0, .slice p.ok S.key.length p.ck] from rfl] at HY0
  have HY := Lib.hid hY
  have HE := Lib.hid (encS_next p S hs)
  have HSC : Hid (∀ j (h : j < S.uqs.length), ∃ a, p.ou = some a ∧ W.cell? (a.add j) = some (.slice (hAt hs j).1 S.uqs[j].length (hAt hs j).2)) := Lib.hid (fun j h => by
    obtain ⟨a, e, hc, _⟩ := HSW.out j h
    exact ⟨a, e, hc⟩)
  clear hY h0 hS hW HSW HJ0
  obtain ⟨oc, cc, ok, ck, ou, cu⟩ := p
  obtain ⟨cols, key, uqs⟩ := S
  simp only at *
  obtain ⟨fn, tmps, assign, body, hy, hR⟩ := HY0
  simp only [List.nil_append] at hR
  refine callsIn_of_wp Tryz.func112 rfl trivial ?_ rfl
  simp only [Tryz.ntmps112, List.size_toArray, List.length_cons, List.length_nil, Nat.reduceAdd, Nat.reduceSub, Array.replicate_succ, Array.replicate_zero, List.push_toArray, List.append_toArray, List.nil_append, List.cons_append]
  gi_wp2
  refine hR.mono ?_
  rintro e w2 (⟨rfl, hJ2, hk2⟩ | ⟨rfl, hJx2⟩)
  · have HJ2 := Lib.hid hJ2
    have hs2 := hk2.size
    have hc2 : w2.cell? ⟨W.heap.size, 2, none⟩ = some (.slice ou uqs.length cu) := (World.cell?_of_block (a := ⟨W.heap.size, 2, none⟩) (hk2.same W.heap.size (by simp) (.inl (Nat.le_refl _)))).trans (by simp [go_sem])
    have HSC2 : Hid (∀ j (h : j < uqs.length), ∃ a, ou = some a ∧ w2.cell? (a.add j) = some (.slice (hAt hs j).1 uqs[j].length (hAt hs j).2)) := Lib.hid (fun j h => by
      obtain ⟨a, e, hc⟩ := HSC.out j h
      refine ⟨a, e, ?_⟩
      have hlt := World.block_lt_of_cell? W _ hc
      rw [World.cell?_of_block (hk2.same (a.add j).block (by simp; omega) (.inr ⟨⟨a, e, by rw [add_block]⟩, fun e0 => by rw [show uqs = [] from e0] at h; cases h⟩)), World.cell?_alloc_lt _ _ _ hlt]
      exact hc)
    clear hJ2 hk2 HSC hy hR
    gi_wp2
    gi_loopw [16] (fun i wr => ∃ k : Nat, k ≤ uqs.length ∧ i = .int .i64 k ∧ Hid (J (List.range (k + 1)) wr) ∧ Hid (∀ j (h : j < uqs.length), ∃ a, ou = some a ∧ wr.cell? (a.add j) = some (.slice (hAt hs j).1 uqs[j].length (hAt hs j).2)) ∧ W.heap.size < wr.heap.size) (fun i _ => uqs.length - (intOf i).toNat)
    case atStart => exact ⟨0, Nat.zero_le _, rfl, HJ2, HSC2, by simp at hs2; omega⟩
    case round =>
      obtain ⟨k, hk, rfl, HJ3, HSC3, hsz⟩ := hrel
      clear hc2 HSC2 HJ2
      by_cases hlt : k < uqs.length
      · obtain ⟨a, rfl, hcell⟩ := HSC3.out k hlt
        have HYk := HY.out (List.range (k + 1)) (k + 1) wr HJ3.out ⟨k + 2, by rw [List.range_succ (n := k + 1)], by show k + 2 ≤ 1 + uqs.length; omega⟩ (by omega)
        rw [HE.out k hlt, ← List.range_succ (n := k + 1)] at HYk
        obtain ⟨fn, tmps, assign, body, hy, hR⟩ := HYk
        gi_wp2
        refine hR.mono ?_
        rintro e w4 (⟨rfl, hJ4, hk4⟩ | ⟨rfl, hJx4⟩)
        · have HJ4 := Lib.hid hJ4
          have hs4 := hk4.size
          have HSC4 : Hid (∀ j (h : j < uqs.length), ∃ a', some a = some a' ∧ w4.cell? (a'.add j) = some (.slice (hAt hs j).1 uqs[j].length (hAt hs j).2)) := Lib.hid (fun j h => by
            obtain ⟨a', e, hc⟩ := HSC3.out j h
            refine ⟨a', e, ?_⟩
            have hlt := World.block_lt_of_cell? wr _ hc
            rw [World.cell?_of_block (hk4.same (a'.add j).block hlt (.inr ⟨⟨a', e, by rw [add_block]⟩, fun e0 => by rw [show uqs = [] from e0] at h; cases h⟩))]
            exact hc)
          clear hJ4 hk4 hy hR hcell HJ3 HSC3
          gi_wp2
          go_roundw
          case rel => exact ⟨k + 1, by omega, by go_num, HJ4, HSC4, by omega⟩
          case measure => simp [intOf]; omega
        · have HJ4 := Lib.hid hJx4
          clear hJx4 hy hR hcell
          gi_wp2
          refine bodyPost_ret (results_none rfl _ _ _) rfl ?_
          exact ⟨⟨_, rfl⟩, .inr ⟨List.range (k + 1 + 1), ⟨k + 2, rfl, by show k + 2 ≤ 1 + uqs.length; omega⟩, HJ4.out⟩⟩
      · obtain rfl : k = uqs.length := by omega
        gi_wp2
        go_end0
        exact ⟨⟨_, rfl⟩, .inl ⟨_, by rw [Nat.add_comm], HJ3.out⟩⟩
  · have HJ4 := Lib.hid hJx2
    clear hJx2 hy hR
    gi_wp2
    refine bodyPost_ret (results_none rfl _ _ _) rfl ?_
    exact ⟨⟨_, rfl⟩, .inr ⟨[0], ⟨1, rfl, by omega⟩, HJ4.out⟩⟩
end Go.Proofs.YtocmjlnhcloccaaGreatDoor
namespace Go.Proofs.YtocmjlnhcloccaaGreatDoor
open Go.RowKit Go.Shelf
attribute [local go_sem] Oper.semAt_some

theorem scope_wide {n : Nat} {P : Program} {c : Code} {Q : Exit → Act → World → Prop} {a : Act} {w : World} (h : c.wpIn Fence.wide n P (Exit.noGoto Q) a w) : (Code.scope c).wpIn Fence.wide n P Q a w :=
  wpIn_wide.2 (wp_scope_straight (wpIn_wide.1 h))
theorem Keep.of_below {B : Nat} {G : Nat → Prop} {X Y : World} (h : Below X.heap.size X Y) : Keep B G X Y := ⟨h.size, fun k hk _ => h.block k hk⟩
theorem loopTo_succ (cols : List Col) (first : Bool) (l : List Int) (k : Nat) : loopTo cols first l (k + 1) = (loopTo cols first l k && (!(first && nullAt cols l k) && !dupB l k)) := by
  unfold loopTo
  rw [List.range_succ, List.all_append]
  simp
theorem loopTo_no (cols : List Col) (first : Bool) (l : List Int) (k : Nat) (hk : k < l.length) (h : (!(first && nullAt cols l k) && !dupB l k) = false) : okSet cols first l = false := by
  have : loopTo cols first l l.length = false := by
    unfold loopTo
    rw [List.all_eq_false]
    exact ⟨k, List.mem_range.2 hk, by rw [h]; simp⟩
  unfold okSet
  rw [this, Bool.and_false, Bool.and_false]
theorem sp_last {S : Sch} {pre : List Nat} {x : Nat} (h : SpS S (pre ++ [x])) : pre = List.range x ∧ x < 1 + S.uqs.length := by
  obtain ⟨k, hk, hl⟩ := h
  cases k with
  | zero => simp at hk
  | succ k =>
    rw [List.range_succ] at hk
    have := List.append_inj' hk rfl
    obtain ⟨h1, h2⟩ := this
    obtain rfl : x = k := by simpa using h2
    exact ⟨h1, by omega⟩
theorem sv_at (p : SchV) (S : Sch) (hs : List (Option Addr × Nat)) (w : World) (x : Nat) (hk : IntsIn w p.ok S.key) (hu : SetsAt w p.ou S.uqs hs) (hx : x < 1 + S.uqs.length) : ∃ ob cb, svS p S hs x = .slice ob (setAt S x).length cb ∧ IntsIn w ob (setAt S x) := by
  unfold svS setAt
  cases x with
  | zero => exact ⟨_, _, rfl, hk⟩
  | succ j =>
    have hj : j < S.uqs.length := by omega
    obtain ⟨a, e, hc, hl, hi⟩ := hu j hj
    refine ⟨(hAt hs j).1, (hAt hs j).2, by rw [if_neg (by omega), if_neg (by omega)]; rfl, ?_⟩
    rw [if_neg (by omega), Nat.add_sub_cancel, List.getD_eq_getElem?_getD, List.getElem?_eq_getElem hj]
    exact hi
structure CsIn (w : World) (p : SchV) (S : Sch) (W : World) : Prop where
  b : Below w.heap.size w W
  c0 : W.cell? ⟨w.heap.size, 0, none⟩ = some (.slice p.oc S.cols.length p.cc)
  e0 : W.cell? ⟨w.heap.size + 1, 0, none⟩ = some .nilIface
  ef : W.frozen? ⟨w.heap.size + 1, 0, none⟩ = false
  sz : w.heap.size + 1 < W.heap.size
theorem CsIn.keep {w : World} {p : SchV} {S : Sch} {W W' : World} {B : Nat} (h : CsIn w p S W) (hb : Below B W W') (hB : w.heap.size + 2 ≤ B) : CsIn w p S W' :=
  ⟨h.b.trans (hb.mono (by omega)), by rw [hb.cell (p := ⟨w.heap.size, 0, none⟩) (by simp; omega)]; exact h.c0, by rw [hb.cell (p := ⟨w.heap.size + 1, 0, none⟩) (by simp; omega)]; exact h.e0, by rw [hb.frozen (p := ⟨w.heap.size + 1, 0, none⟩) (by simp; omega)]; exact h.ef, by have := h.sz; have := hb.size; omega⟩
/-- an error lies in its box -/
structure CsErr (w : World) (W : World) : Prop where
  ex : ∃ b, W.cell? ⟨w.heap.size + 1, 0, none⟩ = some (.iface 138 (.pointer (some ⟨b, 0, none⟩))) ∧ W.cell? ⟨b, 1, none⟩ = some (.int .i64 2) ∧ w.heap.size + 1 < b
  ef : W.frozen? ⟨w.heap.size + 1, 0, none⟩ = false
  b : Below w.heap.size w W
theorem CsErr.put {w W : World} {l : Nat} {r : Loop} (h : CsErr w W) (hl : W.heap[l]? = some (.loop r)) (hlw : w.heap.size + 1 < l) (o : Obj) : CsErr w (W.putObj l o) := by
  obtain ⟨⟨b, h1, h2, h3⟩, hf, hb⟩ := h
  have hne : b ≠ l := fun e => by
    subst e
    simp [World.cell?, hl] at h2
  refine ⟨⟨b, ?_, ?_, h3⟩, ?_, ?_⟩
  · rw [World.cell?_of_block (World.putObj_heap_other (by simp; omega))]; exact h1
  · rw [World.cell?_of_block (World.putObj_heap_other (by simpa using hne))]; exact h2
  · rw [World.frozen?_of_block (World.putObj_heap_other (by simp; omega))]; exact hf
  · exact ⟨hb.os, hb.tape, hb.output, by simp; exact hb.size, fun k hk => (World.putObj_heap_other (by omega)).trans (hb.block k hk)⟩
theorem below_put {B : Nat} {w W : World} (hb : Below B w W) {l : Nat} (hl : B ≤ l) (o : Obj) : Below B w (W.putObj l o) :=
  ⟨hb.os, hb.tape, hb.output, by simp; exact hb.size, fun k hk => (World.putObj_heap_other (by omega)).trans (hb.block k hk)⟩
theorem cell_put {W : World} {a : Addr} {v : Value} {l : Nat} (h : W.cell? a = some v) {ds : Option (List Deferred)} (hl : W.heap[l]? = some (.deferred ds)) (o : Obj) : (W.putObj l o).cell? a = some v := by
  have hne : a.block ≠ l := fun e => by
    simp [World.cell?, e, hl] at h
  rw [World.cell?_of_block (World.putObj_heap_other hne)]
  exact h
/-- behind a refusal that is stored -/
theorem CsErr.of {w w' W : World} {b : Nat} {p : SchV} {S : Sch} (h : CsIn w p S W) (hb : Below W.heap.size W w') (h2 : w'.cell? ⟨b, 1, none⟩ = some (.int .i64 2)) (hw : W.heap.size ≤ b) : CsErr w (w'.setCell ⟨w.heap.size + 1, 0, none⟩ (.iface 138 (.pointer (some ⟨b, 0, none⟩)))) := by
  have hsz := h.sz
  have k := h.keep hb (by omega)
  refine ⟨⟨b, ?_, ?_, by omega⟩, ?_, k.b.setCell (p := ⟨w.heap.size + 1, 0, none⟩) (by simp) _⟩
  · exact World.cell?_setCell_same' _ _ _ (by rw [k.e0]; rfl)
  · exact (World.cell?_setCell_other _ _ _ _ (by intro e; simp at e)).trans h2
  · rw [World.frozen?_setCell]; exact k.ef

set_option maxRecDepth 100000 in
set_option maxHeartbeats 8000000 in
theorem checkSets_any (p : SchV) (S : Sch) (om : Option Nat) (w : World) (hf : S.uqs.length ≤ 6) (hcl : S.cols.length ≤ 1000) (hS : SchIn w p S) :
    Calls Tryz.prog 107 #[.agg #[.slice p.oc S.cols.length p.cc, .slice p.ok S.key.length p.ck, .slice p.ou S.uqs.length p.cu, .map om]] w fun e w' =>
      (setsTo S (1 + S.uqs.length) = true ∧ e = .returned .nilIface ∧ Below w.heap.size w w') ∨ (setsTo S (1 + S.uqs.length) = false ∧ IsMis 2 w e w') := by
  obtain ⟨hs, hU⟩ := hS.uqs.at
  have HC := Lib.hid hS.cols
  have HK := Lib.hid hS.key
  have HU := Lib.hid hU
  have hou : ∀ k, GS p.ou S.uqs k → k < w.heap.size := fun k hk => by
    obtain ⟨⟨a, e, rfl⟩, hne⟩ := hk
    cases hu : S.uqs with
    | nil => exact absurd hu hne
    | cons x l =>
      obtain ⟨a', e', hc, _⟩ := hU 0 (by rw [hu]; simp)
      rw [e] at e'
      cases e'
      have := World.block_lt_of_cell? w _ hc
      rwa [add_block] at this
  have HOU := Lib.hid hou
  clear hS hU hou
  refine (callsIn_wide (n := 5)).1 ?_
  refine callsIn_of_wp_marks Tryz.func107 rfl trivial ?_ rfl
  simp only [Tryz.ntmps107, List.size_toArray, List.length_cons, List.length_nil, Nat.reduceAdd, Nat.reduceSub, Array.replicate_succ, Array.replicate_zero, List.push_toArray, List.append_toArray, List.nil_append, List.cons_append]
  gi_wp2
  refine scope_wide ?_
  gi_wp2
  refine wpIn_label ?_
  gi_wp2
  obtain ⟨W0, hW0⟩ : ∃ W0, (w.alloc (.cells #[.slice p.oc S.cols.length p.cc, .slice p.ok S.key.length p.ck, .slice p.ou S.uqs.length p.cu, .map om] 116)).alloc (.cells #[.nilIface] 112) = W0 := ⟨_, rfl⟩
  have hb0 : Below w.heap.size w W0 := by rw [← hW0]; exact ((Below.refl _ _).alloc (Nat.le_refl _) _).alloc (by simp) _
  have hsz0 : W0.heap.size = w.heap.size + 2 := by rw [← hW0]; simp
  have hI0 : CsIn w p S W0 := ⟨hb0, by rw [← hW0]; simp [go_sem], by rw [← hW0]; simp [go_sem], by rw [← hW0]; simp [go_sem], by omega⟩
  rw [hW0]
  clear hW0
  have HI0 := Lib.hid hI0
  have HB0 := Lib.hid hb0
  clear hI0 hb0
  refine wpIn_turns (F := Fence.wide) (G := GS p.ou S.uqs) rfl (by decide) (gf := 112) (fb := #[.agg #[.slice p.oc S.cols.length p.cc, .slice p.ok S.key.length p.ck, .slice p.ou S.uqs.length p.cu, .map om]]) (lb := #[]) rfl trivial (enters_of Tryz.func112 (by kernel_rfl) rfl)
    (lsets_turns 4 (by decide) p S om hs W0 (by omega) (HU.out.keep HB0.out (Nat.le_refl _))) (fun k hk => by have := HOU.out k hk; omega) (fun x => rfl)
    (fun pre W => setsTo S pre.length = true ∧ CsIn w p S W)
    (fun c pre W => c = .exit 0 ∧ setsTo S (1 + S.uqs.length) = false ∧ CsErr w W)
    (fun s A A' h hb => ⟨h.1, h.2.keep hb (by omega)⟩)
    (fun c pre W r o h hr => ⟨h.1, h.2.1, h.2.2.put hr (by omega) o⟩)
    ⟨rfl, HI0.out⟩
    (fun x => { tmps := #[.agg #[.slice p.oc S.cols.length p.cc, .slice p.ok S.key.length p.ck, .slice p.ou S.uqs.length p.cu, .map om], .pointer (some ⟨w.heap.size, 0, none⟩), .pointer (some ⟨w.heap.size + 1, 0, none⟩), .int .i64 x, svS p S hs x, undef, undef, undef, undef, .agg #[.slice p.oc S.cols.length p.cc, .slice p.ok S.key.length p.ck, .slice p.ou S.uqs.length p.cu, .map om], .func (.func 112) #[.agg #[.slice p.oc S.cols.length p.cc, .slice p.ok S.key.length p.ck, .slice p.ou S.uqs.length p.cu, .map om]] #[], .int .i64 x, svS p S hs x, undef, undef, undef, undef, undef, undef, undef, undef, undef, undef, undef, undef, undef, undef, undef, undef, undef, undef, undef, undef, undef, undef, undef, undef, undef, undef, undef, undef, undef, undef, undef, undef, undef, undef, undef, undef, undef, undef, undef, undef, undef, undef, undef, undef, undef, undef, undef, undef], defers := [] }) ?assign ?body ?done ?stop
  case assign =>
    intro l x W K hK
    simp only [encS]
    gi_wp2
    exact hK
  case body =>
    rintro l pre x W ⟨hgood, hc⟩ hsp hszW
    obtain ⟨rfl, hx⟩ := sp_last hsp
    rw [List.length_range] at hgood
    obtain ⟨ob, cb, hsv, hob0⟩ := sv_at p S hs w x HK.out HU.out hx
    have HOB := Lib.hid (hob0.keep hc.b (Nat.le_refl _))
    have HCOL := Lib.hid (HC.out.keep hc.b (Nat.le_refl _))
    have hgo : setsTo S (x + 1) = okSet S.cols (x == 0) (setAt S x) := by rw [setsTo_succ, hgood, Bool.true_and]
    have hall : okSet S.cols (x == 0) (setAt S x) = false → setsTo S (1 + S.uqs.length) = false := fun h => setsTo_le S _ (x + 1) (by omega) (hgo.trans h)
    have HGO := Lib.hid hgo
    have HALL := Lib.hid hall
    have HCC := Lib.hid hc
    have c0 := hc.c0
    have hzz := hc.sz
    dsimp only
    rw [hsv]
    generalize setAt S x = L at *
    clear hgood hgo hall hc hsp hsv hob0
    by_cases h1 : 1 ≤ L.length
    · by_cases h4 : L.length ≤ 4
      · have HP := Lib.hid (pickC_any p.oc p.cc S.cols ob cb L W hcl (by omega) HCOL.out HOB.out)
        gi_wp2_with fail
        refine ⟨trivial, ?_⟩
        refine (CallsIn.inRound l (callsIn_wide.2 HP.out)).mono ?_
        rintro e w2 (⟨hin, ⟨b, rfl, hpc⟩, hb2⟩ | ⟨hin, ⟨b, rfl, hbl, hcb2⟩, hb2⟩)
        · have k2 := HCC.out.keep hb2 (by omega)
          have HK2 := Lib.hid k2
          have HPC := Lib.hid hpc
          have HIN := Lib.hid hin
          have HOB2 := Lib.hid (HOB.out.keep hb2 (Nat.le_refl _))
          have hs2 := hb2.size
          clear hpc hin k2
          gi_wp2_with fail
          refine ⟨trivial, ?_⟩
          refine (CallsIn.inRound l (callsIn_wide.2 (is_none _))).mono ?_
          rintro e w' ⟨rfl, rfl⟩
          have HB2 := Lib.hid hb2
          have hL : (pickL col0 S.cols L).length = L.length := by simp [pickL]
          clear hb2 HP
          gi_wp2_with fail
          gi_loopw [36] (fun i wr => ∃ k : Nat, k ≤ L.length ∧ i = .int .i64 k ∧ Hid (loopTo S.cols (x == 0) L k = true) ∧ Hid (Below w2.heap.size w2 wr)) (fun i _ => L.length - (intOf i).toNat)
          case atStart => exact ⟨0, Nat.zero_le _, rfl, Lib.hid rfl, Lib.hid (Below.refl _ _)⟩
          case round =>
            obtain ⟨k, hk, rfl, HLP, HBR⟩ := hrel
            have HBW : Hid (Below W.heap.size W wr) := Lib.hid (HB2.out.trans (HBR.out.mono HB2.out.size))
            have hsr := HBR.out.size
            by_cases hlt : k < L.length
            · obtain ⟨y, hy⟩ : ∃ y, L[k] = y := ⟨_, rfl⟩
              obtain ⟨a0, e0, hat⟩ := HPC.out.keep HBR.out (Nat.le_refl _) k (by omega)
              cases e0
              rw [add4] at hat
              have hcu : ((pickL col0 S.cols L)[k]'(by omega)).u = nullAt S.cols L k := by
                unfold nullAt
                rw [List.getD_eq_getElem?_getD (l := L), List.getElem?_eq_getElem hlt]
                simp [pickL]
              generalize (pickL col0 S.cols L)[k]'(by omega) = c at hat hcu
              have hal : b < wr.heap.size := hat.lt
              obtain ⟨q0, q1, q2, q3⟩ := hat
              obtain ⟨ai, rfl, hic⟩ := HOB2.out.keep HBR.out (Nat.le_refl _) k hlt
              have HIX : Hid (∀ W', Below wr.heap.size wr W' → Calls Tryz.prog 141 #[.slice (some ai) L.length cb, .int .i64 y] W' fun e w' => e = .returned (.int .i64 (firstI L y)) ∧ W' = w') := Lib.hid (fun W' hb => iIndex_any (some ai) cb L y W' (by omega) ((HOB2.out.keep HBR.out (Nat.le_refl _)).keep hb (Nat.le_refl _)))
              rw [hy] at hic
              have hdup : dupB L k = decide (firstI L y < k) := by
                unfold dupB
                rw [List.getD_eq_getElem?_getD, List.getElem?_eq_getElem hlt, hy]
                rfl
              have hail : (ai.add k).block < wr.heap.size := World.block_lt_of_cell? wr _ hic
              cases hnull : (x == 0) && nullAt S.cols L k
              · cases hd : dupB L k
                · have HNX := Lib.hid (show loopTo S.cols (x == 0) L (k + 1) = true by rw [loopTo_succ, HLP.out, hnull, hd]; rfl)
                  have hge : ¬ firstI L y < (k : Int) := by rw [hd] at hdup; simpa using hdup.symm
                  have HN2 := Lib.hid hnull
                  have HCU := Lib.hid hcu
                  generalize firstI L y = fi at *
                  clear hnull hd hdup hcu hy HIN
                  rcases eqI x 0 with ⟨p1, p2, p3, p4⟩ | ⟨p1, p2, p3⟩
                  · have hu : c.u = false := by
                      have h := HN2.out
                      rw [show (x == 0) = true by rw [beq_iff_eq]; omega] at h
                      rw [HCU.out]
                      simpa using h
                    rw [hu] at q3
                    gi_wp2_with fail
                    refine ⟨trivial, ?_⟩
                    refine (CallsIn.inRound l (callsIn_wide.2 (HIX.out _ ((Below.refl _ _).alloc (Nat.le_refl _) _)))).mono ?_
                    rintro e w' ⟨rfl, rfl⟩
                    gi_wp2_with fail
                    go_roundw
                    case rel => exact ⟨k + 1, by omega, by go_num, HNX, Lib.hid (HBR.out.alloc hsr _)⟩
                    case measure => simp [intOf]; omega
                  · gi_wp2_with fail
                    refine ⟨trivial, ?_⟩
                    refine (CallsIn.inRound l (callsIn_wide.2 (HIX.out _ ((Below.refl _ _).alloc (Nat.le_refl _) _)))).mono ?_
                    rintro e w' ⟨rfl, rfl⟩
                    gi_wp2_with fail
                    go_roundw
                    case rel => exact ⟨k + 1, by omega, by go_num, HNX, Lib.hid (HBR.out.alloc hsr _)⟩
                    case measure => simp [intOf]; omega
                · have HIN2 := Lib.hid (HALL.out (loopTo_no _ _ _ k hlt (by rw [hnull, hd]; rfl)))
                  have hge : firstI L y < (k : Int) := by rw [hd] at hdup; simpa using hdup.symm
                  have HN2 := Lib.hid hnull
                  have HCU := Lib.hid hcu
                  generalize firstI L y = fi at *
                  clear hnull hd hdup hcu hy HIN
                  rcases eqI x 0 with ⟨p1, p2, p3, p4⟩ | ⟨p1, p2, p3⟩
                  · have hu : c.u = false := by
                      have h := HN2.out
                      rw [show (x == 0) = true by rw [beq_iff_eq]; omega] at h
                      rw [HCU.out]
                      simpa using h
                    rw [hu] at q3
                    gi_wp2_with fail
                    refine ⟨trivial, ?_⟩
                    refine (CallsIn.inRound l (callsIn_wide.2 (HIX.out _ ((Below.refl _ _).alloc (Nat.le_refl _) _)))).mono ?_
                    rintro e w' ⟨rfl, rfl⟩
                    gi_wp2_with fail
                    refine ⟨trivial, ?_⟩
                    refine (CallsIn.inRound l (callsIn_wide.2 (refuse_any _ _))).mono ?_
                    rintro e w3 ⟨b3, rfl, hb3, hcb3, hbw3⟩
                    have hbT : Below W.heap.size W w3 := (HBW.out.alloc (by have := HBW.out.size; omega) _).trans (hbw3.mono (by have := HBW.out.size; simp; omega))
                    have k3 := HCC.out.keep hbT (by omega)
                    have e3 := k3.e0
                    have f3 := k3.ef
                    have HR := Lib.hid (And.intro HIN2.out (CsErr.of HCC.out hbT hcb3 (by have := HBW.out.size; simp at hb3; omega)))
                    have HKP := Lib.hid ((Keep.of_below (B := W0.heap.size) (G := GS p.ou S.uqs) hbT).setCell (p := ⟨w.heap.size + 1, 0, none⟩) (by simp; omega) (fun h => by have := HOU.out _ h; simp at this; omega) (.iface 138 (.pointer (some ⟨b3, 0, none⟩))))
                    clear k3 hbw3 hbT
                    gi_wp2_with fail
                    exact ⟨HKP.out, rfl, HR.out.1, HR.out.2⟩
                  · gi_wp2_with fail
                    refine ⟨trivial, ?_⟩
                    refine (CallsIn.inRound l (callsIn_wide.2 (HIX.out _ ((Below.refl _ _).alloc (Nat.le_refl _) _)))).mono ?_
                    rintro e w' ⟨rfl, rfl⟩
                    gi_wp2_with fail
                    refine ⟨trivial, ?_⟩
                    refine (CallsIn.inRound l (callsIn_wide.2 (refuse_any _ _))).mono ?_
                    rintro e w3 ⟨b3, rfl, hb3, hcb3, hbw3⟩
                    have hbT : Below W.heap.size W w3 := (HBW.out.alloc (by have := HBW.out.size; omega) _).trans (hbw3.mono (by have := HBW.out.size; simp; omega))
                    have k3 := HCC.out.keep hbT (by omega)
                    have e3 := k3.e0
                    have f3 := k3.ef
                    have HR := Lib.hid (And.intro HIN2.out (CsErr.of HCC.out hbT hcb3 (by have := HBW.out.size; simp at hb3; omega)))
                    have HKP := Lib.hid ((Keep.of_below (B := W0.heap.size) (G := GS p.ou S.uqs) hbT).setCell (p := ⟨w.heap.size + 1, 0, none⟩) (by simp; omega) (fun h => by have := HOU.out _ h; simp at this; omega) (.iface 138 (.pointer (some ⟨b3, 0, none⟩))))
                    clear k3 hbw3 hbT
                    gi_wp2_with fail
                    exact ⟨HKP.out, rfl, HR.out.1, HR.out.2⟩
              · have HIN2 := Lib.hid (HALL.out (loopTo_no _ _ _ k hlt (by rw [hnull]; rfl)))
                rw [Bool.and_eq_true] at hnull
                obtain rfl : x = 0 := by simpa using hnull.1
                have hu : c.u = true := by rw [hcu]; exact hnull.2
                rw [hu] at q3
                clear hnull hdup hcu hy HIN
                gi_wp2_with fail
                refine ⟨trivial, ?_⟩
                refine (CallsIn.inRound l (callsIn_wide.2 (refuse_any _ _))).mono ?_
                rintro e w3 ⟨b3, rfl, hb3, hcb3, hbw3⟩
                have hbT : Below W.heap.size W w3 := (HBW.out.alloc (by have := HBW.out.size; omega) _).trans (hbw3.mono (by have := HBW.out.size; simp; omega))
                have k3 := HCC.out.keep hbT (by omega)
                have e3 := k3.e0
                have f3 := k3.ef
                have HR := Lib.hid (And.intro HIN2.out (CsErr.of HCC.out hbT hcb3 (by have := HBW.out.size; simp at hb3; omega)))
                have HKP := Lib.hid ((Keep.of_below (B := W0.heap.size) (G := GS p.ou S.uqs) hbT).setCell (p := ⟨w.heap.size + 1, 0, none⟩) (by simp; omega) (fun h => by have := HOU.out _ h; simp at this; omega) (.iface 138 (.pointer (some ⟨b3, 0, none⟩))))
                clear k3 hbw3 hbT
                gi_wp2_with fail
                exact ⟨HKP.out, rfl, HR.out.1, HR.out.2⟩
            · obtain rfl : k = L.length := by omega
              have HOKS := Lib.hid (show setsTo S (x + 1) = true by rw [HGO.out]; unfold okSet; rw [HIN.out, HLP.out]; simp [h1, h4])
              have HKP := Lib.hid (Keep.of_below (B := W0.heap.size) (G := GS p.ou S.uqs) HBW.out)
              have HCN := Lib.hid (HCC.out.keep HBW.out (by omega))
              clear HIN
              gi_wp2_with fail
              exact ⟨HKP.out, by simpa using HOKS.out, HCN.out⟩
        · have k2 := HCC.out.keep hb2 (by omega)
          have HK2 := Lib.hid k2
          have HIN := Lib.hid (HALL.out (by unfold okSet; rw [hin]; simp))
          have hs2 := hb2.size
          clear hin k2
          gi_wp2_with fail
          refine ⟨trivial, ?_⟩
          refine (CallsIn.inRound l (callsIn_wide.2 (is_mis b w2 hcb2))).mono ?_
          rintro e w' ⟨rfl, rfl⟩
          gi_wp2_with fail
          refine ⟨trivial, ?_⟩
          refine (CallsIn.inRound l (callsIn_wide.2 (refuse_any _ _))).mono ?_
          rintro e w3 ⟨b3, rfl, hb3, hcb3, hbw3⟩
          have k3 := HK2.out.keep hbw3 (by omega)
          have e3 := k3.e0
          have f3 := k3.ef
          have HR := Lib.hid (And.intro HIN.out (CsErr.of HK2.out hbw3 hcb3 hb3))
          have HKP := Lib.hid (((Keep.of_below (B := W0.heap.size) (G := GS p.ou S.uqs) hb2).trans (Keep.of_below hbw3)).setCell (p := ⟨w.heap.size + 1, 0, none⟩) (by simp; omega) (fun h => by have := HOU.out _ h; simp at this; omega) (.iface 138 (.pointer (some ⟨b3, 0, none⟩))))
          clear k3 hb2 hbw3
          gi_wp2_with fail
          exact ⟨HKP.out, rfl, HR.out.1, HR.out.2⟩
      · have HIN := Lib.hid (HALL.out (by unfold okSet; simp [h4]))
        gi_wp2_with fail
        refine ⟨trivial, ?_⟩
        refine (CallsIn.inRound l (callsIn_wide.2 (refuse_any _ _))).mono ?_
        rintro e w3 ⟨b3, rfl, hb3, hcb3, hbw3⟩
        have k3 := HCC.out.keep hbw3 (by omega)
        have e3 := k3.e0
        have f3 := k3.ef
        have HR := Lib.hid (And.intro HIN.out (CsErr.of HCC.out hbw3 hcb3 hb3))
        have HKP := Lib.hid ((Keep.of_below (B := W0.heap.size) (G := GS p.ou S.uqs) hbw3).setCell (p := ⟨w.heap.size + 1, 0, none⟩) (by simp; omega) (fun h => by have := HOU.out _ h; simp at this; omega) (.iface 138 (.pointer (some ⟨b3, 0, none⟩))))
        clear k3 hbw3
        gi_wp2_with fail
        exact ⟨HKP.out, rfl, HR.out.1, HR.out.2⟩
    · have HIN := Lib.hid (HALL.out (by unfold okSet; simp [h1]))
      gi_wp2_with fail
      refine ⟨trivial, ?_⟩
      refine (CallsIn.inRound l (callsIn_wide.2 (refuse_any _ _))).mono ?_
      rintro e w3 ⟨b3, rfl, hb3, hcb3, hbw3⟩
      have k3 := HCC.out.keep hbw3 (by omega)
      have e3 := k3.e0
      have f3 := k3.ef
      have HR := Lib.hid (And.intro HIN.out (CsErr.of HCC.out hbw3 hcb3 hb3))
      have HKP := Lib.hid ((Keep.of_below (B := W0.heap.size) (G := GS p.ou S.uqs) hbw3).setCell (p := ⟨w.heap.size + 1, 0, none⟩) (by simp; omega) (fun h => by have := HOU.out _ h; simp at this; omega) (.iface 138 (.pointer (some ⟨b3, 0, none⟩))))
      clear k3 hbw3
      gi_wp2_with fail
      exact ⟨HKP.out, rfl, HR.out.1, HR.out.2⟩
  case done =>
    rintro xs W rfl ⟨hgood, hc⟩ hD
    rw [List.length_range] at hgood
    have hG := Lib.hid hgood
    have hI := Lib.hid hc
    have e0 := hc.e0
    have ef := hc.ef
    have hz := hc.sz
    clear hgood hc
    gi_wp2
    rw [Exit.noGoto_ret]
    have hD' : (W.setCell ⟨w.heap.size + 1, 0, none⟩ .nilIface).heap[W0.heap.size]? = some (.deferred (some [])) := (Below.heap_setCell _ _ _ _ (by simp; omega)).trans hD
    refine ⟨by simp, .inl ⟨_, _, rfl, run_takeDeferred hD', ?_⟩⟩
    have hcell : ((W.setCell ⟨w.heap.size + 1, 0, none⟩ .nilIface).putObj W0.heap.size (.deferred none)).cell? ⟨w.heap.size + 1, 0, none⟩ = some .nilIface := cell_put (World.cell?_setCell_same' _ _ _ (by rw [hI.out.e0]; rfl)) hD' _
    exact ⟨.nilIface, by simp [results, Tryz.results107, go_sem, hcell], .inl ⟨hG.out, rfl, below_put (hI.out.b.setCell (p := ⟨w.heap.size + 1, 0, none⟩) (by simp) _) (by omega) _⟩⟩
  case stop =>
    rintro c pre W hsp ⟨rfl, hbad, hc⟩ hD
    obtain ⟨b, h1, h2, h3⟩ := hc.ex
    have ef := hc.ef
    have hG := Lib.hid hbad
    have hI := Lib.hid hc
    clear hbad hc
    gi_wp2
    rw [Exit.noGoto_ret]
    have hD' : (W.setCell ⟨w.heap.size + 1, 0, none⟩ (.iface 138 (.pointer (some ⟨b, 0, none⟩)))).heap[W0.heap.size]? = some (.deferred (some [])) := (Below.heap_setCell _ _ _ _ (by simp; omega)).trans hD
    refine ⟨by simp, .inl ⟨_, _, rfl, run_takeDeferred hD', ?_⟩⟩
    have hcell : ((W.setCell ⟨w.heap.size + 1, 0, none⟩ (.iface 138 (.pointer (some ⟨b, 0, none⟩)))).putObj W0.heap.size (.deferred none)).cell? ⟨w.heap.size + 1, 0, none⟩ = some (.iface 138 (.pointer (some ⟨b, 0, none⟩))) := cell_put (World.cell?_setCell_same' _ _ _ (by rw [h1]; rfl)) hD' _
    exact ⟨.iface 138 (.pointer (some ⟨b, 0, none⟩)), by simp [results, Tryz.results107, go_sem, hcell], .inr ⟨hG.out, b, rfl, by omega, cell_put ((World.cell?_setCell_other _ _ _ _ (by intro e; simp at e)).trans h2) hD' _, below_put (hI.out.b.setCell (p := ⟨w.heap.size + 1, 0, none⟩) (by simp) _) (by omega) _⟩⟩
end Go.Proofs.YtocmjlnhcloccaaGreatDoor
namespace Go.Proofs.YtocmjlnhcloccaaGreatDoor
open Go.RowKit

def dupC (l : List Col) (i : Nat) : Bool := decide (firstC l (l.getD i col0).n < i)
def colsTo (l : List Col) (k : Nat) : Bool := (List.range k).all fun i => colOk (l.getD i col0) && !dupC l i
/-- may a schema be? -/
def schOk (S : Sch) : Bool := (decide (1 ≤ S.cols.length) && (decide (S.cols.length ≤ 8) && decide (S.uqs.length ≤ 3))) && (colsTo S.cols S.cols.length && setsTo S (1 + S.uqs.length))
theorem colsTo_succ (l : List Col) (k : Nat) (c : Col) (hk : k < l.length) (hc : l[k] = c) : colsTo l (k + 1) = (colsTo l k && (colOk c && !decide (firstC l c.n < k))) := by
  unfold colsTo
  rw [List.range_succ, List.all_append]
  have e : l.getD k col0 = c := by rw [List.getD_eq_getElem?_getD, List.getElem?_eq_getElem hk, hc]; rfl
  simp only [List.all_cons, List.all_nil, Bool.and_true]
  unfold dupC
  rw [e]
theorem colsTo_no (l : List Col) (k : Nat) (c : Col) (hk : k < l.length) (hc : l[k] = c) (h : (colOk c && !decide (firstC l c.n < k)) = false) : colsTo l l.length = false := by
  have : colsTo l (k + 1) = false := by rw [colsTo_succ l k c hk hc, h, Bool.and_false]
  unfold colsTo at *
  rw [List.all_eq_false] at *
  obtain ⟨x, hx, hp⟩ := this
  exact ⟨x, by rw [List.mem_range] at *; omega, hp⟩
theorem schOk_no {S : Sch} (h : colsTo S.cols S.cols.length = false) : schOk S = false := by unfold schOk; rw [h]; simp

set_option maxRecDepth 100000 in
set_option maxHeartbeats 4000000 in
theorem lcheck_any (p : SchV) (S : Sch) (r : Nat) (w : World) (hm : w.heap[r]? = some (.map mapTypes 4)) (hnm : ∀ c ∈ S.cols, c.n.size ≤ 9223372036854775807) (hcl : S.cols.length ≤ 1000) (hul : S.uqs.length ≤ 6) (hS : SchIn w p S) :
    Calls Tryz.prog 63 #[.agg #[.slice p.oc S.cols.length p.cc, .slice p.ok S.key.length p.ck, .slice p.ou S.uqs.length p.cu, .map (some r)]] w fun e w' =>
      (schOk S = true ∧ e = .returned .nilIface ∧ Below w.heap.size w w') ∨ (schOk S = false ∧ IsMis 2 w e w') := by
  by_cases hlen : 1 ≤ S.cols.length ∧ S.cols.length ≤ 8 ∧ S.uqs.length ≤ 3
  · obtain ⟨l1, l2, l3⟩ := hlen
    have HOKF := Lib.hid (show schOk S = (colsTo S.cols S.cols.length && setsTo S (1 + S.uqs.length)) by unfold schOk; simp [l1, l2, l3])
    have HM := Lib.hid hm
    obtain ⟨oc, cc, ok, ck, ou, cu⟩ := p
    have HC := Lib.hid hS.cols
    simp only at HC ⊢
    have HNM := Lib.hid hnm
    have HS := Lib.hid hS
    clear hm hnm hS
    go_enter Tryz.func63, Tryz.ntmps63
    go_wp2
    obtain ⟨W1, hW1⟩ : ∃ W1, w.alloc (.cells #[.slice oc S.cols.length cc, .slice ok S.key.length ck, .slice ou S.uqs.length cu, .map (some r)] 116) = W1 := ⟨_, rfl⟩
    have hb1 : Below w.heap.size w W1 := by rw [← hW1]; exact (Below.refl _ _).alloc (Nat.le_refl _) _
    have hs1 : W1.heap.size = w.heap.size + 1 := by rw [← hW1]; simp
    have k0 : W1.cell? ⟨w.heap.size, 0, none⟩ = some (.slice oc S.cols.length cc) := by rw [← hW1]; simp [go_sem]
    have k1 : W1.cell? ⟨w.heap.size, 1, none⟩ = some (.slice ok S.key.length ck) := by rw [← hW1]; simp [go_sem]
    have k2 : W1.cell? ⟨w.heap.size, 2, none⟩ = some (.slice ou S.uqs.length cu) := by rw [← hW1]; simp [go_sem]
    have k3 : W1.cell? ⟨w.heap.size, 3, none⟩ = some (.map (some r)) := by rw [← hW1]; simp [go_sem]
    rw [hW1]
    have HB1 := Lib.hid hb1
    clear hW1 hb1
    go_loopw [30] (fun i wr => ∃ k : Nat, k ≤ S.cols.length ∧ i = .int .i64 k ∧ Hid (colsTo S.cols k = true) ∧ Hid (Below W1.heap.size W1 wr)) (fun i _ => S.cols.length - (intOf i).toNat)
    case atStart => exact ⟨0, Nat.zero_le _, rfl, Lib.hid rfl, Lib.hid (Below.refl _ _)⟩
    case round =>
      obtain ⟨k, hk, rfl, HK, HB⟩ := hrel
      have hsr := HB.out.size
      have hsw : w.heap.size < wr.heap.size := by omega
      have HBW := Lib.hid (HB1.out.trans (HB.out.mono HB1.out.size))
      have m0 : wr.cell? ⟨w.heap.size, 0, none⟩ = some (.slice oc S.cols.length cc) := cell_old k0 HB.out
      have m1 : wr.cell? ⟨w.heap.size, 1, none⟩ = some (.slice ok S.key.length ck) := cell_old k1 HB.out
      have m2 : wr.cell? ⟨w.heap.size, 2, none⟩ = some (.slice ou S.uqs.length cu) := cell_old k2 HB.out
      have m3 : wr.cell? ⟨w.heap.size, 3, none⟩ = some (.map (some r)) := cell_old k3 HB.out
      clear k0 k1 k2 k3
      by_cases hlt : k < S.cols.length
      · obtain ⟨a, rfl, hat⟩ := HC.out.keep HBW.out (Nat.le_refl _) k hlt
        obtain ⟨c, hc⟩ : ∃ c, S.cols[k] = c := ⟨_, rfl⟩
        rw [hc] at hat
        have hal := hat.lt
        obtain ⟨q0, q1, q2, q3⟩ := hat
        have HQ := Lib.hid (HNM.out c (hc ▸ List.getElem_mem hlt))
        have HMW := Lib.hid (heap_keep HM.out (HBW.out.alloc (by have := HBW.out.size; omega) (.cells #[.string c.n, .int .i64 c.t, .int .i64 c.z, .bool c.u] 64)))
        have HFC : Hid (∀ W', Below w.heap.size w W' → Calls Tryz.prog 106 #[.agg #[.slice (some a) S.cols.length cc, .slice ok S.key.length ck, .slice ou S.uqs.length cu, .map (some r)], .string c.n] W' fun e w' => e = .returned (.int .i64 (firstC S.cols c.n)) ∧ Below W'.heap.size W' w') := Lib.hid (fun W' hb => first_any (some a) cc S.cols ok S.key.length ck ou S.uqs.length cu (some r) c.n W' hcl (HC.out.keep hb (Nat.le_refl _)))
        have HCC := Lib.hid hc
        cases hok : colOk c
        · have HNO := Lib.hid (schOk_no (colsTo_no S.cols k c hlt hc (by rw [hok]; rfl)))
          have HOK := Lib.hid hok
          clear hok hc
          go_wp2_with (go_at_call 88; refine (Of_any _ _ _).mono ?_; rintro e w' ⟨rfl, rfl⟩)
          refine (column_bad c r _ HMW.out HQ.out HOK.out).mono ?_
          rintro e w3 ⟨b, rfl, hb, hcb, hb3⟩
          have HR := Lib.hid (show IsMis 2 w (.returned (.iface 138 (.pointer (some ⟨b, 0, none⟩)))) w3 from ⟨b, rfl, by have := HBW.out.size; simp at hb; omega, hcb, (HBW.out.alloc HBW.out.size _).trans (hb3.mono (by have := HBW.out.size; simp; omega))⟩)
          clear hb3 hcb
          go_wp2_with (go_at_call 88; refine (Of_any _ _ _).mono ?_; rintro e w' ⟨rfl, rfl⟩)
          go_ret
          exact .inr ⟨HNO.out, HR.out⟩
        · have HOK := Lib.hid hok
          by_cases hd : firstC S.cols c.n < (k : Int)
          · have HNO := Lib.hid (schOk_no (colsTo_no S.cols k c hlt hc (by rw [hok]; simp [hd])))
            generalize firstC S.cols c.n = fc at *
            clear hok hc
            go_wp2_with (go_at_call 88; refine (Of_any _ _ _).mono ?_; rintro e w' ⟨rfl, rfl⟩)
            refine (column_ok c r _ HMW.out HQ.out HOK.out).mono ?_
            rintro e w3 ⟨rfl, hb3⟩
            have HB3 := Lib.hid ((HBW.out.alloc HBW.out.size _).trans (hb3.mono (by have := HBW.out.size; simp; omega)))
            have hs3 := hb3.size
            have hsw3 : w.heap.size < w3.heap.size := by simp at hs3; omega
            have hsw4 : wr.heap.size < w3.heap.size := by simp at hs3; omega
            have n0 : w3.cell? ⟨w.heap.size, 0, none⟩ = some (.slice (some a) S.cols.length cc) := cell_old (cell_old m0 ((Below.refl _ _).alloc (Nat.le_refl _) _)) hb3
            have n1 : w3.cell? ⟨w.heap.size, 1, none⟩ = some (.slice ok S.key.length ck) := cell_old (cell_old m1 ((Below.refl _ _).alloc (Nat.le_refl _) _)) hb3
            have n2 : w3.cell? ⟨w.heap.size, 2, none⟩ = some (.slice ou S.uqs.length cu) := cell_old (cell_old m2 ((Below.refl _ _).alloc (Nat.le_refl _) _)) hb3
            have n3 : w3.cell? ⟨w.heap.size, 3, none⟩ = some (.map (some r)) := cell_old (cell_old m3 ((Below.refl _ _).alloc (Nat.le_refl _) _)) hb3
            have nc : w3.cell? ⟨wr.heap.size, 0, none⟩ = some (.string c.n) := cell_old (by simp [go_sem]) hb3
            clear hb3
            go_wp2_with (go_at_call 88; refine (Of_any _ _ _).mono ?_; rintro e w' ⟨rfl, rfl⟩)
            refine (HFC.out _ HB3.out).mono ?_
            rintro e w4 ⟨rfl, hb4⟩
            have HB4 := Lib.hid (HB3.out.trans (hb4.mono HB3.out.size))
            clear hb4
            go_wp2_with (go_at_call 88; refine (Of_any _ _ _).mono ?_; rintro e w' ⟨rfl, rfl⟩)
            refine (refuse_any _ _).mono ?_
            rintro e w5 ⟨b, rfl, hb, hcb, hb5⟩
            have HR := Lib.hid (show IsMis 2 w (.returned (.iface 138 (.pointer (some ⟨b, 0, none⟩)))) w5 from ⟨b, rfl, by have := HB4.out.size; omega, hcb, HB4.out.trans (hb5.mono HB4.out.size)⟩)
            clear hb5 hcb
            go_wp2_with (go_at_call 88; refine (Of_any _ _ _).mono ?_; rintro e w' ⟨rfl, rfl⟩)
            go_ret
            exact .inr ⟨HNO.out, HR.out⟩
          · have HNX := Lib.hid (show colsTo S.cols (k + 1) = true by rw [colsTo_succ S.cols k c hlt hc, HK.out, hok]; simp; omega)
            generalize firstC S.cols c.n = fc at *
            clear hok hc
            go_wp2_with (go_at_call 88; refine (Of_any _ _ _).mono ?_; rintro e w' ⟨rfl, rfl⟩)
            refine (column_ok c r _ HMW.out HQ.out HOK.out).mono ?_
            rintro e w3 ⟨rfl, hb3⟩
            have HB3 := Lib.hid ((HBW.out.alloc HBW.out.size _).trans (hb3.mono (by have := HBW.out.size; simp; omega)))
            have HB13 := Lib.hid ((HB.out.alloc HB.out.size _).trans (hb3.mono (by have := HB.out.size; simp; omega)))
            have hs3 := hb3.size
            have hsw3 : w.heap.size < w3.heap.size := by simp at hs3; omega
            have hsw4 : wr.heap.size < w3.heap.size := by simp at hs3; omega
            have n0 : w3.cell? ⟨w.heap.size, 0, none⟩ = some (.slice (some a) S.cols.length cc) := cell_old (cell_old m0 ((Below.refl _ _).alloc (Nat.le_refl _) _)) hb3
            have n1 : w3.cell? ⟨w.heap.size, 1, none⟩ = some (.slice ok S.key.length ck) := cell_old (cell_old m1 ((Below.refl _ _).alloc (Nat.le_refl _) _)) hb3
            have n2 : w3.cell? ⟨w.heap.size, 2, none⟩ = some (.slice ou S.uqs.length cu) := cell_old (cell_old m2 ((Below.refl _ _).alloc (Nat.le_refl _) _)) hb3
            have n3 : w3.cell? ⟨w.heap.size, 3, none⟩ = some (.map (some r)) := cell_old (cell_old m3 ((Below.refl _ _).alloc (Nat.le_refl _) _)) hb3
            have nc : w3.cell? ⟨wr.heap.size, 0, none⟩ = some (.string c.n) := cell_old (by simp [go_sem]) hb3
            clear hb3
            go_wp2_with (go_at_call 88; refine (Of_any _ _ _).mono ?_; rintro e w' ⟨rfl, rfl⟩)
            refine (HFC.out _ HB3.out).mono ?_
            rintro e w4 ⟨rfl, hb4⟩
            have HB14 := Lib.hid (HB13.out.trans (hb4.mono HB13.out.size))
            clear hb4
            go_wp2_with (go_at_call 88; refine (Of_any _ _ _).mono ?_; rintro e w' ⟨rfl, rfl⟩)
            go_roundw
            case rel => exact ⟨k + 1, by omega, by go_num, HNX, HB14⟩
            case measure => simp [intOf]; omega
      · obtain rfl : k = S.cols.length := by omega
        have HCS := Lib.hid (checkSets_any ⟨oc, cc, ok, ck, ou, cu⟩ S (some r) wr hul hcl (HS.out.keep HBW.out (Nat.le_refl _)))
        have HFI := Lib.hid (show schOk S = setsTo S (1 + S.uqs.length) by rw [HOKF.out, HK.out, Bool.true_and])
        clear HFI HOKF
        have HFI : Hid (schOk S = setsTo S (1 + S.uqs.length)) := Lib.hid (by unfold schOk; rw [HK.out]; simp [l1, l2, l3])
        go_wp2_with (go_at_call 88; refine (Of_any _ _ _).mono ?_; rintro e w' ⟨rfl, rfl⟩)
        refine HCS.out.mono ?_
        rintro e w3 (⟨hg, rfl, hb3⟩ | ⟨hg, b, rfl, hb, hcb, hb3⟩)
        · have HR := Lib.hid (show schOk S = true ∧ Below w.heap.size w w3 from ⟨by rw [HFI.out]; exact hg, HBW.out.trans (hb3.mono HBW.out.size)⟩)
          clear hg hb3
          go_wp2_with (go_at_call 88; refine (Of_any _ _ _).mono ?_; rintro e w' ⟨rfl, rfl⟩)
          go_ret
          exact .inl ⟨HR.out.1, rfl, HR.out.2⟩
        · have HR := Lib.hid (show schOk S = false ∧ IsMis 2 w (.returned (.iface 138 (.pointer (some ⟨b, 0, none⟩)))) w3 from ⟨by rw [HFI.out]; exact hg, b, rfl, by have := HBW.out.size; omega, hcb, HBW.out.trans (hb3.mono HBW.out.size)⟩)
          clear hg hb3 hcb
          go_wp2_with (go_at_call 88; refine (Of_any _ _ _).mono ?_; rintro e w' ⟨rfl, rfl⟩)
          go_ret
          exact .inr HR.out
  · have HNO := Lib.hid (show schOk S = false by
      unfold schOk
      rw [show (decide (1 ≤ S.cols.length) && (decide (S.cols.length ≤ 8) && decide (S.uqs.length ≤ 3))) = false by
        rw [Bool.eq_false_iff]; intro h; apply hlen; simpa [and_assoc] using h]
      rfl)
    have hdis : S.cols.length < 1 ∨ 8 < S.cols.length ∨ 3 < S.uqs.length := by omega
    clear hlen hm hnm hS
    go_enter Tryz.func63, Tryz.ntmps63
    go_wp2_with (first | (go_at_call 88; refine (Of_any _ _ _).mono ?_; rintro e w' ⟨rfl, rfl⟩) | (go_at_call 104; refine (refuse_any _ _).mono ?_; rintro e w5 ⟨b, rfl, hb, hcb, hb5⟩))
    all_goals first
      | (exfalso; omega)
      | (go_ret; exact .inr ⟨HNO.out, b, rfl, by simp at hb; omega, hcb, ((Below.refl _ _).alloc (Nat.le_refl _) _).trans (hb5.mono (by simp))⟩)
end Go.Proofs.YtocmjlnhcloccaaGreatDoor
namespace Go.Proofs.YtocmjlnhcloccaaGreatDoor
open Go.RowKit

set_option maxRecDepth 100000 in
set_option maxHeartbeats 2000000 in
theorem lookAt_any (oc : Option Addr) (nc cc : Nat) (ok : Option Addr) (nk ck : Nat) (ou : Option Addr) (nu cu : Nat) (w : World) :
    Calls Tryz.prog 59 #[.agg #[.slice oc nc cc, .slice ok nk ck, .slice ou nu cu]] w fun e w' => ∃ r, e = .returned (.agg #[.slice oc nc cc, .slice ok nk ck, .slice ou nu cu, .map (some r)]) ∧ w'.heap[r]? = some (.map mapTypes 4) ∧ Below w.heap.size w w' := by
  go_enter Tryz.func59, Tryz.ntmps59
  go_wp2
  go_region_held3 (fun w' => w'.cell? ⟨w.heap.size, 0, none⟩ = some (.slice oc nc cc) ∧ w'.cell? ⟨w.heap.size, 1, none⟩ = some (.slice ok nk ck) ∧ w'.cell? ⟨w.heap.size, 2, none⟩ = some (.slice ou nu cu)) (first | (go_keep; done) | (simp [*, go_sem]; done))
    (first | (go_at_call 88; refine (Of_any _ _ _).mono ?_; rintro e w' ⟨rfl, rfl⟩) | (go_at_call 87; refine (types_any _).mono ?_; rintro e w' ⟨rfl, rfl⟩))
  all_goals go_wp2_with (go_at_call 88; refine (Of_any _ _ _).mono ?_; rintro e w' ⟨rfl, rfl⟩)
  all_goals go_returns
  all_goals exact ⟨_, rfl, heap_third _ _ _ _, by go_grown⟩

/-- the number of a schema's error -/
def schN (S : Sch) : Int := if schOk S = true then 0 else 2
set_option maxRecDepth 100000 in
set_option maxHeartbeats 2000000 in
theorem SCheck_any (p : SchV) (S : Sch) (w : World) (hg : HasET w) (hnm : ∀ c ∈ S.cols, c.n.size ≤ 9223372036854775807) (hcl : S.cols.length ≤ 1000) (hul : S.uqs.length ≤ 6) (hS : SchIn w p S) :
    Calls Tryz.prog 32 #[.agg #[.slice p.oc S.cols.length p.cc, .slice p.ok S.key.length p.ck, .slice p.ou S.uqs.length p.cu]] w fun e w' => e = .returned (.int .i64 (schN S)) ∧ Below w.heap.size w w' := by
  have HG := Lib.hid (fun W hb => hg.below (w' := W) hb hg.lt)
  have HS := Lib.hid hS
  have HN := Lib.hid hnm
  clear hg hS hnm
  go_enter Tryz.func32, Tryz.ntmps32
  go_wp2_with (go_at_call 88; refine (Of_any _ _ _).mono ?_; rintro e w' ⟨rfl, rfl⟩)
  refine (lookAt_any _ _ _ _ _ _ _ _ _ _).mono ?_
  rintro e w1 ⟨r, rfl, hm, hb1⟩
  have hb01 : Below w.heap.size w w1 := ((Below.refl _ _).alloc (Nat.le_refl _) _).trans (hb1.mono (by simp))
  have HB1 := Lib.hid hb01
  have HC := Lib.hid (lcheck_any p S r w1 hm HN.out hcl hul (HS.out.keep hb01 (Nat.le_refl _)))
  clear hm hb1 hb01
  go_wp2_with (go_at_call 88; refine (Of_any _ _ _).mono ?_; rintro e w' ⟨rfl, rfl⟩)
  refine HC.out.mono ?_
  rintro e w2 (⟨hok, rfl, hb2⟩ | ⟨hok, b, rfl, hb, hcb, hb2⟩)
  · have HB2 := Lib.hid (HB1.out.trans (hb2.mono HB1.out.size))
    have HO := Lib.hid (show schN S = 0 by unfold schN; rw [hok]; rfl)
    clear hok hb2
    go_wp2_with (go_at_call 88; refine (Of_any _ _ _).mono ?_; rintro e w' ⟨rfl, rfl⟩)
    refine (sErrno_nil _).mono ?_
    rintro e w3 ⟨rfl, hb3⟩
    go_wp2_with (go_at_call 88; refine (Of_any _ _ _).mono ?_; rintro e w' ⟨rfl, rfl⟩)
    go_ret
    exact ⟨by rw [HO.out]; rfl, HB2.out.trans (hb3.mono HB2.out.size)⟩
  · have HB2 := Lib.hid (HB1.out.trans (hb2.mono HB1.out.size))
    have HO := Lib.hid (show schN S = 2 by unfold schN; rw [hok]; rfl)
    have HE := Lib.hid (sErrno_err b 2 w2 (HG.out _ HB2.out) hcb)
    clear hok hb2 hcb
    go_wp2_with (go_at_call 88; refine (Of_any _ _ _).mono ?_; rintro e w' ⟨rfl, rfl⟩)
    refine HE.out.mono ?_
    rintro e w3 ⟨rfl, hb3⟩
    go_wp2_with (go_at_call 88; refine (Of_any _ _ _).mono ?_; rintro e w' ⟨rfl, rfl⟩)
    go_ret
    exact ⟨by rw [HO.out]; rfl, HB2.out.trans (hb3.mono HB2.out.size)⟩

/-- the first value's error -/
def firstFit : List Col → List Vl → Int
  | c :: cs, v :: vs => if fitN c v = 0 then firstFit cs vs else fitN c v
  | _, _ => 0
def FFRel (cs : List Col) (vs : List Vl) (k : Nat) : Prop := firstFit cs vs = firstFit (cs.drop k) (vs.drop k)
theorem FFRel.next {cs : List Col} {vs : List Vl} {k : Nat} {c : Col} {v : Vl} (h : FFRel cs vs k) (hc : k < cs.length) (hv : k < vs.length) (ec : cs[k] = c) (ev : vs[k] = v) (h0 : fitN c v = 0) : FFRel cs vs (k + 1) := by
  unfold FFRel at *
  rw [h, List.drop_eq_getElem_cons hc, List.drop_eq_getElem_cons hv, ec, ev]
  simp [firstFit, h0]
theorem FFRel.hit {cs : List Col} {vs : List Vl} {k : Nat} {c : Col} {v : Vl} (h : FFRel cs vs k) (hc : k < cs.length) (hv : k < vs.length) (ec : cs[k] = c) (ev : vs[k] = v) (h0 : fitN c v ≠ 0) : firstFit cs vs = fitN c v := by
  unfold FFRel at *
  rw [h, List.drop_eq_getElem_cons hc, List.drop_eq_getElem_cons hv, ec, ev]
  simp [firstFit, h0]
theorem FFRel.done {cs : List Col} {vs : List Vl} {k : Nat} (h : FFRel cs vs k) (hv : vs.length ≤ k) : firstFit cs vs = 0 := by
  unfold FFRel at *
  rw [h, List.drop_eq_nil_of_le hv]
  cases cs.drop k <;> rfl
/-- a row's error -/
def rowN (S : Sch) (row : List Vl) : Int := if schOk S = true then (if row.length = S.cols.length then firstFit S.cols row else 130) else 2
theorem schOk_col {S : Sch} (h : schOk S = true) {k : Nat} {c : Col} (hk : k < S.cols.length) (hc : S.cols[k] = c) : colOk c = true := by
  unfold schOk colsTo at h
  simp only [Bool.and_eq_true, List.all_eq_true, List.mem_range] at h
  have := (h.2.1 k hk).1
  rwa [List.getD_eq_getElem?_getD, List.getElem?_eq_getElem hk, hc] at this

set_option maxRecDepth 100000 in
set_option maxHeartbeats 4000000 in
theorem lrow_any (p : SchV) (S : Sch) (r : Nat) (oa : Option Addr) (ca : Nat) (row : List Vl) (w : World) (hg : HasET w) (hm : w.heap[r]? = some (.map mapTypes 4)) (hnm : ∀ c ∈ S.cols, c.n.size ≤ 9223372036854775807) (hcl : S.cols.length ≤ 1000) (hul : S.uqs.length ≤ 6) (hS : SchIn w p S) (_hrl : row.length ≤ 1000) (hr : ValsIn w oa row) :
    Calls Tryz.prog 60 #[.agg #[.slice p.oc S.cols.length p.cc, .slice p.ok S.key.length p.ck, .slice p.ou S.uqs.length p.cu, .map (some r)], .slice oa row.length ca] w fun e w' =>
      (rowN S row = 0 ∧ e = .returned .nilIface ∧ Below w.heap.size w w') ∨ (rowN S row ≠ 0 ∧ IsMis (rowN S row) w e w') := by
  have HG := Lib.hid (fun W hb => hg.below (w' := W) hb hg.lt)
  have HCK := Lib.hid (fun A => lcheck_any p S r (w.alloc A) (heap_old hm A) hnm hcl hul (hS.keep ((Below.refl _ _).alloc (Nat.le_refl _) _) (Nat.le_refl _)))
  have HM := Lib.hid hm
  have HR := Lib.hid hr
  have hcols := hS.cols
  clear hg hm hnm hS hr
  obtain ⟨oc, cc, ok, ck, ou, cu⟩ := p
  simp only at hcols HCK ⊢
  have HCO := Lib.hid hcols
  clear hcols
  go_enter Tryz.func60, Tryz.ntmps60
  go_wp2_with (go_at_call 88; refine (Of_any _ _ _).mono ?_; rintro e w' ⟨rfl, rfl⟩)
  refine (HCK.out _).mono ?_
  rintro e w1 (⟨hok, rfl, hb1⟩ | ⟨hok, b, rfl, hb, hcb, hb1⟩)
  · have HOK := Lib.hid hok
    have HB1 := Lib.hid (((Below.refl w.heap.size w).alloc (Nat.le_refl _) (.cells #[.slice oc S.cols.length cc, .slice ok S.key.length ck, .slice ou S.uqs.length cu, .map (some r)] 116)).trans (hb1.mono (by simp)))
    have k0 : w1.cell? ⟨w.heap.size, 0, none⟩ = some (.slice oc S.cols.length cc) := cell_old (by simp [go_sem]) hb1
    have k3 : w1.cell? ⟨w.heap.size, 3, none⟩ = some (.map (some r)) := cell_old (by simp [go_sem]) hb1
    have hs1 : w.heap.size < w1.heap.size := by have := hb1.size; simp at this; omega
    clear hok hb1 HCK
    by_cases hlen : row.length = S.cols.length
    · have hne : ((row.length : Int) != (S.cols.length : Int)) = false := by rw [hlen]; simp
      have HRN := Lib.hid (show rowN S row = firstFit S.cols row by unfold rowN; rw [if_pos HOK.out, if_pos hlen])
      have HLEN := Lib.hid hlen
      clear hlen
      go_wp2_with (go_at_call 88; refine (Of_any _ _ _).mono ?_; rintro e w' ⟨rfl, rfl⟩)
      go_loopw [24] (fun i wr => ∃ k : Nat, k ≤ row.length ∧ i = .int .i64 k ∧ Hid (FFRel S.cols row k) ∧ Hid (Below w1.heap.size w1 wr)) (fun i _ => row.length - (intOf i).toNat)
      case atStart => exact ⟨0, Nat.zero_le _, rfl, Lib.hid rfl, Lib.hid (Below.refl _ _)⟩
      case round =>
        obtain ⟨k, hk, rfl, HK, HB⟩ := hrel
        have HBW := Lib.hid (HB1.out.trans (HB.out.mono HB1.out.size))
        have hsr := HB.out.size
        have hsw : w.heap.size < wr.heap.size := by omega
        have m0 : wr.cell? ⟨w.heap.size, 0, none⟩ = some (.slice oc S.cols.length cc) := cell_old k0 HB.out
        have m3 : wr.cell? ⟨w.heap.size, 3, none⟩ = some (.map (some r)) := cell_old k3 HB.out
        clear k0 k3
        by_cases hlt : k < row.length
        · have hlc : k < S.cols.length := by have := HLEN.out; omega
          obtain ⟨c, hc⟩ : ∃ c, S.cols[k] = c := ⟨_, rfl⟩
          obtain ⟨v, hv⟩ : ∃ v, row[k] = v := ⟨_, rfl⟩
          obtain ⟨ac, rfl, hat⟩ := HCO.out.keep HBW.out (Nat.le_refl _) k hlc
          obtain ⟨av, rfl, hvt⟩ := HR.out.keep HBW.out (Nat.le_refl _) k hlt
          rw [hc] at hat
          rw [hv] at hvt
          have hal := hat.lt
          have hvl := hvt.lt
          obtain ⟨q0, q1, q2, q3⟩ := hat
          obtain ⟨g0, g1, g2, g3⟩ := hvt
          have HSZ := Lib.hid (show szOk c.t c.z = true by have h := schOk_col HOK.out hlc hc; unfold colOk at h; rw [Bool.and_eq_true] at h; exact h.1)
          by_cases h0 : fitN c v = 0
          · have HNX := Lib.hid (HK.out.next hlc hlt hc hv h0)
            have HF : Hid (∀ W', Below wr.heap.size wr W' → Calls Tryz.prog 89 #[.map (some r), .agg #[.string c.n, .int .i64 c.t, .int .i64 c.z, .bool c.u], .agg #[.int .i64 v.k, .int .i64 v.i, .int .u64 v.u, .string v.s]] W' fun e w' => e = .returned .nilIface ∧ Below W'.heap.size W' w') := Lib.hid (fun W' hb => fit_ok c v r W' (heap_keep (heap_keep HM.out HBW.out) hb) (HG.out W' (HBW.out.trans (hb.mono HBW.out.size))) HSZ.out h0)
            clear h0 hc hv
            go_wp2_with (go_at_call 88; refine (Of_any _ _ _).mono ?_; rintro e w' ⟨rfl, rfl⟩)
            have l0 : ∀ p : Later (wr.alloc (.cells #[.int .i64 v.k, .int .i64 v.i, .int .u64 v.u, .string v.s] 68)), p.W.cell? ⟨w.heap.size, 0, none⟩ = some (.slice (some ac) S.cols.length cc) := later_cell (cell_old m0 ((Below.refl _ _).alloc (Nat.le_refl _) _))
            have l1 : ∀ p : Later (wr.alloc (.cells #[.int .i64 v.k, .int .i64 v.i, .int .u64 v.u, .string v.s] 68)), p.W.cell? ⟨w.heap.size, 3, none⟩ = some (.map (some r)) := later_cell (cell_old m3 ((Below.refl _ _).alloc (Nat.le_refl _) _))
            have l2 : ∀ p : Later (wr.alloc (.cells #[.int .i64 v.k, .int .i64 v.i, .int .u64 v.u, .string v.s] 68)), p.W.cell? (ac.add (k * 4)) = some (.string c.n) := later_cell (cell_old q0 ((Below.refl _ _).alloc (Nat.le_refl _) _))
            have l3 : ∀ p : Later (wr.alloc (.cells #[.int .i64 v.k, .int .i64 v.i, .int .u64 v.u, .string v.s] 68)), p.W.cell? ⟨(ac.add (k * 4)).block, (ac.add (k * 4)).off + 1, none⟩ = some (.int .i64 c.t) := later_cell (cell_old q1 ((Below.refl _ _).alloc (Nat.le_refl _) _))
            have l4 : ∀ p : Later (wr.alloc (.cells #[.int .i64 v.k, .int .i64 v.i, .int .u64 v.u, .string v.s] 68)), p.W.cell? ⟨(ac.add (k * 4)).block, (ac.add (k * 4)).off + 2, none⟩ = some (.int .i64 c.z) := later_cell (cell_old q2 ((Below.refl _ _).alloc (Nat.le_refl _) _))
            have l5 : ∀ p : Later (wr.alloc (.cells #[.int .i64 v.k, .int .i64 v.i, .int .u64 v.u, .string v.s] 68)), p.W.cell? ⟨(ac.add (k * 4)).block, (ac.add (k * 4)).off + 3, none⟩ = some (.bool c.u) := later_cell (cell_old q3 ((Below.refl _ _).alloc (Nat.le_refl _) _))
            have l6 : ∀ p : Later (wr.alloc (.cells #[.int .i64 v.k, .int .i64 v.i, .int .u64 v.u, .string v.s] 68)), p.W.cell? ⟨wr.heap.size, 0, none⟩ = some (.int .i64 v.k) := later_cell (by simp [go_sem])
            have l7 : ∀ p : Later (wr.alloc (.cells #[.int .i64 v.k, .int .i64 v.i, .int .u64 v.u, .string v.s] 68)), p.W.cell? ⟨wr.heap.size, 1, none⟩ = some (.int .i64 v.i) := later_cell (by simp [go_sem])
            have l8 : ∀ p : Later (wr.alloc (.cells #[.int .i64 v.k, .int .i64 v.i, .int .u64 v.u, .string v.s] 68)), p.W.cell? ⟨wr.heap.size, 2, none⟩ = some (.int .u64 v.u) := later_cell (by simp [go_sem])
            have l9 : ∀ p : Later (wr.alloc (.cells #[.int .i64 v.k, .int .i64 v.i, .int .u64 v.u, .string v.s] 68)), p.W.cell? ⟨wr.heap.size, 3, none⟩ = some (.string v.s) := later_cell (by simp [go_sem])
            refine wp_region_later (by kernel_rfl) (by kernel_rfl) ?_
            repeat (go_big_quiet_step ((go_at_call 89; exact Calls.later (HF.out _ (((Below.refl _ _).alloc (Nat.le_refl _) _).trans (Later.h _ |>.mono (by simp)))))))
            refine wpQuiet_nil ?_
            rintro w3 ⟨⟨W3, hb3⟩, rfl⟩
            have HB3 := Lib.hid (HB.out.trans (((Below.refl _ _).alloc (Nat.le_refl _) _ |>.trans (hb3.mono (by simp))).mono HB.out.size))
            clear hb3
            go_wp2_with (go_at_call 88; refine (Of_any _ _ _).mono ?_; rintro e w' ⟨rfl, rfl⟩)
            go_roundw
            case rel => exact ⟨k + 1, by omega, by go_num, HNX, HB3⟩
            case measure => simp [intOf]; omega
          · have HNO := Lib.hid (HRN.out.trans (HK.out.hit hlc hlt hc hv h0))
            have HF : Hid (∀ W', Below wr.heap.size wr W' → Calls Tryz.prog 89 #[.map (some r), .agg #[.string c.n, .int .i64 c.t, .int .i64 c.z, .bool c.u], .agg #[.int .i64 v.k, .int .i64 v.i, .int .u64 v.u, .string v.s]] W' (IsMis (fitN c v) W')) := Lib.hid (fun W' hb => fit_bad c v r W' (heap_keep (heap_keep HM.out HBW.out) hb) (HG.out W' (HBW.out.trans (hb.mono HBW.out.size))) HSZ.out _ rfl h0)
            have HNZ := Lib.hid h0
            generalize fitN c v = m at *
            clear h0 hc hv
            go_wp2_with (go_at_call 88; refine (Of_any _ _ _).mono ?_; rintro e w' ⟨rfl, rfl⟩)
            go_region_held3 (fun w' => w'.cell? ⟨w.heap.size, 0, none⟩ = some (.slice (some ac) S.cols.length cc) ∧ w'.cell? ⟨w.heap.size, 3, none⟩ = some (.map (some r)) ∧ w'.cell? (ac.add (k * 4)) = some (.string c.n) ∧ w'.cell? ⟨(ac.add (k * 4)).block, (ac.add (k * 4)).off + 1, none⟩ = some (.int .i64 c.t) ∧ w'.cell? ⟨(ac.add (k * 4)).block, (ac.add (k * 4)).off + 2, none⟩ = some (.int .i64 c.z) ∧ w'.cell? ⟨(ac.add (k * 4)).block, (ac.add (k * 4)).off + 3, none⟩ = some (.bool c.u) ∧ w'.cell? ⟨wr.heap.size, 0, none⟩ = some (.int .i64 v.k) ∧ w'.cell? ⟨wr.heap.size, 1, none⟩ = some (.int .i64 v.i) ∧ w'.cell? ⟨wr.heap.size, 2, none⟩ = some (.int .u64 v.u) ∧ w'.cell? ⟨wr.heap.size, 3, none⟩ = some (.string v.s)) (refine ⟨?_, ?_, ?_, ?_, ?_, ?_, ?_, ?_, ?_, ?_⟩ <;> (first | assumption | (simp [go_sem]; done) | (refine cell_old ?_ hb3; first | assumption | (simp [go_sem]; done) | (refine cell_old (by assumption) ?_; go_grown)) | (refine cell_old (by assumption) ?_; go_grown)))
              (first | (go_at_call 88; refine (Of_any _ _ _).mono ?_; rintro e w' ⟨rfl, rfl⟩) | (go_at_call 89; refine (HF.out _ ?_).mono ?_; go_grown; rintro e w3 ⟨b, rfl, hb, hcb, hb3⟩))
            have HRS := Lib.hid (show IsMis m w (.returned (.iface 138 (.pointer (some ⟨b, 0, none⟩)))) w3 from ⟨b, rfl, by simp at hb; omega, hcb, HBW.out.trans (((show Below wr.heap.size wr _ from by go_grown).trans (hb3.mono (by simp))).mono HBW.out.size)⟩)
            clear hb3 hcb
            go_wp2_with (go_at_call 88; refine (Of_any _ _ _).mono ?_; rintro e w' ⟨rfl, rfl⟩)
            go_ret
            exact .inr ⟨by rw [HNO.out]; exact HNZ.out, by rw [HNO.out]; exact HRS.out⟩
        · have HNO := Lib.hid (HRN.out.trans (HK.out.done (by omega)))
          go_wp2_with (go_at_call 88; refine (Of_any _ _ _).mono ?_; rintro e w' ⟨rfl, rfl⟩)
          go_ret
          exact .inl ⟨HNO.out, rfl, HBW.out⟩
    · have hne : ((row.length : Int) != (S.cols.length : Int)) = true := by
        rw [bne_iff_ne]
        omega
      have HNO := Lib.hid (show rowN S row = 130 by unfold rowN; rw [if_pos HOK.out, if_neg hlen])
      clear hlen
      go_wp2_with (go_at_call 88; refine (Of_any _ _ _).mono ?_; rintro e w' ⟨rfl, rfl⟩)
      go_ret
      exact .inr ⟨by rw [HNO.out]; decide, by rw [HNO.out]; exact ⟨_, rfl, by omega, by simp [go_sem], HB1.out.alloc HB1.out.size _⟩⟩
  · have HNO := Lib.hid (show rowN S row = 2 by unfold rowN; rw [hok]; rfl)
    have HRS := Lib.hid (show IsMis 2 w (.returned (.iface 138 (.pointer (some ⟨b, 0, none⟩)))) w1 from ⟨b, rfl, by simp at hb; omega, hcb, ((Below.refl _ _).alloc (Nat.le_refl _) _).trans (hb1.mono (by simp))⟩)
    clear hok hcb hb1 HCK
    go_wp2_with (go_at_call 88; refine (Of_any _ _ _).mono ?_; rintro e w' ⟨rfl, rfl⟩)
    go_ret
    exact .inr ⟨by rw [HNO.out]; decide, by rw [HNO.out]; exact HRS.out⟩

set_option maxRecDepth 100000 in
set_option maxHeartbeats 2000000 in
theorem SRow_any (p : SchV) (S : Sch) (oa : Option Addr) (ca : Nat) (row : List Vl) (w : World) (hg : HasET w) (hnm : ∀ c ∈ S.cols, c.n.size ≤ 9223372036854775807) (hcl : S.cols.length ≤ 1000) (hul : S.uqs.length ≤ 6) (hS : SchIn w p S) (hrl : row.length ≤ 1000) (hr : ValsIn w oa row) :
    Calls Tryz.prog 27 #[.agg #[.slice p.oc S.cols.length p.cc, .slice p.ok S.key.length p.ck, .slice p.ou S.uqs.length p.cu], .slice oa row.length ca] w fun e w' => e = .returned (.int .i64 (rowN S row)) ∧ Below w.heap.size w w' := by
  have HG := Lib.hid (fun W hb => hg.below (w' := W) hb hg.lt)
  have HS := Lib.hid hS
  have HN := Lib.hid hnm
  have HR := Lib.hid hr
  clear hg hS hnm hr
  go_enter Tryz.func27, Tryz.ntmps27
  go_wp2_with (go_at_call 88; refine (Of_any _ _ _).mono ?_; rintro e w' ⟨rfl, rfl⟩)
  refine (lookAt_any _ _ _ _ _ _ _ _ _ _).mono ?_
  rintro e w1 ⟨r, rfl, hm, hb1⟩
  have hb01 : Below w.heap.size w w1 := ((Below.refl _ _).alloc (Nat.le_refl _) _).trans (hb1.mono (by simp))
  have HB1 := Lib.hid hb01
  have HC := Lib.hid (lrow_any p S r oa ca row w1 (HG.out _ hb01) hm HN.out hcl hul (HS.out.keep hb01 (Nat.le_refl _)) hrl (HR.out.keep hb01 (Nat.le_refl _)))
  clear hm hb1 hb01
  go_wp2_with (go_at_call 88; refine (Of_any _ _ _).mono ?_; rintro e w' ⟨rfl, rfl⟩)
  refine HC.out.mono ?_
  rintro e w2 (⟨hok, rfl, hb2⟩ | ⟨hok, b, rfl, hb, hcb, hb2⟩)
  · have HB2 := Lib.hid (HB1.out.trans (hb2.mono HB1.out.size))
    have HO := Lib.hid hok
    clear hok hb2
    go_wp2_with (go_at_call 88; refine (Of_any _ _ _).mono ?_; rintro e w' ⟨rfl, rfl⟩)
    refine (sErrno_nil _).mono ?_
    rintro e w3 ⟨rfl, hb3⟩
    go_wp2_with (go_at_call 88; refine (Of_any _ _ _).mono ?_; rintro e w' ⟨rfl, rfl⟩)
    go_ret
    exact ⟨by rw [HO.out]; rfl, HB2.out.trans (hb3.mono HB2.out.size)⟩
  · have HB2 := Lib.hid (HB1.out.trans (hb2.mono HB1.out.size))
    have HE := Lib.hid (sErrno_err b (rowN S row) w2 (HG.out _ HB2.out) hcb)
    clear hok hb2 hcb
    go_wp2_with (go_at_call 88; refine (Of_any _ _ _).mono ?_; rintro e w' ⟨rfl, rfl⟩)
    refine HE.out.mono ?_
    rintro e w3 ⟨rfl, hb3⟩
    go_wp2_with (go_at_call 88; refine (Of_any _ _ _).mono ?_; rintro e w' ⟨rfl, rfl⟩)
    go_ret
    exact ⟨rfl, HB2.out.trans (hb3.mono HB2.out.size)⟩
end Go.Proofs.YtocmjlnhcloccaaGreatDoor
namespace Go.Proofs.YtocmjlnhcloccaaGreatDoor
open Go.RowKit

set_option maxHeartbeats 400000 in
theorem rleast_any (z : Int) (w : World) (h : numSz z = true) : Calls Tryz.prog 102 #[.int .i64 z] w fun e w' => e = .returned (.int .i64 (leastI z)) ∧ Below w.heap.size w w' := by
  rcases numSz_cases h with rfl | rfl | rfl | rfl
  all_goals
    clear h
    go_enter Tryz.func102, Tryz.ntmps102
    go_wp2
    go_ret
    exact ⟨rfl, by go_grown⟩
set_option maxHeartbeats 400000 in
theorem rmost_any (z : Int) (w : World) (h : numSz z = true) : Calls Tryz.prog 103 #[.int .i64 z] w fun e w' => e = .returned (.int .u64 (mostU z)) ∧ Below w.heap.size w w' := by
  rcases numSz_cases h with rfl | rfl | rfl | rfl
  all_goals
    clear h
    go_enter Tryz.func103, Tryz.ntmps103
    go_wp2
    go_ret
    exact ⟨rfl, by go_grown⟩
theorem least_most {z : Int} (h : numSz z = true) : IntKind.i64.wrap (leastI z + 1) = leastI z + 1 ∧ IntKind.i64.wrap (-(leastI z + 1)) = mostI z := by
  rcases numSz_cases h with rfl | rfl | rfl | rfl <;> exact ⟨rfl, rfl⟩
set_option maxRecDepth 100000 in
set_option maxHeartbeats 2000000 in
theorem rFits_col (n : ByteArray) (t : Int) (z : Int) (nl : Bool) (k : Int) (i u : Int) (s : ByteArray) (w : World) (hn : n.size ≤ 9223372036854775807) (hc : colOk ⟨n, t, z, nl⟩ = false) :
    Calls Tryz.prog 62 #[.agg #[.string n, .int .i64 t, .int .i64 z, .bool nl], .agg #[.int .i64 k, .int .i64 i, .int .u64 u, .string s]] w fun e w' => e = .returned (.int .i64 (2)) ∧ Below w.heap.size w w' := by
  have HC := Lib.hid (show ∀ W, Calls Tryz.prog 38 #[.agg #[.string n, .int .i64 t, .int .i64 z, .bool nl]] W fun e w' => e = .returned (.bool false) ∧ Below W.heap.size W w' from fun W => by have q := rcolumn_any ⟨n, t, z, nl⟩ W hn; rw [hc] at q; exact q)
  clear hc hn
  go_enter Tryz.func62, Tryz.ntmps62
  go_wp2_with fail
  refine (HC.out _).mono ?_
  rintro e w1 ⟨rfl, hb1⟩
  have hb0 : Below w.heap.size w w1 := (boxes2 w _ _).trans (hb1.mono (by simp; omega))
  have hz1 : w.heap.size + 1 < w1.heap.size := by have := hb1.size; simp at this; omega
  have hz0 : w.heap.size < w1.heap.size := by omega
  go_wp2_with fail
  go_ret
  exact ⟨rfl, hb0⟩
set_option maxRecDepth 100000 in
set_option maxHeartbeats 2000000 in
theorem rFits_chk (n : ByteArray) (t : Int) (z : Int) (nl : Bool) (k : Int) (i u : Int) (s : ByteArray) (w : World) (hn : n.size ≤ 9223372036854775807) (hc : colOk ⟨n, t, z, nl⟩ = true) (m : Int) (h : chk k i u s = m) (h0 : m ≠ 0) :
    Calls Tryz.prog 62 #[.agg #[.string n, .int .i64 t, .int .i64 z, .bool nl], .agg #[.int .i64 k, .int .i64 i, .int .u64 u, .string s]] w fun e w' => e = .returned (.int .i64 (m)) ∧ Below w.heap.size w w' := by
  have hm0 : (m != 0) = true := by simpa using h0
  clear h0
  have HC := Lib.hid (show ∀ W, Calls Tryz.prog 38 #[.agg #[.string n, .int .i64 t, .int .i64 z, .bool nl]] W fun e w' => e = .returned (.bool true) ∧ Below W.heap.size W w' from fun W => by have q := rcolumn_any ⟨n, t, z, nl⟩ W hn; rw [hc] at q; exact q)
  clear hc hn
  go_enter Tryz.func62, Tryz.ntmps62
  go_wp2_with fail
  refine (HC.out _).mono ?_
  rintro e w1 ⟨rfl, hb1⟩
  have hb0 : Below w.heap.size w w1 := (boxes2 w _ _).trans (hb1.mono (by simp; omega))
  have hz1 : w.heap.size + 1 < w1.heap.size := by have := hb1.size; simp at this; omega
  have hz0 : w.heap.size < w1.heap.size := by omega
  have hn1 : w1.cell? ⟨w.heap.size, 1, none⟩ = some (.int .i64 t) := cell_old (by simp [go_sem]) hb1
  have hn2 : w1.cell? ⟨w.heap.size, 2, none⟩ = some (.int .i64 z) := cell_old (by simp [go_sem]) hb1
  have hn3 : w1.cell? ⟨w.heap.size, 3, none⟩ = some (.bool nl) := cell_old (by simp [go_sem]) hb1
  have hv0 : w1.cell? ⟨w.heap.size + 1, 0, none⟩ = some (.int .i64 k) := cell_old (by simp [go_sem]) hb1
  have hv1 : w1.cell? ⟨w.heap.size + 1, 1, none⟩ = some (.int .i64 i) := cell_old (by simp [go_sem]) hb1
  have hv2 : w1.cell? ⟨w.heap.size + 1, 2, none⟩ = some (.int .u64 u) := cell_old (by simp [go_sem]) hb1
  have hv3 : w1.cell? ⟨w.heap.size + 1, 3, none⟩ = some (.string s) := cell_old (by simp [go_sem]) hb1
  go_wp2_with fail
  refine (rCheck_any _ _ _ _ _).mono ?_
  rintro e w2 ⟨rfl, hb2⟩
  rw [h]
  have hb02 := hb0.trans (hb2.mono hb0.size)
  have hs2 := hb2.size
  have hn1 : w2.cell? ⟨w.heap.size, 1, none⟩ = some (.int .i64 t) := cell_old hn1 hb2
  have hn2 : w2.cell? ⟨w.heap.size, 2, none⟩ = some (.int .i64 z) := cell_old hn2 hb2
  have hn3 : w2.cell? ⟨w.heap.size, 3, none⟩ = some (.bool nl) := cell_old hn3 hb2
  have hv0 : w2.cell? ⟨w.heap.size + 1, 0, none⟩ = some (.int .i64 k) := cell_old hv0 hb2
  have hv1 : w2.cell? ⟨w.heap.size + 1, 1, none⟩ = some (.int .i64 i) := cell_old hv1 hb2
  have hv2 : w2.cell? ⟨w.heap.size + 1, 2, none⟩ = some (.int .u64 u) := cell_old hv2 hb2
  have hv3 : w2.cell? ⟨w.heap.size + 1, 3, none⟩ = some (.string s) := cell_old hv3 hb2
  have hz2 : w.heap.size + 1 < w2.heap.size := by omega
  clear h hb1 hb2 hb0 hz1 hz0 hs2
  go_wp2_with fail
  go_ret
  exact ⟨rfl, hb02⟩
set_option maxRecDepth 100000 in
set_option maxHeartbeats 2000000 in
theorem rFits_null (n : ByteArray) (t : Int) (z : Int) (i u : Int) (s : ByteArray) (w : World) (hn : n.size ≤ 9223372036854775807) (hc : colOk ⟨n, t, z, true⟩ = true) (h : chk 0 i u s = 0) :
    Calls Tryz.prog 62 #[.agg #[.string n, .int .i64 t, .int .i64 z, .bool true], .agg #[.int .i64 0, .int .i64 i, .int .u64 u, .string s]] w fun e w' => e = .returned (.int .i64 (0)) ∧ Below w.heap.size w w' := by
  have HC := Lib.hid (show ∀ W, Calls Tryz.prog 38 #[.agg #[.string n, .int .i64 t, .int .i64 z, .bool true]] W fun e w' => e = .returned (.bool true) ∧ Below W.heap.size W w' from fun W => by have q := rcolumn_any ⟨n, t, z, true⟩ W hn; rw [hc] at q; exact q)
  clear hc hn
  go_enter Tryz.func62, Tryz.ntmps62
  go_wp2_with fail
  refine (HC.out _).mono ?_
  rintro e w1 ⟨rfl, hb1⟩
  have hb0 : Below w.heap.size w w1 := (boxes2 w _ _).trans (hb1.mono (by simp; omega))
  have hz1 : w.heap.size + 1 < w1.heap.size := by have := hb1.size; simp at this; omega
  have hz0 : w.heap.size < w1.heap.size := by omega
  have hn1 : w1.cell? ⟨w.heap.size, 1, none⟩ = some (.int .i64 t) := cell_old (by simp [go_sem]) hb1
  have hn2 : w1.cell? ⟨w.heap.size, 2, none⟩ = some (.int .i64 z) := cell_old (by simp [go_sem]) hb1
  have hn3 : w1.cell? ⟨w.heap.size, 3, none⟩ = some (.bool true) := cell_old (by simp [go_sem]) hb1
  have hv0 : w1.cell? ⟨w.heap.size + 1, 0, none⟩ = some (.int .i64 0) := cell_old (by simp [go_sem]) hb1
  have hv1 : w1.cell? ⟨w.heap.size + 1, 1, none⟩ = some (.int .i64 i) := cell_old (by simp [go_sem]) hb1
  have hv2 : w1.cell? ⟨w.heap.size + 1, 2, none⟩ = some (.int .u64 u) := cell_old (by simp [go_sem]) hb1
  have hv3 : w1.cell? ⟨w.heap.size + 1, 3, none⟩ = some (.string s) := cell_old (by simp [go_sem]) hb1
  go_wp2_with fail
  refine (rCheck_any _ _ _ _ _).mono ?_
  rintro e w2 ⟨rfl, hb2⟩
  rw [h]
  have hb02 := hb0.trans (hb2.mono hb0.size)
  have hs2 := hb2.size
  have hn1 : w2.cell? ⟨w.heap.size, 1, none⟩ = some (.int .i64 t) := cell_old hn1 hb2
  have hn2 : w2.cell? ⟨w.heap.size, 2, none⟩ = some (.int .i64 z) := cell_old hn2 hb2
  have hn3 : w2.cell? ⟨w.heap.size, 3, none⟩ = some (.bool true) := cell_old hn3 hb2
  have hv0 : w2.cell? ⟨w.heap.size + 1, 0, none⟩ = some (.int .i64 0) := cell_old hv0 hb2
  have hv1 : w2.cell? ⟨w.heap.size + 1, 1, none⟩ = some (.int .i64 i) := cell_old hv1 hb2
  have hv2 : w2.cell? ⟨w.heap.size + 1, 2, none⟩ = some (.int .u64 u) := cell_old hv2 hb2
  have hv3 : w2.cell? ⟨w.heap.size + 1, 3, none⟩ = some (.string s) := cell_old hv3 hb2
  have hz2 : w.heap.size + 1 < w2.heap.size := by omega
  clear h hb1 hb2 hb0 hz1 hz0 hs2
  go_wp2_with fail
  go_ret
  exact ⟨rfl, hb02⟩
set_option maxRecDepth 100000 in
set_option maxHeartbeats 2000000 in
theorem rFits_nonull (n : ByteArray) (t : Int) (z : Int) (i u : Int) (s : ByteArray) (w : World) (hn : n.size ≤ 9223372036854775807) (hc : colOk ⟨n, t, z, false⟩ = true) (h : chk 0 i u s = 0) :
    Calls Tryz.prog 62 #[.agg #[.string n, .int .i64 t, .int .i64 z, .bool false], .agg #[.int .i64 0, .int .i64 i, .int .u64 u, .string s]] w fun e w' => e = .returned (.int .i64 (131)) ∧ Below w.heap.size w w' := by
  have HC := Lib.hid (show ∀ W, Calls Tryz.prog 38 #[.agg #[.string n, .int .i64 t, .int .i64 z, .bool false]] W fun e w' => e = .returned (.bool true) ∧ Below W.heap.size W w' from fun W => by have q := rcolumn_any ⟨n, t, z, false⟩ W hn; rw [hc] at q; exact q)
  clear hc hn
  go_enter Tryz.func62, Tryz.ntmps62
  go_wp2_with fail
  refine (HC.out _).mono ?_
  rintro e w1 ⟨rfl, hb1⟩
  have hb0 : Below w.heap.size w w1 := (boxes2 w _ _).trans (hb1.mono (by simp; omega))
  have hz1 : w.heap.size + 1 < w1.heap.size := by have := hb1.size; simp at this; omega
  have hz0 : w.heap.size < w1.heap.size := by omega
  have hn1 : w1.cell? ⟨w.heap.size, 1, none⟩ = some (.int .i64 t) := cell_old (by simp [go_sem]) hb1
  have hn2 : w1.cell? ⟨w.heap.size, 2, none⟩ = some (.int .i64 z) := cell_old (by simp [go_sem]) hb1
  have hn3 : w1.cell? ⟨w.heap.size, 3, none⟩ = some (.bool false) := cell_old (by simp [go_sem]) hb1
  have hv0 : w1.cell? ⟨w.heap.size + 1, 0, none⟩ = some (.int .i64 0) := cell_old (by simp [go_sem]) hb1
  have hv1 : w1.cell? ⟨w.heap.size + 1, 1, none⟩ = some (.int .i64 i) := cell_old (by simp [go_sem]) hb1
  have hv2 : w1.cell? ⟨w.heap.size + 1, 2, none⟩ = some (.int .u64 u) := cell_old (by simp [go_sem]) hb1
  have hv3 : w1.cell? ⟨w.heap.size + 1, 3, none⟩ = some (.string s) := cell_old (by simp [go_sem]) hb1
  go_wp2_with fail
  refine (rCheck_any _ _ _ _ _).mono ?_
  rintro e w2 ⟨rfl, hb2⟩
  rw [h]
  have hb02 := hb0.trans (hb2.mono hb0.size)
  have hs2 := hb2.size
  have hn1 : w2.cell? ⟨w.heap.size, 1, none⟩ = some (.int .i64 t) := cell_old hn1 hb2
  have hn2 : w2.cell? ⟨w.heap.size, 2, none⟩ = some (.int .i64 z) := cell_old hn2 hb2
  have hn3 : w2.cell? ⟨w.heap.size, 3, none⟩ = some (.bool false) := cell_old hn3 hb2
  have hv0 : w2.cell? ⟨w.heap.size + 1, 0, none⟩ = some (.int .i64 0) := cell_old hv0 hb2
  have hv1 : w2.cell? ⟨w.heap.size + 1, 1, none⟩ = some (.int .i64 i) := cell_old hv1 hb2
  have hv2 : w2.cell? ⟨w.heap.size + 1, 2, none⟩ = some (.int .u64 u) := cell_old hv2 hb2
  have hv3 : w2.cell? ⟨w.heap.size + 1, 3, none⟩ = some (.string s) := cell_old hv3 hb2
  have hz2 : w.heap.size + 1 < w2.heap.size := by omega
  clear h hb1 hb2 hb0 hz1 hz0 hs2
  go_wp2_with fail
  go_ret
  exact ⟨rfl, hb02⟩
set_option maxRecDepth 100000 in
set_option maxHeartbeats 2000000 in
theorem rFits_type (n : ByteArray) (t : Int) (z : Int) (nl : Bool) (k : Int) (i u : Int) (s : ByteArray) (w : World) (hn : n.size ≤ 9223372036854775807) (hc : colOk ⟨n, t, z, nl⟩ = true) (h : chk k i u s = 0) (hk : (k == 0) = false) (hkt : (k != t) = true) :
    Calls Tryz.prog 62 #[.agg #[.string n, .int .i64 t, .int .i64 z, .bool nl], .agg #[.int .i64 k, .int .i64 i, .int .u64 u, .string s]] w fun e w' => e = .returned (.int .i64 (132)) ∧ Below w.heap.size w w' := by
  have HC := Lib.hid (show ∀ W, Calls Tryz.prog 38 #[.agg #[.string n, .int .i64 t, .int .i64 z, .bool nl]] W fun e w' => e = .returned (.bool true) ∧ Below W.heap.size W w' from fun W => by have q := rcolumn_any ⟨n, t, z, nl⟩ W hn; rw [hc] at q; exact q)
  clear hc hn
  go_enter Tryz.func62, Tryz.ntmps62
  go_wp2_with fail
  refine (HC.out _).mono ?_
  rintro e w1 ⟨rfl, hb1⟩
  have hb0 : Below w.heap.size w w1 := (boxes2 w _ _).trans (hb1.mono (by simp; omega))
  have hz1 : w.heap.size + 1 < w1.heap.size := by have := hb1.size; simp at this; omega
  have hz0 : w.heap.size < w1.heap.size := by omega
  have hn1 : w1.cell? ⟨w.heap.size, 1, none⟩ = some (.int .i64 t) := cell_old (by simp [go_sem]) hb1
  have hn2 : w1.cell? ⟨w.heap.size, 2, none⟩ = some (.int .i64 z) := cell_old (by simp [go_sem]) hb1
  have hn3 : w1.cell? ⟨w.heap.size, 3, none⟩ = some (.bool nl) := cell_old (by simp [go_sem]) hb1
  have hv0 : w1.cell? ⟨w.heap.size + 1, 0, none⟩ = some (.int .i64 k) := cell_old (by simp [go_sem]) hb1
  have hv1 : w1.cell? ⟨w.heap.size + 1, 1, none⟩ = some (.int .i64 i) := cell_old (by simp [go_sem]) hb1
  have hv2 : w1.cell? ⟨w.heap.size + 1, 2, none⟩ = some (.int .u64 u) := cell_old (by simp [go_sem]) hb1
  have hv3 : w1.cell? ⟨w.heap.size + 1, 3, none⟩ = some (.string s) := cell_old (by simp [go_sem]) hb1
  go_wp2_with fail
  refine (rCheck_any _ _ _ _ _).mono ?_
  rintro e w2 ⟨rfl, hb2⟩
  rw [h]
  have hb02 := hb0.trans (hb2.mono hb0.size)
  have hs2 := hb2.size
  have hn1 : w2.cell? ⟨w.heap.size, 1, none⟩ = some (.int .i64 t) := cell_old hn1 hb2
  have hn2 : w2.cell? ⟨w.heap.size, 2, none⟩ = some (.int .i64 z) := cell_old hn2 hb2
  have hn3 : w2.cell? ⟨w.heap.size, 3, none⟩ = some (.bool nl) := cell_old hn3 hb2
  have hv0 : w2.cell? ⟨w.heap.size + 1, 0, none⟩ = some (.int .i64 k) := cell_old hv0 hb2
  have hv1 : w2.cell? ⟨w.heap.size + 1, 1, none⟩ = some (.int .i64 i) := cell_old hv1 hb2
  have hv2 : w2.cell? ⟨w.heap.size + 1, 2, none⟩ = some (.int .u64 u) := cell_old hv2 hb2
  have hv3 : w2.cell? ⟨w.heap.size + 1, 3, none⟩ = some (.string s) := cell_old hv3 hb2
  have hz2 : w.heap.size + 1 < w2.heap.size := by omega
  clear h hb1 hb2 hb0 hz1 hz0 hs2
  go_wp2_with fail
  go_ret
  exact ⟨rfl, hb02⟩
set_option maxRecDepth 100000 in
set_option maxHeartbeats 2000000 in
theorem rFits1_in (n : ByteArray) (z : Int) (nl : Bool) (i u : Int) (s : ByteArray) (w : World) (hn : n.size ≤ 9223372036854775807) (hc : colOk ⟨n, 1, z, nl⟩ = true) (h : chk 1 i u s = 0) (hz : numSz z = true) (h1 : leastI z ≤ i) (h2 : i ≤ mostI z) :
    Calls Tryz.prog 62 #[.agg #[.string n, .int .i64 1, .int .i64 z, .bool nl], .agg #[.int .i64 1, .int .i64 i, .int .u64 u, .string s]] w fun e w' => e = .returned (.int .i64 (0)) ∧ Below w.heap.size w w' := by
  obtain ⟨e1, e2⟩ := least_most hz
  have HC := Lib.hid (show ∀ W, Calls Tryz.prog 38 #[.agg #[.string n, .int .i64 1, .int .i64 z, .bool nl]] W fun e w' => e = .returned (.bool true) ∧ Below W.heap.size W w' from fun W => by have q := rcolumn_any ⟨n, 1, z, nl⟩ W hn; rw [hc] at q; exact q)
  clear hc hn
  go_enter Tryz.func62, Tryz.ntmps62
  go_wp2_with fail
  refine (HC.out _).mono ?_
  rintro e w1 ⟨rfl, hb1⟩
  have hb0 : Below w.heap.size w w1 := (boxes2 w _ _).trans (hb1.mono (by simp; omega))
  have hz1 : w.heap.size + 1 < w1.heap.size := by have := hb1.size; simp at this; omega
  have hz0 : w.heap.size < w1.heap.size := by omega
  have hn1 : w1.cell? ⟨w.heap.size, 1, none⟩ = some (.int .i64 1) := cell_old (by simp [go_sem]) hb1
  have hn2 : w1.cell? ⟨w.heap.size, 2, none⟩ = some (.int .i64 z) := cell_old (by simp [go_sem]) hb1
  have hn3 : w1.cell? ⟨w.heap.size, 3, none⟩ = some (.bool nl) := cell_old (by simp [go_sem]) hb1
  have hv0 : w1.cell? ⟨w.heap.size + 1, 0, none⟩ = some (.int .i64 1) := cell_old (by simp [go_sem]) hb1
  have hv1 : w1.cell? ⟨w.heap.size + 1, 1, none⟩ = some (.int .i64 i) := cell_old (by simp [go_sem]) hb1
  have hv2 : w1.cell? ⟨w.heap.size + 1, 2, none⟩ = some (.int .u64 u) := cell_old (by simp [go_sem]) hb1
  have hv3 : w1.cell? ⟨w.heap.size + 1, 3, none⟩ = some (.string s) := cell_old (by simp [go_sem]) hb1
  go_wp2_with fail
  refine (rCheck_any _ _ _ _ _).mono ?_
  rintro e w2 ⟨rfl, hb2⟩
  rw [h]
  have hb02 := hb0.trans (hb2.mono hb0.size)
  have hs2 := hb2.size
  have hn1 : w2.cell? ⟨w.heap.size, 1, none⟩ = some (.int .i64 1) := cell_old hn1 hb2
  have hn2 : w2.cell? ⟨w.heap.size, 2, none⟩ = some (.int .i64 z) := cell_old hn2 hb2
  have hn3 : w2.cell? ⟨w.heap.size, 3, none⟩ = some (.bool nl) := cell_old hn3 hb2
  have hv0 : w2.cell? ⟨w.heap.size + 1, 0, none⟩ = some (.int .i64 1) := cell_old hv0 hb2
  have hv1 : w2.cell? ⟨w.heap.size + 1, 1, none⟩ = some (.int .i64 i) := cell_old hv1 hb2
  have hv2 : w2.cell? ⟨w.heap.size + 1, 2, none⟩ = some (.int .u64 u) := cell_old hv2 hb2
  have hv3 : w2.cell? ⟨w.heap.size + 1, 3, none⟩ = some (.string s) := cell_old hv3 hb2
  have hz2 : w.heap.size + 1 < w2.heap.size := by omega
  clear h hb1 hb2 hb0 hz1 hz0 hs2
  have d1 : decide (i < leastI z) = false := by simpa using h1
  have d2 : decide (mostI z < i) = false := by simpa using h2
  clear h1
  clear h2
  go_wp2_with fail
  have l2 : ∀ p : Later w2, p.W.cell? ⟨w.heap.size, 2, none⟩ = some (.int .i64 z) := later_cell hn2
  have l1 : ∀ p : Later w2, p.W.cell? ⟨w.heap.size + 1, 1, none⟩ = some (.int .i64 i) := later_cell hv1
  refine wp_region_later (by kernel_rfl) (by kernel_rfl) ?_
  repeat (go_big_quiet_step ((go_at_call 102; exact Calls.later (rleast_any _ _ hz))))
  refine wpQuiet_nil ?_
  rintro w3 ⟨⟨W0, hb3⟩, rfl⟩
  have g2 : w3.cell? ⟨w.heap.size, 2, none⟩ = some (.int .i64 z) := cell_old hn2 hb3
  have g3 : w3.cell? ⟨w.heap.size + 1, 2, none⟩ = some (.int .u64 u) := cell_old hv2 hb3
  have g4 : w3.cell? ⟨w.heap.size + 1, 3, none⟩ = some (.string s) := cell_old hv3 hb3
  have hz3 : w.heap.size + 1 < w3.heap.size := by have := hb3.size; omega
  go_wp2_with fail
  refine wp_region_later (by kernel_rfl) (by kernel_rfl) ?_
  repeat (go_big_quiet_step (fail))
  refine wpQuiet_nil ?_
  rintro w4 ⟨⟨W0, hb4⟩, rfl⟩
  have k2 : w4.cell? ⟨w.heap.size, 2, none⟩ = some (.int .i64 z) := cell_old g2 hb4
  have k4 : w4.cell? ⟨w.heap.size + 1, 3, none⟩ = some (.string s) := cell_old g4 hb4
  go_wp2_with fail
  go_ret
  exact ⟨rfl, (hb02.trans (hb3.mono hb02.size)).trans (hb4.mono (hb02.trans (hb3.mono hb02.size)).size)⟩
set_option maxRecDepth 100000 in
set_option maxHeartbeats 2000000 in
theorem rFits1_low (n : ByteArray) (z : Int) (nl : Bool) (i u : Int) (s : ByteArray) (w : World) (hn : n.size ≤ 9223372036854775807) (hc : colOk ⟨n, 1, z, nl⟩ = true) (h : chk 1 i u s = 0) (hz : numSz z = true) (h1 : i < leastI z) :
    Calls Tryz.prog 62 #[.agg #[.string n, .int .i64 1, .int .i64 z, .bool nl], .agg #[.int .i64 1, .int .i64 i, .int .u64 u, .string s]] w fun e w' => e = .returned (.int .i64 (133)) ∧ Below w.heap.size w w' := by
  obtain ⟨e1, e2⟩ := least_most hz
  have HC := Lib.hid (show ∀ W, Calls Tryz.prog 38 #[.agg #[.string n, .int .i64 1, .int .i64 z, .bool nl]] W fun e w' => e = .returned (.bool true) ∧ Below W.heap.size W w' from fun W => by have q := rcolumn_any ⟨n, 1, z, nl⟩ W hn; rw [hc] at q; exact q)
  clear hc hn
  go_enter Tryz.func62, Tryz.ntmps62
  go_wp2_with fail
  refine (HC.out _).mono ?_
  rintro e w1 ⟨rfl, hb1⟩
  have hb0 : Below w.heap.size w w1 := (boxes2 w _ _).trans (hb1.mono (by simp; omega))
  have hz1 : w.heap.size + 1 < w1.heap.size := by have := hb1.size; simp at this; omega
  have hz0 : w.heap.size < w1.heap.size := by omega
  have hn1 : w1.cell? ⟨w.heap.size, 1, none⟩ = some (.int .i64 1) := cell_old (by simp [go_sem]) hb1
  have hn2 : w1.cell? ⟨w.heap.size, 2, none⟩ = some (.int .i64 z) := cell_old (by simp [go_sem]) hb1
  have hn3 : w1.cell? ⟨w.heap.size, 3, none⟩ = some (.bool nl) := cell_old (by simp [go_sem]) hb1
  have hv0 : w1.cell? ⟨w.heap.size + 1, 0, none⟩ = some (.int .i64 1) := cell_old (by simp [go_sem]) hb1
  have hv1 : w1.cell? ⟨w.heap.size + 1, 1, none⟩ = some (.int .i64 i) := cell_old (by simp [go_sem]) hb1
  have hv2 : w1.cell? ⟨w.heap.size + 1, 2, none⟩ = some (.int .u64 u) := cell_old (by simp [go_sem]) hb1
  have hv3 : w1.cell? ⟨w.heap.size + 1, 3, none⟩ = some (.string s) := cell_old (by simp [go_sem]) hb1
  go_wp2_with fail
  refine (rCheck_any _ _ _ _ _).mono ?_
  rintro e w2 ⟨rfl, hb2⟩
  rw [h]
  have hb02 := hb0.trans (hb2.mono hb0.size)
  have hs2 := hb2.size
  have hn1 : w2.cell? ⟨w.heap.size, 1, none⟩ = some (.int .i64 1) := cell_old hn1 hb2
  have hn2 : w2.cell? ⟨w.heap.size, 2, none⟩ = some (.int .i64 z) := cell_old hn2 hb2
  have hn3 : w2.cell? ⟨w.heap.size, 3, none⟩ = some (.bool nl) := cell_old hn3 hb2
  have hv0 : w2.cell? ⟨w.heap.size + 1, 0, none⟩ = some (.int .i64 1) := cell_old hv0 hb2
  have hv1 : w2.cell? ⟨w.heap.size + 1, 1, none⟩ = some (.int .i64 i) := cell_old hv1 hb2
  have hv2 : w2.cell? ⟨w.heap.size + 1, 2, none⟩ = some (.int .u64 u) := cell_old hv2 hb2
  have hv3 : w2.cell? ⟨w.heap.size + 1, 3, none⟩ = some (.string s) := cell_old hv3 hb2
  have hz2 : w.heap.size + 1 < w2.heap.size := by omega
  clear h hb1 hb2 hb0 hz1 hz0 hs2
  have d1 : decide (i < leastI z) = true := by simpa using h1
  clear h1
  go_wp2_with fail
  have l2 : ∀ p : Later w2, p.W.cell? ⟨w.heap.size, 2, none⟩ = some (.int .i64 z) := later_cell hn2
  have l1 : ∀ p : Later w2, p.W.cell? ⟨w.heap.size + 1, 1, none⟩ = some (.int .i64 i) := later_cell hv1
  refine wp_region_later (by kernel_rfl) (by kernel_rfl) ?_
  repeat (go_big_quiet_step ((go_at_call 102; exact Calls.later (rleast_any _ _ hz))))
  refine wpQuiet_nil ?_
  rintro w3 ⟨⟨W0, hb3⟩, rfl⟩
  go_wp2_with fail
  go_ret
  exact ⟨rfl, hb02.trans (hb3.mono hb02.size)⟩
set_option maxRecDepth 100000 in
set_option maxHeartbeats 2000000 in
theorem rFits1_high (n : ByteArray) (z : Int) (nl : Bool) (i u : Int) (s : ByteArray) (w : World) (hn : n.size ≤ 9223372036854775807) (hc : colOk ⟨n, 1, z, nl⟩ = true) (h : chk 1 i u s = 0) (hz : numSz z = true) (h1 : leastI z ≤ i) (h2 : mostI z < i) :
    Calls Tryz.prog 62 #[.agg #[.string n, .int .i64 1, .int .i64 z, .bool nl], .agg #[.int .i64 1, .int .i64 i, .int .u64 u, .string s]] w fun e w' => e = .returned (.int .i64 (133)) ∧ Below w.heap.size w w' := by
  obtain ⟨e1, e2⟩ := least_most hz
  have HC := Lib.hid (show ∀ W, Calls Tryz.prog 38 #[.agg #[.string n, .int .i64 1, .int .i64 z, .bool nl]] W fun e w' => e = .returned (.bool true) ∧ Below W.heap.size W w' from fun W => by have q := rcolumn_any ⟨n, 1, z, nl⟩ W hn; rw [hc] at q; exact q)
  clear hc hn
  go_enter Tryz.func62, Tryz.ntmps62
  go_wp2_with fail
  refine (HC.out _).mono ?_
  rintro e w1 ⟨rfl, hb1⟩
  have hb0 : Below w.heap.size w w1 := (boxes2 w _ _).trans (hb1.mono (by simp; omega))
  have hz1 : w.heap.size + 1 < w1.heap.size := by have := hb1.size; simp at this; omega
  have hz0 : w.heap.size < w1.heap.size := by omega
  have hn1 : w1.cell? ⟨w.heap.size, 1, none⟩ = some (.int .i64 1) := cell_old (by simp [go_sem]) hb1
  have hn2 : w1.cell? ⟨w.heap.size, 2, none⟩ = some (.int .i64 z) := cell_old (by simp [go_sem]) hb1
  have hn3 : w1.cell? ⟨w.heap.size, 3, none⟩ = some (.bool nl) := cell_old (by simp [go_sem]) hb1
  have hv0 : w1.cell? ⟨w.heap.size + 1, 0, none⟩ = some (.int .i64 1) := cell_old (by simp [go_sem]) hb1
  have hv1 : w1.cell? ⟨w.heap.size + 1, 1, none⟩ = some (.int .i64 i) := cell_old (by simp [go_sem]) hb1
  have hv2 : w1.cell? ⟨w.heap.size + 1, 2, none⟩ = some (.int .u64 u) := cell_old (by simp [go_sem]) hb1
  have hv3 : w1.cell? ⟨w.heap.size + 1, 3, none⟩ = some (.string s) := cell_old (by simp [go_sem]) hb1
  go_wp2_with fail
  refine (rCheck_any _ _ _ _ _).mono ?_
  rintro e w2 ⟨rfl, hb2⟩
  rw [h]
  have hb02 := hb0.trans (hb2.mono hb0.size)
  have hs2 := hb2.size
  have hn1 : w2.cell? ⟨w.heap.size, 1, none⟩ = some (.int .i64 1) := cell_old hn1 hb2
  have hn2 : w2.cell? ⟨w.heap.size, 2, none⟩ = some (.int .i64 z) := cell_old hn2 hb2
  have hn3 : w2.cell? ⟨w.heap.size, 3, none⟩ = some (.bool nl) := cell_old hn3 hb2
  have hv0 : w2.cell? ⟨w.heap.size + 1, 0, none⟩ = some (.int .i64 1) := cell_old hv0 hb2
  have hv1 : w2.cell? ⟨w.heap.size + 1, 1, none⟩ = some (.int .i64 i) := cell_old hv1 hb2
  have hv2 : w2.cell? ⟨w.heap.size + 1, 2, none⟩ = some (.int .u64 u) := cell_old hv2 hb2
  have hv3 : w2.cell? ⟨w.heap.size + 1, 3, none⟩ = some (.string s) := cell_old hv3 hb2
  have hz2 : w.heap.size + 1 < w2.heap.size := by omega
  clear h hb1 hb2 hb0 hz1 hz0 hs2
  have d1 : decide (i < leastI z) = false := by simpa using h1
  have d2 : decide (mostI z < i) = true := by simpa using h2
  clear h1
  clear h2
  go_wp2_with fail
  have l2 : ∀ p : Later w2, p.W.cell? ⟨w.heap.size, 2, none⟩ = some (.int .i64 z) := later_cell hn2
  have l1 : ∀ p : Later w2, p.W.cell? ⟨w.heap.size + 1, 1, none⟩ = some (.int .i64 i) := later_cell hv1
  refine wp_region_later (by kernel_rfl) (by kernel_rfl) ?_
  repeat (go_big_quiet_step ((go_at_call 102; exact Calls.later (rleast_any _ _ hz))))
  refine wpQuiet_nil ?_
  rintro w3 ⟨⟨W0, hb3⟩, rfl⟩
  go_wp2_with fail
  go_ret
  exact ⟨rfl, hb02.trans (hb3.mono hb02.size)⟩
set_option maxRecDepth 100000 in
set_option maxHeartbeats 2000000 in
theorem rFits2_in (n : ByteArray) (z : Int) (nl : Bool) (i u : Int) (s : ByteArray) (w : World) (hn : n.size ≤ 9223372036854775807) (hc : colOk ⟨n, 2, z, nl⟩ = true) (h : chk 2 i u s = 0) (hz : numSz z = true) (h1 : u ≤ mostU z) :
    Calls Tryz.prog 62 #[.agg #[.string n, .int .i64 2, .int .i64 z, .bool nl], .agg #[.int .i64 2, .int .i64 i, .int .u64 u, .string s]] w fun e w' => e = .returned (.int .i64 (0)) ∧ Below w.heap.size w w' := by
  have HC := Lib.hid (show ∀ W, Calls Tryz.prog 38 #[.agg #[.string n, .int .i64 2, .int .i64 z, .bool nl]] W fun e w' => e = .returned (.bool true) ∧ Below W.heap.size W w' from fun W => by have q := rcolumn_any ⟨n, 2, z, nl⟩ W hn; rw [hc] at q; exact q)
  clear hc hn
  go_enter Tryz.func62, Tryz.ntmps62
  go_wp2_with fail
  refine (HC.out _).mono ?_
  rintro e w1 ⟨rfl, hb1⟩
  have hb0 : Below w.heap.size w w1 := (boxes2 w _ _).trans (hb1.mono (by simp; omega))
  have hz1 : w.heap.size + 1 < w1.heap.size := by have := hb1.size; simp at this; omega
  have hz0 : w.heap.size < w1.heap.size := by omega
  have hn1 : w1.cell? ⟨w.heap.size, 1, none⟩ = some (.int .i64 2) := cell_old (by simp [go_sem]) hb1
  have hn2 : w1.cell? ⟨w.heap.size, 2, none⟩ = some (.int .i64 z) := cell_old (by simp [go_sem]) hb1
  have hn3 : w1.cell? ⟨w.heap.size, 3, none⟩ = some (.bool nl) := cell_old (by simp [go_sem]) hb1
  have hv0 : w1.cell? ⟨w.heap.size + 1, 0, none⟩ = some (.int .i64 2) := cell_old (by simp [go_sem]) hb1
  have hv1 : w1.cell? ⟨w.heap.size + 1, 1, none⟩ = some (.int .i64 i) := cell_old (by simp [go_sem]) hb1
  have hv2 : w1.cell? ⟨w.heap.size + 1, 2, none⟩ = some (.int .u64 u) := cell_old (by simp [go_sem]) hb1
  have hv3 : w1.cell? ⟨w.heap.size + 1, 3, none⟩ = some (.string s) := cell_old (by simp [go_sem]) hb1
  go_wp2_with fail
  refine (rCheck_any _ _ _ _ _).mono ?_
  rintro e w2 ⟨rfl, hb2⟩
  rw [h]
  have hb02 := hb0.trans (hb2.mono hb0.size)
  have hs2 := hb2.size
  have hn1 : w2.cell? ⟨w.heap.size, 1, none⟩ = some (.int .i64 2) := cell_old hn1 hb2
  have hn2 : w2.cell? ⟨w.heap.size, 2, none⟩ = some (.int .i64 z) := cell_old hn2 hb2
  have hn3 : w2.cell? ⟨w.heap.size, 3, none⟩ = some (.bool nl) := cell_old hn3 hb2
  have hv0 : w2.cell? ⟨w.heap.size + 1, 0, none⟩ = some (.int .i64 2) := cell_old hv0 hb2
  have hv1 : w2.cell? ⟨w.heap.size + 1, 1, none⟩ = some (.int .i64 i) := cell_old hv1 hb2
  have hv2 : w2.cell? ⟨w.heap.size + 1, 2, none⟩ = some (.int .u64 u) := cell_old hv2 hb2
  have hv3 : w2.cell? ⟨w.heap.size + 1, 3, none⟩ = some (.string s) := cell_old hv3 hb2
  have hz2 : w.heap.size + 1 < w2.heap.size := by omega
  clear h hb1 hb2 hb0 hz1 hz0 hs2
  have d1 : decide (mostU z < u) = false := by simpa using h1
  clear h1
  go_wp2_with fail
  refine wp_region_later (by kernel_rfl) (by kernel_rfl) ?_
  repeat (go_big_quiet_step (fail))
  refine wpQuiet_nil ?_
  rintro w3 ⟨⟨W0, hb3⟩, rfl⟩
  have g2 : w3.cell? ⟨w.heap.size, 2, none⟩ = some (.int .i64 z) := cell_old hn2 hb3
  have g3 : w3.cell? ⟨w.heap.size + 1, 2, none⟩ = some (.int .u64 u) := cell_old hv2 hb3
  have g4 : w3.cell? ⟨w.heap.size + 1, 3, none⟩ = some (.string s) := cell_old hv3 hb3
  have hz3 : w.heap.size + 1 < w3.heap.size := by have := hb3.size; omega
  go_wp2_with fail
  have l3 : ∀ p : Later w3, p.W.cell? ⟨w.heap.size, 2, none⟩ = some (.int .i64 z) := later_cell g2
  have l4 : ∀ p : Later w3, p.W.cell? ⟨w.heap.size + 1, 2, none⟩ = some (.int .u64 u) := later_cell g3
  refine wp_region_later (by kernel_rfl) (by kernel_rfl) ?_
  repeat (go_big_quiet_step ((go_at_call 103; exact Calls.later (rmost_any _ _ hz))))
  refine wpQuiet_nil ?_
  rintro w4 ⟨⟨W0, hb4⟩, rfl⟩
  have k2 : w4.cell? ⟨w.heap.size, 2, none⟩ = some (.int .i64 z) := cell_old g2 hb4
  have k4 : w4.cell? ⟨w.heap.size + 1, 3, none⟩ = some (.string s) := cell_old g4 hb4
  go_wp2_with fail
  go_ret
  exact ⟨rfl, (hb02.trans (hb3.mono hb02.size)).trans (hb4.mono (hb02.trans (hb3.mono hb02.size)).size)⟩
set_option maxRecDepth 100000 in
set_option maxHeartbeats 2000000 in
theorem rFits2_out (n : ByteArray) (z : Int) (nl : Bool) (i u : Int) (s : ByteArray) (w : World) (hn : n.size ≤ 9223372036854775807) (hc : colOk ⟨n, 2, z, nl⟩ = true) (h : chk 2 i u s = 0) (hz : numSz z = true) (h1 : mostU z < u) :
    Calls Tryz.prog 62 #[.agg #[.string n, .int .i64 2, .int .i64 z, .bool nl], .agg #[.int .i64 2, .int .i64 i, .int .u64 u, .string s]] w fun e w' => e = .returned (.int .i64 (133)) ∧ Below w.heap.size w w' := by
  have HC := Lib.hid (show ∀ W, Calls Tryz.prog 38 #[.agg #[.string n, .int .i64 2, .int .i64 z, .bool nl]] W fun e w' => e = .returned (.bool true) ∧ Below W.heap.size W w' from fun W => by have q := rcolumn_any ⟨n, 2, z, nl⟩ W hn; rw [hc] at q; exact q)
  clear hc hn
  go_enter Tryz.func62, Tryz.ntmps62
  go_wp2_with fail
  refine (HC.out _).mono ?_
  rintro e w1 ⟨rfl, hb1⟩
  have hb0 : Below w.heap.size w w1 := (boxes2 w _ _).trans (hb1.mono (by simp; omega))
  have hz1 : w.heap.size + 1 < w1.heap.size := by have := hb1.size; simp at this; omega
  have hz0 : w.heap.size < w1.heap.size := by omega
  have hn1 : w1.cell? ⟨w.heap.size, 1, none⟩ = some (.int .i64 2) := cell_old (by simp [go_sem]) hb1
  have hn2 : w1.cell? ⟨w.heap.size, 2, none⟩ = some (.int .i64 z) := cell_old (by simp [go_sem]) hb1
  have hn3 : w1.cell? ⟨w.heap.size, 3, none⟩ = some (.bool nl) := cell_old (by simp [go_sem]) hb1
  have hv0 : w1.cell? ⟨w.heap.size + 1, 0, none⟩ = some (.int .i64 2) := cell_old (by simp [go_sem]) hb1
  have hv1 : w1.cell? ⟨w.heap.size + 1, 1, none⟩ = some (.int .i64 i) := cell_old (by simp [go_sem]) hb1
  have hv2 : w1.cell? ⟨w.heap.size + 1, 2, none⟩ = some (.int .u64 u) := cell_old (by simp [go_sem]) hb1
  have hv3 : w1.cell? ⟨w.heap.size + 1, 3, none⟩ = some (.string s) := cell_old (by simp [go_sem]) hb1
  go_wp2_with fail
  refine (rCheck_any _ _ _ _ _).mono ?_
  rintro e w2 ⟨rfl, hb2⟩
  rw [h]
  have hb02 := hb0.trans (hb2.mono hb0.size)
  have hs2 := hb2.size
  have hn1 : w2.cell? ⟨w.heap.size, 1, none⟩ = some (.int .i64 2) := cell_old hn1 hb2
  have hn2 : w2.cell? ⟨w.heap.size, 2, none⟩ = some (.int .i64 z) := cell_old hn2 hb2
  have hn3 : w2.cell? ⟨w.heap.size, 3, none⟩ = some (.bool nl) := cell_old hn3 hb2
  have hv0 : w2.cell? ⟨w.heap.size + 1, 0, none⟩ = some (.int .i64 2) := cell_old hv0 hb2
  have hv1 : w2.cell? ⟨w.heap.size + 1, 1, none⟩ = some (.int .i64 i) := cell_old hv1 hb2
  have hv2 : w2.cell? ⟨w.heap.size + 1, 2, none⟩ = some (.int .u64 u) := cell_old hv2 hb2
  have hv3 : w2.cell? ⟨w.heap.size + 1, 3, none⟩ = some (.string s) := cell_old hv3 hb2
  have hz2 : w.heap.size + 1 < w2.heap.size := by omega
  clear h hb1 hb2 hb0 hz1 hz0 hs2
  have d1 : decide (mostU z < u) = true := by simpa using h1
  clear h1
  go_wp2_with fail
  refine wp_region_later (by kernel_rfl) (by kernel_rfl) ?_
  repeat (go_big_quiet_step (fail))
  refine wpQuiet_nil ?_
  rintro w3 ⟨⟨W0, hb3⟩, rfl⟩
  have g2 : w3.cell? ⟨w.heap.size, 2, none⟩ = some (.int .i64 z) := cell_old hn2 hb3
  have g3 : w3.cell? ⟨w.heap.size + 1, 2, none⟩ = some (.int .u64 u) := cell_old hv2 hb3
  have g4 : w3.cell? ⟨w.heap.size + 1, 3, none⟩ = some (.string s) := cell_old hv3 hb3
  have hz3 : w.heap.size + 1 < w3.heap.size := by have := hb3.size; omega
  go_wp2_with fail
  have l3 : ∀ p : Later w3, p.W.cell? ⟨w.heap.size, 2, none⟩ = some (.int .i64 z) := later_cell g2
  have l4 : ∀ p : Later w3, p.W.cell? ⟨w.heap.size + 1, 2, none⟩ = some (.int .u64 u) := later_cell g3
  refine wp_region_later (by kernel_rfl) (by kernel_rfl) ?_
  repeat (go_big_quiet_step ((go_at_call 103; exact Calls.later (rmost_any _ _ hz))))
  refine wpQuiet_nil ?_
  rintro w4 ⟨⟨W0, hb4⟩, rfl⟩
  go_wp2_with fail
  go_ret
  exact ⟨rfl, (hb02.trans (hb3.mono hb02.size)).trans (hb4.mono (hb02.trans (hb3.mono hb02.size)).size)⟩
set_option maxRecDepth 100000 in
set_option maxHeartbeats 2000000 in
theorem rFits3_in (n : ByteArray) (z : Int) (nl : Bool) (i u : Int) (s : ByteArray) (w : World) (hn : n.size ≤ 9223372036854775807) (hc : colOk ⟨n, 3, z, nl⟩ = true) (h : chk 3 i u s = 0)  :
    Calls Tryz.prog 62 #[.agg #[.string n, .int .i64 3, .int .i64 z, .bool nl], .agg #[.int .i64 3, .int .i64 i, .int .u64 u, .string s]] w fun e w' => e = .returned (.int .i64 (0)) ∧ Below w.heap.size w w' := by
  have HC := Lib.hid (show ∀ W, Calls Tryz.prog 38 #[.agg #[.string n, .int .i64 3, .int .i64 z, .bool nl]] W fun e w' => e = .returned (.bool true) ∧ Below W.heap.size W w' from fun W => by have q := rcolumn_any ⟨n, 3, z, nl⟩ W hn; rw [hc] at q; exact q)
  clear hc hn
  go_enter Tryz.func62, Tryz.ntmps62
  go_wp2_with fail
  refine (HC.out _).mono ?_
  rintro e w1 ⟨rfl, hb1⟩
  have hb0 : Below w.heap.size w w1 := (boxes2 w _ _).trans (hb1.mono (by simp; omega))
  have hz1 : w.heap.size + 1 < w1.heap.size := by have := hb1.size; simp at this; omega
  have hz0 : w.heap.size < w1.heap.size := by omega
  have hn1 : w1.cell? ⟨w.heap.size, 1, none⟩ = some (.int .i64 3) := cell_old (by simp [go_sem]) hb1
  have hn2 : w1.cell? ⟨w.heap.size, 2, none⟩ = some (.int .i64 z) := cell_old (by simp [go_sem]) hb1
  have hn3 : w1.cell? ⟨w.heap.size, 3, none⟩ = some (.bool nl) := cell_old (by simp [go_sem]) hb1
  have hv0 : w1.cell? ⟨w.heap.size + 1, 0, none⟩ = some (.int .i64 3) := cell_old (by simp [go_sem]) hb1
  have hv1 : w1.cell? ⟨w.heap.size + 1, 1, none⟩ = some (.int .i64 i) := cell_old (by simp [go_sem]) hb1
  have hv2 : w1.cell? ⟨w.heap.size + 1, 2, none⟩ = some (.int .u64 u) := cell_old (by simp [go_sem]) hb1
  have hv3 : w1.cell? ⟨w.heap.size + 1, 3, none⟩ = some (.string s) := cell_old (by simp [go_sem]) hb1
  go_wp2_with fail
  refine (rCheck_any _ _ _ _ _).mono ?_
  rintro e w2 ⟨rfl, hb2⟩
  rw [h]
  have hb02 := hb0.trans (hb2.mono hb0.size)
  have hs2 := hb2.size
  have hn1 : w2.cell? ⟨w.heap.size, 1, none⟩ = some (.int .i64 3) := cell_old hn1 hb2
  have hn2 : w2.cell? ⟨w.heap.size, 2, none⟩ = some (.int .i64 z) := cell_old hn2 hb2
  have hn3 : w2.cell? ⟨w.heap.size, 3, none⟩ = some (.bool nl) := cell_old hn3 hb2
  have hv0 : w2.cell? ⟨w.heap.size + 1, 0, none⟩ = some (.int .i64 3) := cell_old hv0 hb2
  have hv1 : w2.cell? ⟨w.heap.size + 1, 1, none⟩ = some (.int .i64 i) := cell_old hv1 hb2
  have hv2 : w2.cell? ⟨w.heap.size + 1, 2, none⟩ = some (.int .u64 u) := cell_old hv2 hb2
  have hv3 : w2.cell? ⟨w.heap.size + 1, 3, none⟩ = some (.string s) := cell_old hv3 hb2
  have hz2 : w.heap.size + 1 < w2.heap.size := by omega
  clear h hb1 hb2 hb0 hz1 hz0 hs2
  go_wp2_with fail
  refine wp_region_later (by kernel_rfl) (by kernel_rfl) ?_
  repeat (go_big_quiet_step (fail))
  refine wpQuiet_nil ?_
  rintro w3 ⟨⟨W0, hb3⟩, rfl⟩
  have g2 : w3.cell? ⟨w.heap.size, 2, none⟩ = some (.int .i64 z) := cell_old hn2 hb3
  have g3 : w3.cell? ⟨w.heap.size + 1, 2, none⟩ = some (.int .u64 u) := cell_old hv2 hb3
  have g4 : w3.cell? ⟨w.heap.size + 1, 3, none⟩ = some (.string s) := cell_old hv3 hb3
  have hz3 : w.heap.size + 1 < w3.heap.size := by have := hb3.size; omega
  go_wp2_with fail
  refine wp_region_later (by kernel_rfl) (by kernel_rfl) ?_
  repeat (go_big_quiet_step (fail))
  refine wpQuiet_nil ?_
  rintro w4 ⟨⟨W0, hb4⟩, rfl⟩
  have k2 : w4.cell? ⟨w.heap.size, 2, none⟩ = some (.int .i64 z) := cell_old g2 hb4
  have k4 : w4.cell? ⟨w.heap.size + 1, 3, none⟩ = some (.string s) := cell_old g4 hb4
  go_wp2_with fail
  go_ret
  exact ⟨rfl, (hb02.trans (hb3.mono hb02.size)).trans (hb4.mono (hb02.trans (hb3.mono hb02.size)).size)⟩
set_option maxRecDepth 100000 in
set_option maxHeartbeats 2000000 in
theorem rFits4_in (n : ByteArray) (z : Int) (nl : Bool) (i u : Int) (s : ByteArray) (w : World) (hn : n.size ≤ 9223372036854775807) (hc : colOk ⟨n, 4, z, nl⟩ = true) (h : chk 4 i u s = 0) (h1 : (s.size : Int) ≤ z) :
    Calls Tryz.prog 62 #[.agg #[.string n, .int .i64 4, .int .i64 z, .bool nl], .agg #[.int .i64 4, .int .i64 i, .int .u64 u, .string s]] w fun e w' => e = .returned (.int .i64 (0)) ∧ Below w.heap.size w w' := by
  have HC := Lib.hid (show ∀ W, Calls Tryz.prog 38 #[.agg #[.string n, .int .i64 4, .int .i64 z, .bool nl]] W fun e w' => e = .returned (.bool true) ∧ Below W.heap.size W w' from fun W => by have q := rcolumn_any ⟨n, 4, z, nl⟩ W hn; rw [hc] at q; exact q)
  clear hc hn
  go_enter Tryz.func62, Tryz.ntmps62
  go_wp2_with fail
  refine (HC.out _).mono ?_
  rintro e w1 ⟨rfl, hb1⟩
  have hb0 : Below w.heap.size w w1 := (boxes2 w _ _).trans (hb1.mono (by simp; omega))
  have hz1 : w.heap.size + 1 < w1.heap.size := by have := hb1.size; simp at this; omega
  have hz0 : w.heap.size < w1.heap.size := by omega
  have hn1 : w1.cell? ⟨w.heap.size, 1, none⟩ = some (.int .i64 4) := cell_old (by simp [go_sem]) hb1
  have hn2 : w1.cell? ⟨w.heap.size, 2, none⟩ = some (.int .i64 z) := cell_old (by simp [go_sem]) hb1
  have hn3 : w1.cell? ⟨w.heap.size, 3, none⟩ = some (.bool nl) := cell_old (by simp [go_sem]) hb1
  have hv0 : w1.cell? ⟨w.heap.size + 1, 0, none⟩ = some (.int .i64 4) := cell_old (by simp [go_sem]) hb1
  have hv1 : w1.cell? ⟨w.heap.size + 1, 1, none⟩ = some (.int .i64 i) := cell_old (by simp [go_sem]) hb1
  have hv2 : w1.cell? ⟨w.heap.size + 1, 2, none⟩ = some (.int .u64 u) := cell_old (by simp [go_sem]) hb1
  have hv3 : w1.cell? ⟨w.heap.size + 1, 3, none⟩ = some (.string s) := cell_old (by simp [go_sem]) hb1
  go_wp2_with fail
  refine (rCheck_any _ _ _ _ _).mono ?_
  rintro e w2 ⟨rfl, hb2⟩
  rw [h]
  have hb02 := hb0.trans (hb2.mono hb0.size)
  have hs2 := hb2.size
  have hn1 : w2.cell? ⟨w.heap.size, 1, none⟩ = some (.int .i64 4) := cell_old hn1 hb2
  have hn2 : w2.cell? ⟨w.heap.size, 2, none⟩ = some (.int .i64 z) := cell_old hn2 hb2
  have hn3 : w2.cell? ⟨w.heap.size, 3, none⟩ = some (.bool nl) := cell_old hn3 hb2
  have hv0 : w2.cell? ⟨w.heap.size + 1, 0, none⟩ = some (.int .i64 4) := cell_old hv0 hb2
  have hv1 : w2.cell? ⟨w.heap.size + 1, 1, none⟩ = some (.int .i64 i) := cell_old hv1 hb2
  have hv2 : w2.cell? ⟨w.heap.size + 1, 2, none⟩ = some (.int .u64 u) := cell_old hv2 hb2
  have hv3 : w2.cell? ⟨w.heap.size + 1, 3, none⟩ = some (.string s) := cell_old hv3 hb2
  have hz2 : w.heap.size + 1 < w2.heap.size := by omega
  clear h hb1 hb2 hb0 hz1 hz0 hs2
  go_wp2_with fail
  refine wp_region_later (by kernel_rfl) (by kernel_rfl) ?_
  repeat (go_big_quiet_step (fail))
  refine wpQuiet_nil ?_
  rintro w3 ⟨⟨W0, hb3⟩, rfl⟩
  have g2 : w3.cell? ⟨w.heap.size, 2, none⟩ = some (.int .i64 z) := cell_old hn2 hb3
  have g3 : w3.cell? ⟨w.heap.size + 1, 2, none⟩ = some (.int .u64 u) := cell_old hv2 hb3
  have g4 : w3.cell? ⟨w.heap.size + 1, 3, none⟩ = some (.string s) := cell_old hv3 hb3
  have hz3 : w.heap.size + 1 < w3.heap.size := by have := hb3.size; omega
  go_wp2_with fail
  refine wp_region_later (by kernel_rfl) (by kernel_rfl) ?_
  repeat (go_big_quiet_step (fail))
  refine wpQuiet_nil ?_
  rintro w4 ⟨⟨W0, hb4⟩, rfl⟩
  have k2 : w4.cell? ⟨w.heap.size, 2, none⟩ = some (.int .i64 z) := cell_old g2 hb4
  have k4 : w4.cell? ⟨w.heap.size + 1, 3, none⟩ = some (.string s) := cell_old g4 hb4
  go_wp2_with fail
  go_ret
  exact ⟨rfl, (hb02.trans (hb3.mono hb02.size)).trans (hb4.mono (hb02.trans (hb3.mono hb02.size)).size)⟩
set_option maxRecDepth 100000 in
set_option maxHeartbeats 2000000 in
theorem rFits4_out (n : ByteArray) (z : Int) (nl : Bool) (i u : Int) (s : ByteArray) (w : World) (hn : n.size ≤ 9223372036854775807) (hc : colOk ⟨n, 4, z, nl⟩ = true) (h : chk 4 i u s = 0) (h1 : z < (s.size : Int)) :
    Calls Tryz.prog 62 #[.agg #[.string n, .int .i64 4, .int .i64 z, .bool nl], .agg #[.int .i64 4, .int .i64 i, .int .u64 u, .string s]] w fun e w' => e = .returned (.int .i64 (133)) ∧ Below w.heap.size w w' := by
  have HC := Lib.hid (show ∀ W, Calls Tryz.prog 38 #[.agg #[.string n, .int .i64 4, .int .i64 z, .bool nl]] W fun e w' => e = .returned (.bool true) ∧ Below W.heap.size W w' from fun W => by have q := rcolumn_any ⟨n, 4, z, nl⟩ W hn; rw [hc] at q; exact q)
  clear hc hn
  go_enter Tryz.func62, Tryz.ntmps62
  go_wp2_with fail
  refine (HC.out _).mono ?_
  rintro e w1 ⟨rfl, hb1⟩
  have hb0 : Below w.heap.size w w1 := (boxes2 w _ _).trans (hb1.mono (by simp; omega))
  have hz1 : w.heap.size + 1 < w1.heap.size := by have := hb1.size; simp at this; omega
  have hz0 : w.heap.size < w1.heap.size := by omega
  have hn1 : w1.cell? ⟨w.heap.size, 1, none⟩ = some (.int .i64 4) := cell_old (by simp [go_sem]) hb1
  have hn2 : w1.cell? ⟨w.heap.size, 2, none⟩ = some (.int .i64 z) := cell_old (by simp [go_sem]) hb1
  have hn3 : w1.cell? ⟨w.heap.size, 3, none⟩ = some (.bool nl) := cell_old (by simp [go_sem]) hb1
  have hv0 : w1.cell? ⟨w.heap.size + 1, 0, none⟩ = some (.int .i64 4) := cell_old (by simp [go_sem]) hb1
  have hv1 : w1.cell? ⟨w.heap.size + 1, 1, none⟩ = some (.int .i64 i) := cell_old (by simp [go_sem]) hb1
  have hv2 : w1.cell? ⟨w.heap.size + 1, 2, none⟩ = some (.int .u64 u) := cell_old (by simp [go_sem]) hb1
  have hv3 : w1.cell? ⟨w.heap.size + 1, 3, none⟩ = some (.string s) := cell_old (by simp [go_sem]) hb1
  go_wp2_with fail
  refine (rCheck_any _ _ _ _ _).mono ?_
  rintro e w2 ⟨rfl, hb2⟩
  rw [h]
  have hb02 := hb0.trans (hb2.mono hb0.size)
  have hs2 := hb2.size
  have hn1 : w2.cell? ⟨w.heap.size, 1, none⟩ = some (.int .i64 4) := cell_old hn1 hb2
  have hn2 : w2.cell? ⟨w.heap.size, 2, none⟩ = some (.int .i64 z) := cell_old hn2 hb2
  have hn3 : w2.cell? ⟨w.heap.size, 3, none⟩ = some (.bool nl) := cell_old hn3 hb2
  have hv0 : w2.cell? ⟨w.heap.size + 1, 0, none⟩ = some (.int .i64 4) := cell_old hv0 hb2
  have hv1 : w2.cell? ⟨w.heap.size + 1, 1, none⟩ = some (.int .i64 i) := cell_old hv1 hb2
  have hv2 : w2.cell? ⟨w.heap.size + 1, 2, none⟩ = some (.int .u64 u) := cell_old hv2 hb2
  have hv3 : w2.cell? ⟨w.heap.size + 1, 3, none⟩ = some (.string s) := cell_old hv3 hb2
  have hz2 : w.heap.size + 1 < w2.heap.size := by omega
  clear h hb1 hb2 hb0 hz1 hz0 hs2
  go_wp2_with fail
  refine wp_region_later (by kernel_rfl) (by kernel_rfl) ?_
  repeat (go_big_quiet_step (fail))
  refine wpQuiet_nil ?_
  rintro w3 ⟨⟨W0, hb3⟩, rfl⟩
  have g2 : w3.cell? ⟨w.heap.size, 2, none⟩ = some (.int .i64 z) := cell_old hn2 hb3
  have g3 : w3.cell? ⟨w.heap.size + 1, 2, none⟩ = some (.int .u64 u) := cell_old hv2 hb3
  have g4 : w3.cell? ⟨w.heap.size + 1, 3, none⟩ = some (.string s) := cell_old hv3 hb3
  have hz3 : w.heap.size + 1 < w3.heap.size := by have := hb3.size; omega
  go_wp2_with fail
  refine wp_region_later (by kernel_rfl) (by kernel_rfl) ?_
  repeat (go_big_quiet_step (fail))
  refine wpQuiet_nil ?_
  rintro w4 ⟨⟨W0, hb4⟩, rfl⟩
  have k2 : w4.cell? ⟨w.heap.size, 2, none⟩ = some (.int .i64 z) := cell_old g2 hb4
  have k4 : w4.cell? ⟨w.heap.size + 1, 3, none⟩ = some (.string s) := cell_old g4 hb4
  go_wp2_with fail
  go_ret
  exact ⟨rfl, (hb02.trans (hb3.mono hb02.size)).trans (hb4.mono (hb02.trans (hb3.mono hb02.size)).size)⟩
theorem rFits_any (c : Col) (v : Vl) (w : World) (hn : c.n.size ≤ 9223372036854775807) :
    Calls Tryz.prog 62 #[.agg #[.string c.n, .int .i64 c.t, .int .i64 c.z, .bool c.u], .agg #[.int .i64 v.k, .int .i64 v.i, .int .u64 v.u, .string v.s]] w fun e w' => e = .returned (.int .i64 (fitsN c v)) ∧ Below w.heap.size w w' := by
  obtain ⟨n, t, z, nl⟩ := c
  obtain ⟨k, i, u, s⟩ := v
  unfold fitsN
  simp only at hn ⊢
  cases hc : colOk ⟨n, t, z, nl⟩
  · exact rFits_col n t z nl k i u s w hn hc
  rw [if_pos rfl]
  have hsz : szOk t z = true := by unfold colOk at hc; rw [Bool.and_eq_true] at hc; exact hc.1
  unfold fitN Vl.chk
  simp only
  by_cases h0 : chk k i u s = 0
  · rw [if_neg (by simpa using h0)]
    by_cases hk : k = 0
    · subst hk
      rw [if_pos rfl]
      cases nl
      · exact rFits_nonull n t z i u s w hn hc h0
      · exact rFits_null n t z i u s w hn hc h0
    · rw [if_neg hk]
      by_cases ht : k = t
      · subst ht
        rw [if_neg (by simp)]
        rcases type_cases k with ht | rfl | rfl | rfl | rfl
        · rw [szOk_none ht] at hsz
          cases hsz
        · rw [show bnd 1 z ⟨1, i, u, s⟩ = (decide (leastI z ≤ i) && decide (i ≤ mostI z)) from rfl]
          by_cases h1 : leastI z ≤ i
          · by_cases h2 : i ≤ mostI z
            · rw [if_pos (by simp [h1, h2])]
              exact rFits1_in n z nl i u s w hn hc h0 hsz h1 h2
            · rw [if_neg (by simp [h2])]
              exact rFits1_high n z nl i u s w hn hc h0 hsz h1 (by omega)
          · rw [if_neg (by simp [h1])]
            exact rFits1_low n z nl i u s w hn hc h0 hsz (by omega)
        · rw [show bnd 2 z ⟨2, i, u, s⟩ = decide (u ≤ mostU z) from rfl]
          by_cases h1 : u ≤ mostU z
          · rw [if_pos (by simp [h1])]
            exact rFits2_in n z nl i u s w hn hc h0 hsz h1
          · rw [if_neg (by simp [h1])]
            exact rFits2_out n z nl i u s w hn hc h0 hsz (by omega)
        · exact rFits3_in n z nl i u s w hn hc h0
        · rw [show bnd 4 z ⟨4, i, u, s⟩ = decide ((s.size : Int) ≤ z) from rfl]
          by_cases h1 : (s.size : Int) ≤ z
          · rw [if_pos (by simp [h1])]
            exact rFits4_in n z nl i u s w hn hc h0 h1
          · rw [if_neg (by simp [h1])]
            exact rFits4_out n z nl i u s w hn hc h0 (by omega)
      · rw [if_pos ht]
        exact rFits_type n t z nl k i u s w hn hc h0 (by simpa using hk) (by simpa using ht)
  · rw [if_pos h0]
    exact rFits_chk n t z nl k i u s w hn hc _ rfl h0
end Go.Proofs.YtocmjlnhcloccaaGreatDoor
namespace Go.Proofs.YtocmjlnhcloccaaGreatDoor
open Go.RowKit

theorem setTo_succ (n : Nat) (l : List Int) (k : Nat) (x : Int) (hk : k < l.length) (hc : l[k] = x) : setTo n l (k + 1) = (setTo n l k && ((decide (0 ≤ x) && decide (x < n)) && !decide (firstI l x < k))) := by
  unfold setTo
  rw [List.range_succ, List.all_append]
  have e : l.getD k 0 = x := by rw [List.getD_eq_getElem?_getD, List.getElem?_eq_getElem hk, hc]; rfl
  simp only [List.all_cons, List.all_nil, Bool.and_true]
  unfold dupB
  rw [e]
theorem setOk_no (n : Nat) (l : List Int) (k : Nat) (x : Int) (hk : k < l.length) (hc : l[k] = x) (h : ((decide (0 ≤ x) && decide (x < n)) && !decide (firstI l x < k)) = false) : setOk n l = false := by
  have : setTo n l (k + 1) = false := by rw [setTo_succ n l k x hk hc, h, Bool.and_false]
  have : setTo n l l.length = false := by
    unfold setTo at *
    rw [List.all_eq_false] at *
    obtain ⟨x, hx, hp⟩ := this
    exact ⟨x, by rw [List.mem_range] at *; omega, hp⟩
  unfold setOk
  rw [this, Bool.and_false, Bool.and_false]

theorem held_drewN {B : Nat} {w W : World} (h : Below B w W) {n : Nat} : Below B w (W.drewN n) := ⟨h.os, h.tape, h.output, h.size, h.block⟩
set_option maxRecDepth 100000 in
set_option maxHeartbeats 4000000 in
theorem rset_any (ol : Option Addr) (cl : Nat) (l : List Int) (n : Nat) (w : World) (hl : l.length ≤ 1000) (hi : IntsIn w ol l) :
    Calls Tryz.prog 37 #[.slice ol l.length cl, .int .i64 n] w fun e w' => e = .returned (.bool (setOk n l)) ∧ Below w.heap.size w w' := by
  have HI := Lib.hid hi
  clear hi
  go_enter Tryz.func37, Tryz.ntmps37
  go_wp2
  go_loopw [5] (fun i wr => ∃ k : Nat, k ≤ l.length ∧ k ≤ 5 ∧ i = .int .i64 k ∧ Hid (setTo n l k = true) ∧ Hid (Below w.heap.size w wr)) (fun i _ => l.length - (intOf i).toNat)
  case atStart => exact ⟨0, Nat.zero_le _, by omega, rfl, Lib.hid rfl, Lib.hid (Below.refl _ _)⟩
  case round =>
    obtain ⟨k, hk, hk5, rfl, HK, HB⟩ := hrel
    by_cases hlt : k < l.length
    · by_cases h5 : k < 5
      · obtain ⟨x, hx⟩ : ∃ x, l[k] = x := ⟨_, rfl⟩
        obtain ⟨a, rfl, hat⟩ := HI.out.keep HB.out (Nat.le_refl _) k hlt
        rw [hx] at hat
        by_cases h0 : 0 ≤ x
        · by_cases h1 : x < n
          · have HX := Lib.hid hx
            clear hx
            go_wp2
            obtain ⟨wo, rfl⟩ : ∃ wo : World, wo = wr := ⟨_, rfl⟩
            go_loopw [6] (fun j wi => ∃ q : Nat, q ≤ k ∧ j = .int .i64 q ∧ Hid (FRelI l x q) ∧ Hid (Below w.heap.size w wi)) (fun j _ => k - (intOf j).toNat)
            case atStart => exact ⟨0, Nat.zero_le _, rfl, Lib.hid (FRelI.zero _ _), HB⟩
            case round =>
              clear hat
              obtain ⟨q, hq, rfl, HQ, HBI⟩ := hrel
              by_cases hqk : q < k
              · obtain ⟨y, hy⟩ : ∃ y, l[q] = y := ⟨_, rfl⟩
                have hat : wr.cell? (a.add k) = some (.int .i64 x) := by
                  obtain ⟨a1, e1, h1⟩ := HI.out.keep HBI.out (Nat.le_refl _) k hlt
                  cases e1
                  rw [HX.out] at h1
                  exact h1
                have hatq : wr.cell? (a.add q) = some (.int .i64 y) := by
                  obtain ⟨a1, e1, h1⟩ := HI.out.keep HBI.out (Nat.le_refl _) q (by omega)
                  cases e1
                  rw [hy] at h1
                  exact h1
                have b0 : (0 : Int) ≤ (q : Int) := by omega
                have b1 : (q : Int) < (l.length : Int) := by omega
                have b2 : (0 : Int) ≤ (k : Int) := by omega
                have b3 : (k : Int) < (l.length : Int) := by omega
                by_cases hxy : x = y
                · have HN := Lib.hid (setOk_no n l k x hlt HX.out (by rw [HQ.out.hit (by omega) hy hxy]; simp; omega))
                  have e1 : (y == x) = true := by simpa using hxy.symm
                  clear hy hxy
                  go_wp2
                  go_quiet (fail)
                  go_wp2
                  go_ret
                  exact ⟨by rw [HN.out]; rfl, held_drewN HBI.out⟩
                · have HN := Lib.hid (HQ.out.next (by omega) hy hxy)
                  have e1 : (y == x) = false := by rw [beq_eq_false_iff_ne]; exact fun h => hxy h.symm
                  clear hy hxy
                  go_wp2
                  go_quiet (fail)
                  go_wp2
                  go_roundw
                  case rel => exact ⟨q + 1, by omega, by go_num, HN, Lib.hid (held_drewN HBI.out)⟩
                  case measure => simp [intOf]; omega
              · obtain rfl : q = k := by omega
                have HN := Lib.hid (show setTo n l (q + 1) = true by rw [setTo_succ n l q x hlt HX.out, HK.out, HQ.out.hit hlt HX.out rfl]; simp [h0, h1])
                go_wp2
                go_roundw
                case rel => exact ⟨q + 1, by omega, by omega, by go_num, HN, HBI⟩
                case measure => simp [intOf]; omega
          · have HN := Lib.hid (setOk_no n l k x hlt hx (by rw [show decide (x < (n : Int)) = false by simp; omega]; simp))
            clear hx
            go_wp2
            go_ret
            exact ⟨by rw [HN.out]; rfl, HB.out⟩
        · have HN := Lib.hid (setOk_no n l k x hlt hx (by rw [show decide (0 ≤ x) = false by simp; omega]; simp))
          clear hx
          go_wp2
          go_ret
          exact ⟨by rw [HN.out]; rfl, HB.out⟩
      · have HN := Lib.hid (show setOk n l = false by unfold setOk; rw [show decide (l.length ≤ 4) = false by simp; omega]; simp)
        have hd : decide ((l.length : Int) ≤ 4) = false := by rw [decide_eq_false_iff_not]; omega
        go_wp2
        go_ret
        exact ⟨by rw [HN.out]; rfl, HB.out⟩
    · obtain rfl : k = l.length := by omega
      by_cases h1 : 1 ≤ l.length
      · by_cases h4 : l.length ≤ 4
        · have HN := Lib.hid (show setOk n l = true by unfold setOk; rw [HK.out]; simp [h1, h4])
          have hd : decide ((l.length : Int) ≤ 4) = true := by rw [decide_eq_true_eq]; omega
          go_wp2
          go_ret
          exact ⟨by rw [HN.out]; rfl, HB.out⟩
        · have HN := Lib.hid (show setOk n l = false by unfold setOk; rw [show decide (l.length ≤ 4) = false by simp; omega]; simp)
          have hd : decide ((l.length : Int) ≤ 4) = false := by rw [decide_eq_false_iff_not]; omega
          go_wp2
          go_ret
          exact ⟨by rw [HN.out]; rfl, HB.out⟩
      · have HN := Lib.hid (show setOk n l = false by unfold setOk; rw [show decide (1 ≤ l.length) = false by rw [decide_eq_false_iff_not]; exact h1]; simp)
        go_wp2
        go_ret
        exact ⟨by rw [HN.out]; rfl, HB.out⟩

def uqsTo (S : Sch) (k : Nat) : Bool := (List.range k).all fun i => setOk S.cols.length (S.uqs.getD i [])
theorem uqsTo_succ (S : Sch) (k : Nat) (l : List Int) (hk : k < S.uqs.length) (hc : S.uqs[k] = l) : uqsTo S (k + 1) = (uqsTo S k && setOk S.cols.length l) := by
  unfold uqsTo
  rw [List.range_succ, List.all_append]
  have e : S.uqs.getD k [] = l := by rw [List.getD_eq_getElem?_getD, List.getElem?_eq_getElem hk, hc]; rfl
  simp only [List.all_cons, List.all_nil, Bool.and_true]
  rw [e]
theorem uqsTo_no (S : Sch) (k : Nat) (l : List Int) (hk : k < S.uqs.length) (hc : S.uqs[k] = l) (h : setOk S.cols.length l = false) : uqsTo S S.uqs.length = false := by
  have : uqsTo S (k + 1) = false := by rw [uqsTo_succ S k l hk hc, h, Bool.and_false]
  unfold uqsTo at *
  rw [List.all_eq_false] at *
  obtain ⟨x, hx, hp⟩ := this
  exact ⟨x, by rw [List.mem_range] at *; omega, hp⟩
theorem setsTo_eq (S : Sch) : ∀ m, setsTo S (1 + m) = ((setOk S.cols.length S.key && nullTo S.cols S.key S.key.length) && uqsTo S m)
  | 0 => by
    rw [show 1 + 0 = 0 + 1 from rfl, setsTo_succ]
    show (true && okSet S.cols true S.key) = _
    rw [okSet_eq]
    simp [uqsTo]
  | m + 1 => by
    rw [show 1 + (m + 1) = (1 + m) + 1 from rfl, setsTo_succ, setsTo_eq S m]
    have e : uqsTo S (m + 1) = (uqsTo S m && setOk S.cols.length (S.uqs.getD m [])) := by
      unfold uqsTo
      rw [List.range_succ, List.all_append]
      simp
    rw [e, okSet_eq, show ((1 + m == 0) = false) by simp, show setAt S (1 + m) = S.uqs.getD m [] by unfold setAt; rw [if_neg (by omega), show 1 + m - 1 = m by omega]]
    simp [Bool.and_assoc]
def lensOk (S : Sch) : Bool := decide (1 ≤ S.cols.length) && (decide (S.cols.length ≤ 8) && decide (S.uqs.length ≤ 3))
theorem schOk_eq (S : Sch) : schOk S = (lensOk S && (colsTo S.cols S.cols.length && ((setOk S.cols.length S.key && nullTo S.cols S.key S.key.length) && uqsTo S S.uqs.length))) := by
  unfold schOk lensOk
  rw [setsTo_eq]
theorem nullTo_succ (cols : List Col) (l : List Int) (k : Nat) (x : Int) (c : Col) (hk : k < l.length) (hx : l[k] = x) (hc : cols.getD x.toNat col0 = c) : nullTo cols l (k + 1) = (nullTo cols l k && !c.u) := by
  unfold nullTo
  rw [List.range_succ, List.all_append]
  have e : l.getD k 0 = x := by rw [List.getD_eq_getElem?_getD, List.getElem?_eq_getElem hk, hx]; rfl
  simp only [List.all_cons, List.all_nil, Bool.and_true]
  unfold nullAt
  rw [e, hc]
theorem nullTo_no (cols : List Col) (l : List Int) (k : Nat) (x : Int) (c : Col) (hk : k < l.length) (hx : l[k] = x) (hc : cols.getD x.toNat col0 = c) (h : c.u = true) : nullTo cols l l.length = false := by
  have : nullTo cols l (k + 1) = false := by rw [nullTo_succ cols l k x c hk hx hc, h]; simp
  unfold nullTo at *
  rw [List.all_eq_false] at *
  obtain ⟨x, hx, hp⟩ := this
  exact ⟨x, by rw [List.mem_range] at *; omega, hp⟩
theorem setOk_range {n : Nat} {l : List Int} (h : setOk n l = true) {k : Nat} (hk : k < l.length) : 0 ≤ l[k] ∧ l[k] < n := by
  unfold setOk setTo at h
  simp only [Bool.and_eq_true, List.all_eq_true, List.mem_range] at h
  have := (h.2.2 k hk).1
  rw [List.getD_eq_getElem?_getD, List.getElem?_eq_getElem hk] at this
  simpa using this

set_option maxRecDepth 100000 in
set_option maxHeartbeats 8000000 in
theorem rRight_any (p : SchV) (S : Sch) (w : World) (hnm : ∀ c ∈ S.cols, c.n.size ≤ 9223372036854775807) (hcl : S.cols.length ≤ 1000) (hul : S.uqs.length ≤ 1000) (hkl : S.key.length ≤ 1000) (hpl : ∀ l ∈ S.uqs, l.length ≤ 1000) (hS : SchIn w p S) :
    Calls Tryz.prog 19 #[.agg #[.slice p.oc S.cols.length p.cc, .slice p.ok S.key.length p.ck, .slice p.ou S.uqs.length p.cu]] w fun e w' => e = .returned (.bool (schOk S)) ∧ Below w.heap.size w w' := by
  have HOK := Lib.hid (schOk_eq S)
  have HNM := Lib.hid hnm
  have HPL := Lib.hid hpl
  have HC := Lib.hid hS.cols
  have HK := Lib.hid hS.key
  have HU := Lib.hid hS.uqs
  clear hnm hpl hS
  obtain ⟨oc, cc, ok, ck, ou, cu⟩ := p
  obtain ⟨cols, key, uqs⟩ := S
  simp only at *
  have HRK : Hid (∀ W', Below w.heap.size w W' → Calls Tryz.prog 37 #[.slice ok key.length ck, .int .i64 cols.length] W' fun e w' => e = .returned (.bool (setOk cols.length key)) ∧ Below W'.heap.size W' w') := Lib.hid (fun W' hb => rset_any ok ck key cols.length W' hkl (HK.out.keep hb (Nat.le_refl _)))
  by_cases hl : 1 ≤ cols.length ∧ cols.length ≤ 8 ∧ uqs.length ≤ 3
  · obtain ⟨l1, l2, l3⟩ := hl
    have HLN := Lib.hid (show lensOk ⟨cols, key, uqs⟩ = true by unfold lensOk; simp [l1, l2, l3])
    cases hks : setOk cols.length key
    · have HN := Lib.hid (show schOk ⟨cols, key, uqs⟩ = false by rw [HOK.out, hks]; simp)
      have HQ := Lib.hid hks
      clear hks
      go_enter Tryz.func19, Tryz.ntmps19
      go_wp2_with (first | (go_at_call 37; refine (HRK.out _ ((Below.refl _ _).alloc (Nat.le_refl _) _)).mono ?_; rintro e w3 ⟨he, hb3⟩; rw [HQ.out] at he; subst he))
      go_ret
      exact ⟨by rw [HN.out]; rfl, ((Below.refl _ _).alloc (Nat.le_refl _) _).trans (hb3.mono (by simp))⟩
    · have HQ := Lib.hid hks
      have HOK2 := Lib.hid (show schOk ⟨cols, key, uqs⟩ = (colsTo cols cols.length && (nullTo cols key key.length && uqsTo ⟨cols, key, uqs⟩ uqs.length)) by rw [HOK.out, HLN.out, hks]; rfl)
      clear hks
      go_enter Tryz.func19, Tryz.ntmps19
      go_wp2_with fail
      obtain ⟨W1, hW1⟩ : ∃ W1, w.alloc (.cells #[.slice oc cols.length cc, .slice ok key.length ck, .slice ou uqs.length cu] 26) = W1 := ⟨_, rfl⟩
      have hb1 : Below w.heap.size w W1 := by rw [← hW1]; exact (Below.refl _ _).alloc (Nat.le_refl _) _
      have hs1 : w.heap.size < W1.heap.size := by rw [← hW1]; simp
      have k0 : W1.cell? ⟨w.heap.size, 0, none⟩ = some (.slice oc cols.length cc) := by rw [← hW1]; simp [go_sem]
      have k1 : W1.cell? ⟨w.heap.size, 1, none⟩ = some (.slice ok key.length ck) := by rw [← hW1]; simp [go_sem]
      have k2 : W1.cell? ⟨w.heap.size, 2, none⟩ = some (.slice ou uqs.length cu) := by rw [← hW1]; simp [go_sem]
      rw [hW1]
      have HB1 := Lib.hid hb1
      clear hW1 hb1
      refine (HRK.out _ HB1.out).mono ?_
      rintro e w2 ⟨he, hb2⟩
      rw [HQ.out] at he
      subst he
      have HB2 := Lib.hid hb2
      have hs2 := hb2.size
      have n0 : w2.cell? ⟨w.heap.size, 0, none⟩ = some (.slice oc cols.length cc) := cell_old k0 hb2
      have n1 : w2.cell? ⟨w.heap.size, 1, none⟩ = some (.slice ok key.length ck) := cell_old k1 hb2
      have n2 : w2.cell? ⟨w.heap.size, 2, none⟩ = some (.slice ou uqs.length cu) := cell_old k2 hb2
      clear hb2
      have HX0 : Hid (∀ W', Below W1.heap.size W1 W' → W'.cell? ⟨w.heap.size, 0, none⟩ = some (.slice oc cols.length cc) ∧ W'.cell? ⟨w.heap.size, 1, none⟩ = some (.slice ok key.length ck) ∧ W'.cell? ⟨w.heap.size, 2, none⟩ = some (.slice ou uqs.length cu) ∧ w.heap.size < W'.heap.size) := Lib.hid (fun W' hb => ⟨cell_old k0 hb, cell_old k1 hb, cell_old k2 hb, by have := hb.size; omega⟩)
      clear k0 k1 k2
      go_wp2_with fail
      go_loopw [4] (fun i wr => ∃ k : Nat, k ≤ cols.length ∧ i = .int .i64 k ∧ Hid (colsTo cols k = true) ∧ Hid (Below W1.heap.size W1 wr)) (fun i _ => cols.length - (intOf i).toNat)
      case atStart => exact ⟨0, Nat.zero_le _, rfl, Lib.hid rfl, HB2⟩
      case round =>
        clear n0 n1 n2 hs2
        obtain ⟨k, hk, rfl, HCT, HB⟩ := hrel
        obtain ⟨m0, m1, m2, m3⟩ := HX0.out wr HB.out
        have HBW := Lib.hid (HB1.out.trans (HB.out.mono HB1.out.size))
        by_cases hlt : k < cols.length
        · obtain ⟨a, rfl, hat⟩ := HC.out.keep HBW.out (Nat.le_refl _) k hlt
          obtain ⟨c, hc⟩ : ∃ c, cols[k] = c := ⟨_, rfl⟩
          rw [hc] at hat
          have hal := hat.lt
          obtain ⟨q0, q1, q2, q3⟩ := hat
          have HRC := Lib.hid (rcolumn_any c wr (HNM.out c (hc ▸ List.getElem_mem hlt)))
          have HCC := Lib.hid hc
          cases hok : colOk c
          · have HN := Lib.hid (show schOk ⟨cols, key, uqs⟩ = false by rw [HOK2.out, colsTo_no cols k c hlt hc (by rw [hok]; rfl)]; rfl)
            have HO := Lib.hid hok
            clear hok hc
            go_wp2_with (first | (go_at_call 38; refine HRC.out.mono ?_; rintro e w3 ⟨he, hb3⟩; rw [HO.out] at he; subst he))
            go_ret
            exact ⟨by rw [HN.out]; rfl, HBW.out.trans (hb3.mono HBW.out.size)⟩
          · have HO := Lib.hid hok
            clear hok hc
            go_wp2_with fail
            refine HRC.out.mono ?_
            rintro e w3 ⟨he, hb3⟩
            rw [HO.out] at he
            subst he
            have HB3 := Lib.hid (HB.out.trans (hb3.mono HB.out.size))
            clear hb3 HRC
            go_wp2_with fail
            clear m0 m1 m2 m3 q0 q1 q2 q3 hal
            go_loopw [5] (fun j wi => ∃ q : Nat, q ≤ k ∧ j = .int .i64 q ∧ Hid (FRel cols c.n q) ∧ Hid (Below W1.heap.size W1 wi)) (fun j _ => k - (intOf j).toNat)
            case atStart => exact ⟨0, Nat.zero_le _, rfl, Lib.hid (FRel.zero _ _), HB3⟩
            case round =>
              obtain ⟨q, hq, rfl, HFR, HBI⟩ := hrel
              obtain ⟨m0, m1, m2, m3⟩ := HX0.out _ HBI.out
              have HBX := Lib.hid (HB1.out.trans (HBI.out.mono HB1.out.size))
              by_cases hqk : q < k
              · obtain ⟨cq, hcq⟩ : ∃ cq, cols[q] = cq := ⟨_, rfl⟩
                obtain ⟨a1, e1, hat1⟩ := HC.out.keep HBX.out (Nat.le_refl _) k hlt
                obtain ⟨a2, e2, hat2⟩ := HC.out.keep HBX.out (Nat.le_refl _) q (by omega)
                cases e1
                cases e2
                rw [HCC.out] at hat1
                rw [hcq] at hat2
                have hal1 := hat1.lt
                have hal2 := hat2.lt
                have r1 := hat1.1
                have r2 := hat2.1
                have b0 : (0 : Int) ≤ (q : Int) := by omega
                have b1 : (q : Int) < (cols.length : Int) := by omega
                have b2 : (0 : Int) ≤ (k : Int) := by omega
                have b3 : (k : Int) < (cols.length : Int) := by omega
                clear hat1 hat2
                cases hn : isN c.n cq
                · have HN := Lib.hid (HFR.out.next (by omega) hcq hn)
                  have e1 : (cq.n.toList == c.n.toList) = false := hn
                  clear hn hcq
                  go_wp2
                  go_quiet (fail)
                  go_wp2
                  go_roundw
                  case rel => exact ⟨q + 1, by omega, by go_num, HN, Lib.hid (held_drewN HBI.out)⟩
                  case measure => simp [intOf]; omega
                · have HN := Lib.hid (show schOk ⟨cols, key, uqs⟩ = false by rw [HOK2.out, colsTo_no cols k c hlt HCC.out (by rw [HFR.out.hit (by omega) hcq hn, HO.out]; simp; omega)]; rfl)
                  have e1 : (cq.n.toList == c.n.toList) = true := hn
                  clear hn hcq
                  go_wp2
                  go_quiet (fail)
                  go_wp2
                  go_ret
                  exact ⟨by rw [HN.out]; rfl, held_drewN HBX.out⟩
              · obtain rfl : q = k := by omega
                have HN := Lib.hid (show colsTo cols (q + 1) = true by rw [colsTo_succ cols q c hlt HCC.out, HCT.out, HO.out, HFR.out.hit hlt HCC.out (by unfold isN; simp)]; simp)
                go_wp2
                go_roundw
                case rel => exact ⟨q + 1, by omega, by go_num, HN, HBI⟩
                case measure => simp [intOf]; omega
        · obtain rfl : k = cols.length := by omega
          have HOK3 := Lib.hid (show schOk ⟨cols, key, uqs⟩ = (nullTo cols key key.length && uqsTo ⟨cols, key, uqs⟩ uqs.length) by rw [HOK2.out, HCT.out]; rfl)
          go_wp2_with fail
          clear m0 m1 m2 m3
          go_loopw [6] (fun j wi => ∃ q : Nat, q ≤ key.length ∧ j = .int .i64 q ∧ Hid (nullTo cols key q = true) ∧ Hid (Below W1.heap.size W1 wi)) (fun j _ => key.length - (intOf j).toNat)
          case atStart => exact ⟨0, Nat.zero_le _, rfl, Lib.hid rfl, HB⟩
          case round =>
            obtain ⟨q, hq, rfl, HNT, HBI⟩ := hrel
            obtain ⟨m0, m1, m2, m3⟩ := HX0.out _ HBI.out
            have HBX := Lib.hid (HB1.out.trans (HBI.out.mono HB1.out.size))
            by_cases hqk : q < key.length
            · obtain ⟨x, hx⟩ : ∃ x, key[q] = x := ⟨_, rfl⟩
              have hrg := setOk_range HQ.out hqk
              rw [hx] at hrg
              obtain ⟨g0, g1⟩ := hrg
              obtain ⟨m, rfl⟩ := Int.eq_ofNat_of_zero_le g0
              have hm : m < cols.length := by omega
              obtain ⟨c, hc⟩ : ∃ c, cols[m] = c := ⟨_, rfl⟩
              have hcd : cols.getD (Int.toNat (m : Int)) col0 = c := by rw [Int.toNat_natCast, List.getD_eq_getElem?_getD, List.getElem?_eq_getElem hm, hc]; rfl
              obtain ⟨a1, rfl, hat1⟩ := HC.out.keep HBX.out (Nat.le_refl _) m hm
              obtain ⟨a2, rfl, hat2⟩ := HK.out.keep HBX.out (Nat.le_refl _) q hqk
              rw [hc] at hat1
              rw [hx] at hat2
              have hal1 := hat1.lt
              have hal2 := World.block_lt_of_cell? _ _ hat2
              have r1 := hat1.2.2.2
              have b0 : (0 : Int) ≤ (q : Int) := by omega
              have b1 : (q : Int) < (key.length : Int) := by omega
              clear hat1
              cases hu : c.u
              · have HN := Lib.hid (show nullTo cols key (q + 1) = true by rw [nullTo_succ cols key q m c hqk hx hcd, HNT.out, hu]; rfl)
                rw [hu] at r1
                clear hx hc hcd
                go_wp2
                go_quiet (fail)
                go_wp2
                go_roundw
                case rel => exact ⟨q + 1, by omega, by go_num, HN, Lib.hid (held_drewN HBI.out)⟩
                case measure => simp [intOf]; omega
              · have HN := Lib.hid (show schOk ⟨cols, key, uqs⟩ = false by rw [HOK3.out, nullTo_no cols key q m c hqk hx hcd hu]; rfl)
                rw [hu] at r1
                clear hx hc hcd
                go_wp2
                go_quiet (fail)
                go_wp2
                go_ret
                exact ⟨by rw [HN.out]; rfl, held_drewN HBX.out⟩
            · obtain rfl : q = key.length := by omega
              have HOK4 := Lib.hid (show schOk ⟨cols, key, uqs⟩ = uqsTo ⟨cols, key, uqs⟩ uqs.length by rw [HOK3.out, HNT.out]; rfl)
              go_wp2_with fail
              clear m0 m1 m2 m3
              go_loopw [7] (fun j wi => ∃ q : Nat, q ≤ uqs.length ∧ j = .int .i64 q ∧ Hid (uqsTo ⟨cols, key, uqs⟩ q = true) ∧ Hid (Below W1.heap.size W1 wi)) (fun j _ => uqs.length - (intOf j).toNat)
              case atStart => exact ⟨0, Nat.zero_le _, rfl, Lib.hid rfl, HBI⟩
              case round =>
                obtain ⟨u, hu, rfl, HUT, HBU⟩ := hrel
                obtain ⟨m0, m1, m2, m3⟩ := HX0.out _ HBU.out
                have HBY := Lib.hid (HB1.out.trans (HBU.out.mono HB1.out.size))
                by_cases huk : u < uqs.length
                · obtain ⟨l, hul2⟩ : ∃ l, uqs[u] = l := ⟨_, rfl⟩
                  obtain ⟨a1, ob, cb, rfl, hat1, _, hil⟩ := HU.out.keep HBY.out (Nat.le_refl _) u huk
                  rw [hul2] at hat1 hil
                  have hal1 := World.block_lt_of_cell? _ _ hat1
                  have HRS := Lib.hid (rset_any ob cb l cols.length _ (HPL.out l (hul2 ▸ List.getElem_mem huk)) hil)
                  clear hil
                  cases hsl : setOk cols.length l
                  · have HN := Lib.hid (show schOk ⟨cols, key, uqs⟩ = false by rw [HOK4.out]; exact uqsTo_no ⟨cols, key, uqs⟩ u l huk hul2 hsl)
                    have HSL := Lib.hid hsl
                    clear hsl hul2
                    go_wp2_with (first | (go_at_call 37; refine HRS.out.mono ?_; rintro e w3 ⟨he, hb3⟩; rw [HSL.out] at he; subst he))
                    go_ret
                    exact ⟨by rw [HN.out]; rfl, HBY.out.trans (hb3.mono HBY.out.size)⟩
                  · have HN := Lib.hid (show uqsTo ⟨cols, key, uqs⟩ (u + 1) = true by rw [uqsTo_succ ⟨cols, key, uqs⟩ u l huk hul2, HUT.out]; exact hsl)
                    have HSL := Lib.hid hsl
                    clear hsl hul2
                    go_wp2_with (first | (go_at_call 37; refine HRS.out.mono ?_; rintro e w3 ⟨he, hb3⟩; rw [HSL.out] at he; subst he))
                    have HB9 := Lib.hid (HBU.out.trans (hb3.mono HBU.out.size))
                    clear hb3
                    go_roundw
                    case rel => exact ⟨u + 1, by omega, by go_num, HN, HB9⟩
                    case measure => simp [intOf]; omega
                · obtain rfl : u = uqs.length := by omega
                  have HN := Lib.hid (HOK4.out.trans HUT.out)
                  go_wp2_with fail
                  go_ret
                  exact ⟨by rw [HN.out]; rfl, HBY.out⟩
  · have HN := Lib.hid (show schOk ⟨cols, key, uqs⟩ = false by
      rw [HOK.out, show lensOk ⟨cols, key, uqs⟩ = false by
        rw [Bool.eq_false_iff]; intro h; apply hl; unfold lensOk at h; simpa [and_assoc] using h]
      rfl)
    have hdis : cols.length < 1 ∨ 8 < cols.length ∨ 3 < uqs.length := by omega
    clear hl
    go_enter Tryz.func19, Tryz.ntmps19
    go_wp2_with fail
    all_goals first
      | (exfalso; omega)
      | (go_ret; exact ⟨by rw [HN.out]; rfl, by go_grown⟩)
end Go.Proofs.YtocmjlnhcloccaaGreatDoor
