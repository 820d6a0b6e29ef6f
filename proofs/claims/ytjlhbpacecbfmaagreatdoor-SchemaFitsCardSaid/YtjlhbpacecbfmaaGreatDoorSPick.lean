/-
  schema.pick at values and at columns: things at places.
-/
import Derived.Test.YtjlhbpacecbfmaaGreatDoorSMem
import Derived.Deep.OwnRows
namespace Go.Proofs.YtjlhbpacecbfmaaGreatDoor
open Go.RowKit

/-- are all places there? -/
def inAll (n : Nat) (l : List Int) : Bool := l.all fun x => decide (0 ≤ x) && decide (x < n)
theorem inAll_at {n : Nat} {l : List Int} (h : inAll n l = true) {k : Nat} (hk : k < l.length) : 0 ≤ l[k] ∧ l[k] < n := by
  unfold inAll at h
  rw [List.all_eq_true] at h
  simpa using h _ (List.getElem_mem hk)
theorem inAll_no {n : Nat} {l : List Int} {k : Nat} (hk : k < l.length) (h : l[k] < 0 ∨ (n : Int) ≤ l[k]) : inAll n l = false := by
  unfold inAll
  rw [List.all_eq_false]
  refine ⟨_, List.getElem_mem hk, ?_⟩
  simp
  omega
def pickL {α : Type} (d : α) (l : List α) (at' : List Int) : List α := at'.map fun x => l.getD x.toNat d
def rowOf {α : Type} (cell : α → Nat → Value) (z : Nat → Value) (d : α) (l : List α) (k j : Nat) : Value := if j < k * 4 then cell (l.getD (j / 4) d) (j % 4) else z (j % 4)
theorem rowOf_next {α : Type} {cell : α → Nat → Value} {z : Nat → Value} {d : α} {l : List α} {k : Nat} (j : Nat) (v0 v1 v2 v3 : Value) (h0 : v0 = cell (l.getD k d) 0) (h1 : v1 = cell (l.getD k d) 1) (h2 : v2 = cell (l.getD k d) 2) (h3 : v3 = cell (l.getD k d) 3) :
    (if j = k * 4 + 3 then v3 else if j = k * 4 + 2 then v2 else if j = k * 4 + 1 then v1 else if j = k * 4 then v0 else rowOf cell z d l k j) = rowOf cell z d l (k + 1) j := by
  unfold rowOf
  by_cases e3 : j = k * 4 + 3
  · subst e3
    rw [if_pos rfl, if_pos (by omega), show (k * 4 + 3) / 4 = k by omega, show (k * 4 + 3) % 4 = 3 by omega, h3]
  rw [if_neg e3]
  by_cases e2 : j = k * 4 + 2
  · subst e2
    rw [if_pos rfl, if_pos (by omega), show (k * 4 + 2) / 4 = k by omega, show (k * 4 + 2) % 4 = 2 by omega, h2]
  rw [if_neg e2]
  by_cases e1 : j = k * 4 + 1
  · subst e1
    rw [if_pos rfl, if_pos (by omega), show (k * 4 + 1) / 4 = k by omega, show (k * 4 + 1) % 4 = 1 by omega, h1]
  rw [if_neg e1]
  by_cases e0 : j = k * 4
  · subst e0
    rw [if_pos rfl, if_pos (by omega), show (k * 4) / 4 = k by omega, show (k * 4) % 4 = 0 by omega, h0]
  rw [if_neg e0]
  by_cases h : j < k * 4
  · rw [if_pos h, if_pos (by omega)]
  · rw [if_neg h, if_neg (by omega)]
theorem run_make4 {P : Program} (t e : TypeId) (z : Value) (bytes : Nat) (ht : P.underlying t = some (.slice e)) (hinfo : (P.info? e).map (fun i => (i.zero, i.size, i.bytes)) = some (some z, 4, bytes)) (n : Nat) (hbytes : bytes * n ≤ 281474976710656) (h63 : n ≤ 9223372036854775807) (w : World) :
    (Instr.makeSlice t (.int .i64 (n : Int)) (.int .i64 (n : Int))).run P w = .ok (.slice (some ⟨w.heap.size, 0, none⟩) n n) (w.alloc (.cells (madeCells z.cells (n * 4)) e)) := by
  obtain ⟨i, hi, hzz⟩ := Option.map_eq_some_iff.1 hinfo
  simp only [Prod.mk.injEq] at hzz
  obtain ⟨hz, hs, hb⟩ := hzz
  have hb' : (i.bytes : Int) * (n : Int) ≤ 281474976710656 := by
    have h : ((i.bytes * n : Nat) : Int) ≤ 281474976710656 := by rw [hb]; omega
    rwa [Int.natCast_mul] at h
  have hr := run_make (P := P) w t e i z ht hi hz .i64 .i64 n n (by omega) (Int.le_refl _) hb' (by omega)
  simp only [Int.toNat_natCast, hs] at hr
  exact hr
theorem rowIs_made4 (w : World) (z : Array Value) (hz : z.size = 4) (n : Nat) (t : TypeId) : (w.alloc (.cells (madeCells z (n * 4)) t)).rowIs w.heap.size t (n * 4) (fun j => z[j % 4]!) := by
  have h := World.rowIs_alloc w (madeCells z (n * 4)) t (fun j => z[j % 4]!) (fun i hi => by simp [madeCells] at hi ⊢; simp [hi, hz])
  rwa [size_madeCells] at h

def col0 : Col := ⟨⟨#[]⟩, 0, 0, false⟩
def colCell (c : Col) : Nat → Value
  | 0 => .string c.n
  | 1 => .int .i64 c.t
  | 2 => .int .i64 c.z
  | _ => .bool c.u
def val0 : Vl := ⟨0, 0, 0, ⟨#[]⟩⟩
def valCell (v : Vl) : Nat → Value
  | 0 => .int .i64 v.k
  | 1 => .int .i64 v.i
  | 2 => .int .u64 v.u
  | _ => .string v.s
def ValsIn (w : World) (oa : Option Addr) (l : List Vl) : Prop := ∀ (j : Nat) (h : j < l.length), ∃ a, oa = some a ∧ ValAt w (a.add (j * 4)) l[j]
theorem ValsIn.keep {w w' : World} {B : Nat} {oa : Option Addr} {l : List Vl} (h : ValsIn w oa l) (hb : Below B w w') (hB : w.heap.size ≤ B) : ValsIn w' oa l := fun j hj => by
  obtain ⟨a, e, hc⟩ := h j hj
  exact ⟨a, e, hc.keep hb hB⟩
theorem add4 (b j : Nat) : (⟨b, 0, none⟩ : Addr).add (j * 4) = ⟨b, j * 4, none⟩ := by
  unfold Addr.add
  split
  · rename_i h; rw [h]
  · simp

theorem infoC : (Tryz.prog.info? 43).map (fun i => (i.zero, i.size, i.bytes)) = some (some (.agg #[.string ⟨#[]⟩, .int .i64 0, .int .i64 0, .bool false]), 4, 40) := by kernel_rfl
theorem rowC {w : World} {b : Nat} {l : List Col} (h : w.rowIs b 43 (l.length * 4) (rowOf colCell (fun j => (#[.string ⟨#[]⟩, .int .i64 0, .int .i64 0, .bool false] : Array Value)[j]!) col0 l l.length)) : ColsIn w (some ⟨b, 0, none⟩) l := fun j hj => by
  have q : ∀ i, i < 4 → w.cell? ⟨b, j * 4 + i, none⟩ = some (colCell l[j] i) := fun i hi => by
    have h1 := h.cell (i := j * 4 + i) (by omega)
    unfold rowOf at h1
    rw [if_pos (by omega), show (j * 4 + i) / 4 = j by omega, show (j * 4 + i) % 4 = i by omega, List.getD_eq_getElem?_getD, List.getElem?_eq_getElem hj] at h1
    exact h1
  refine ⟨_, rfl, ?_⟩
  rw [add4]
  exact ⟨q 0 (by omega), q 1 (by omega), q 2 (by omega), q 3 (by omega)⟩

set_option maxRecDepth 100000 in
set_option maxHeartbeats 2000000 in
theorem pickC_any (oc : Option Addr) (cc : Nat) (l : List Col) (ol : Option Addr) (cl : Nat) (pl : List Int) (w : World) (_hl : l.length ≤ 1000) (hp : pl.length ≤ 1000) (hc : ColsIn w oc l) (hi : IntsIn w ol pl) :
    Calls Tryz.prog 78 #[.slice oc l.length cc, .slice ol pl.length cl] w fun e w' =>
      (inAll l.length pl = true ∧ (∃ b, e = .returned (.tuple #[.slice (some ⟨b, 0, none⟩) pl.length pl.length, .nilIface]) ∧ ColsIn w' (some ⟨b, 0, none⟩) (pickL col0 l pl)) ∧ Below w.heap.size w w') ∨
      (inAll l.length pl = false ∧ (∃ b, e = .returned (.tuple #[.slice none 0 0, .iface 132 (.pointer (some ⟨b, 0, none⟩))]) ∧ w.heap.size ≤ b ∧ w'.cell? ⟨b, 1, none⟩ = some (.int .i64 4)) ∧ Below w.heap.size w w') := by
  have hmk : ∀ W, (Instr.makeSlice 22 (.int .i64 (pl.length : Int)) (.int .i64 (pl.length : Int))).run Tryz.prog W = .ok (.slice (some ⟨W.heap.size, 0, none⟩) pl.length pl.length) (W.alloc (.cells (madeCells #[.string ⟨#[]⟩, .int .i64 0, .int .i64 0, .bool false] (pl.length * 4)) 43)) :=
    run_make4 22 43 (.agg #[.string ⟨#[]⟩, .int .i64 0, .int .i64 0, .bool false]) 40 Tryz.underlying22 infoC pl.length (by omega) (by omega)
  have HC := Lib.hid hc
  have HI := Lib.hid hi
  clear hc hi
  go_enter Tryz.func78, Tryz.ntmps78
  go_wp2
  have hrow0 := rowIs_made4 w #[.string ⟨#[]⟩, .int .i64 0, .int .i64 0, .bool false] rfl pl.length 43
  have hb0 : Below w.heap.size w (w.alloc (.cells (madeCells #[.string ⟨#[]⟩, .int .i64 0, .int .i64 0, .bool false] (pl.length * 4)) 43)) := (Below.refl _ _).alloc (Nat.le_refl _) _
  generalize w.alloc (.cells (madeCells #[.string ⟨#[]⟩, .int .i64 0, .int .i64 0, .bool false] (pl.length * 4)) 43) = w1 at *
  go_loopw [14] (fun i wr => ∃ (k : Nat), k ≤ pl.length ∧ i = .int .i64 k ∧ Hid (∀ j (h : j < pl.length), j < k → 0 ≤ pl[j] ∧ pl[j] < l.length) ∧ wr.rowIs w.heap.size 43 (pl.length * 4) (rowOf colCell (fun j => (#[.string ⟨#[]⟩, .int .i64 0, .int .i64 0, .bool false] : Array Value)[j]!) col0 (pickL col0 l pl) k) ∧ Below w.heap.size w wr) (fun i _ => pl.length - (intOf i).toNat)
  case atStart => exact ⟨0, by omega, rfl, Lib.hid (fun j _ h => absurd h (Nat.not_lt_zero j)), hrow0.congr (fun j _ => by simp [rowOf]), hb0⟩
  case round =>
    obtain ⟨k, hk, rfl, HK, hrow, hbw⟩ := hrel
    clear hrow0 hb0 hmk
    have hgl := hrow.lt
    by_cases hkl : k < pl.length
    · obtain ⟨x, hx⟩ : ∃ v, pl[k] = v := ⟨_, rfl⟩
      obtain ⟨ai, rfl, hxc⟩ := HI.out.keep hbw (Nat.le_refl _) k hkl
      rw [hx] at hxc
      by_cases h0 : 0 ≤ x
      · by_cases h1 : x < l.length
        · obtain ⟨m, rfl⟩ := Int.eq_ofNat_of_zero_le h0
          have hm : m < l.length := by omega
          obtain ⟨c, hcc⟩ : ∃ c, l[m] = c := ⟨_, rfl⟩
          obtain ⟨ac, rfl, hat⟩ := HC.out.keep hbw (Nat.le_refl _) m hm
          rw [hcc] at hat
          have hal := hat.lt
          have hne : (ac.add (m * 4)).block < w.heap.size := by
            obtain ⟨a2, e2, hat2⟩ := HC.out m hm
            cases e2
            exact hat2.lt
          obtain ⟨c0, c1, c2, c3⟩ := hat
          have HP := Lib.hid (show (pickL col0 l pl).getD k col0 = c by unfold pickL; rw [List.getD_eq_getElem?_getD, List.getElem?_map, List.getElem?_eq_getElem hkl, hx]; simp [List.getElem?_eq_getElem hm, hcc])
          have HK2 := Lib.hid (show ∀ j (h : j < pl.length), j < k + 1 → 0 ≤ pl[j] ∧ pl[j] < l.length from fun j h hj => by
            by_cases e : j = k
            · subst e; rw [hx]; omega
            · exact HK.out j h (by omega))
          clear hx hcc HC HI
          have r0 := hrow.cell (i := k * 4) (by omega)
          have r1 := hrow.cell (i := k * 4 + 1) (by omega)
          have r2 := hrow.cell (i := k * 4 + 2) (by omega)
          have r3 := hrow.cell (i := k * 4 + 3) (by omega)
          have f0 := hrow.frozen (k * 4)
          have f1 := hrow.frozen (k * 4 + 1)
          have f2 := hrow.frozen (k * 4 + 2)
          have f3 := hrow.frozen (k * 4 + 3)
          go_wp2_with (go_at_call 68; refine (Of_any _ _ _).mono ?_; rintro e w' ⟨rfl, rfl⟩)
          go_roundw
          case rel => exact ⟨k + 1, by omega, by go_num, HK2, ((((hrow.set _ _).set _ _).set _ _).set _ _).congr (fun j _ => rowOf_next (cell := colCell) j (colCell c 0) (colCell c 1) (colCell c 2) (colCell c 3) (by rw [HP.out]) (by rw [HP.out]) (by rw [HP.out]) (by rw [HP.out])), (((hbw.setCell (Nat.le_refl _) _).setCell (Nat.le_refl _) _).setCell (Nat.le_refl _) _).setCell (Nat.le_refl _) _⟩
          case measure => simp [intOf]; omega
        · have HN := Lib.hid (inAll_no (n := l.length) hkl (by omega))
          clear hx HC HI
          go_wp2_with (go_at_call 68; refine (Of_any _ _ _).mono ?_; rintro e w' ⟨rfl, rfl⟩)
          go_ret2
          exact .inr ⟨HN.out, ⟨_, rfl, hbw.size, by simp [go_sem]⟩, hbw.alloc hbw.size _⟩
      · have HN := Lib.hid (inAll_no (n := l.length) hkl (by omega))
        clear hx HC HI
        go_wp2_with (go_at_call 68; refine (Of_any _ _ _).mono ?_; rintro e w' ⟨rfl, rfl⟩)
        go_ret2
        exact .inr ⟨HN.out, ⟨_, rfl, hbw.size, by simp [go_sem]⟩, hbw.alloc hbw.size _⟩
    · obtain rfl : k = pl.length := by omega
      have HA := Lib.hid (show inAll l.length pl = true by
        unfold inAll
        rw [List.all_eq_true]
        intro x hx
        obtain ⟨j, hj, rfl⟩ := List.getElem_of_mem hx
        have := HK.out j hj hj
        simpa using this)
      have hlen : (pickL col0 l pl).length = pl.length := by simp [pickL]
      have HR := Lib.hid (rowC (l := pickL col0 l pl) (by rw [hlen]; exact hrow))
      clear hrow hlen
      go_wp2_with (go_at_call 68; refine (Of_any _ _ _).mono ?_; rintro e w' ⟨rfl, rfl⟩)
      go_ret2
      exact .inl ⟨HA.out, ⟨_, rfl, HR.out⟩, hbw⟩

theorem infoV : (Tryz.prog.info? 47).map (fun i => (i.zero, i.size, i.bytes)) = some (some (.agg #[.int .i64 0, .int .i64 0, .int .u64 0, .string ⟨#[]⟩]), 4, 40) := by kernel_rfl
theorem rowV {w : World} {b : Nat} {l : List Vl} (h : w.rowIs b 47 (l.length * 4) (rowOf valCell (fun j => (#[.int .i64 0, .int .i64 0, .int .u64 0, .string ⟨#[]⟩] : Array Value)[j]!) val0 l l.length)) : ValsIn w (some ⟨b, 0, none⟩) l := fun j hj => by
  have q : ∀ i, i < 4 → w.cell? ⟨b, j * 4 + i, none⟩ = some (valCell l[j] i) := fun i hi => by
    have h1 := h.cell (i := j * 4 + i) (by omega)
    unfold rowOf at h1
    rw [if_pos (by omega), show (j * 4 + i) / 4 = j by omega, show (j * 4 + i) % 4 = i by omega, List.getD_eq_getElem?_getD, List.getElem?_eq_getElem hj] at h1
    exact h1
  refine ⟨_, rfl, ?_⟩
  rw [add4]
  exact ⟨q 0 (by omega), q 1 (by omega), q 2 (by omega), q 3 (by omega)⟩

set_option maxRecDepth 100000 in
set_option maxHeartbeats 2000000 in
theorem pickV_any (oc : Option Addr) (cc : Nat) (l : List Vl) (ol : Option Addr) (cl : Nat) (pl : List Int) (w : World) (_hl : l.length ≤ 1000) (hp : pl.length ≤ 1000) (hc : ValsIn w oc l) (hi : IntsIn w ol pl) :
    Calls Tryz.prog 47 #[.slice oc l.length cc, .slice ol pl.length cl] w fun e w' =>
      (inAll l.length pl = true ∧ (∃ b, e = .returned (.tuple #[.slice (some ⟨b, 0, none⟩) pl.length pl.length, .nilIface]) ∧ ValsIn w' (some ⟨b, 0, none⟩) (pickL val0 l pl)) ∧ Below w.heap.size w w') ∨
      (inAll l.length pl = false ∧ (∃ b, e = .returned (.tuple #[.slice none 0 0, .iface 132 (.pointer (some ⟨b, 0, none⟩))]) ∧ w.heap.size ≤ b ∧ w'.cell? ⟨b, 1, none⟩ = some (.int .i64 4)) ∧ Below w.heap.size w w') := by
  have hmk : ∀ W, (Instr.makeSlice 51 (.int .i64 (pl.length : Int)) (.int .i64 (pl.length : Int))).run Tryz.prog W = .ok (.slice (some ⟨W.heap.size, 0, none⟩) pl.length pl.length) (W.alloc (.cells (madeCells #[.int .i64 0, .int .i64 0, .int .u64 0, .string ⟨#[]⟩] (pl.length * 4)) 47)) :=
    run_make4 51 47 (.agg #[.int .i64 0, .int .i64 0, .int .u64 0, .string ⟨#[]⟩]) 40 Tryz.underlying51 infoV pl.length (by omega) (by omega)
  have HC := Lib.hid hc
  have HI := Lib.hid hi
  clear hc hi
  go_enter Tryz.func47, Tryz.ntmps47
  go_wp2
  have hrow0 := rowIs_made4 w #[.int .i64 0, .int .i64 0, .int .u64 0, .string ⟨#[]⟩] rfl pl.length 47
  have hb0 : Below w.heap.size w (w.alloc (.cells (madeCells #[.int .i64 0, .int .i64 0, .int .u64 0, .string ⟨#[]⟩] (pl.length * 4)) 47)) := (Below.refl _ _).alloc (Nat.le_refl _) _
  generalize w.alloc (.cells (madeCells #[.int .i64 0, .int .i64 0, .int .u64 0, .string ⟨#[]⟩] (pl.length * 4)) 47) = w1 at *
  go_loopw [14] (fun i wr => ∃ (k : Nat), k ≤ pl.length ∧ i = .int .i64 k ∧ Hid (∀ j (h : j < pl.length), j < k → 0 ≤ pl[j] ∧ pl[j] < l.length) ∧ wr.rowIs w.heap.size 47 (pl.length * 4) (rowOf valCell (fun j => (#[.int .i64 0, .int .i64 0, .int .u64 0, .string ⟨#[]⟩] : Array Value)[j]!) val0 (pickL val0 l pl) k) ∧ Below w.heap.size w wr) (fun i _ => pl.length - (intOf i).toNat)
  case atStart => exact ⟨0, by omega, rfl, Lib.hid (fun j _ h => absurd h (Nat.not_lt_zero j)), hrow0.congr (fun j _ => by simp [rowOf]), hb0⟩
  case round =>
    obtain ⟨k, hk, rfl, HK, hrow, hbw⟩ := hrel
    clear hrow0 hb0 hmk
    have hgl := hrow.lt
    by_cases hkl : k < pl.length
    · obtain ⟨x, hx⟩ : ∃ v, pl[k] = v := ⟨_, rfl⟩
      obtain ⟨ai, rfl, hxc⟩ := HI.out.keep hbw (Nat.le_refl _) k hkl
      rw [hx] at hxc
      by_cases h0 : 0 ≤ x
      · by_cases h1 : x < l.length
        · obtain ⟨m, rfl⟩ := Int.eq_ofNat_of_zero_le h0
          have hm : m < l.length := by omega
          obtain ⟨c, hcc⟩ : ∃ c, l[m] = c := ⟨_, rfl⟩
          obtain ⟨ac, rfl, hat⟩ := HC.out.keep hbw (Nat.le_refl _) m hm
          rw [hcc] at hat
          have hal := hat.lt
          have hne : (ac.add (m * 4)).block < w.heap.size := by
            obtain ⟨a2, e2, hat2⟩ := HC.out m hm
            cases e2
            exact hat2.lt
          obtain ⟨c0, c1, c2, c3⟩ := hat
          have HP := Lib.hid (show (pickL val0 l pl).getD k val0 = c by unfold pickL; rw [List.getD_eq_getElem?_getD, List.getElem?_map, List.getElem?_eq_getElem hkl, hx]; simp [List.getElem?_eq_getElem hm, hcc])
          have HK2 := Lib.hid (show ∀ j (h : j < pl.length), j < k + 1 → 0 ≤ pl[j] ∧ pl[j] < l.length from fun j h hj => by
            by_cases e : j = k
            · subst e; rw [hx]; omega
            · exact HK.out j h (by omega))
          clear hx hcc HC HI
          have r0 := hrow.cell (i := k * 4) (by omega)
          have r1 := hrow.cell (i := k * 4 + 1) (by omega)
          have r2 := hrow.cell (i := k * 4 + 2) (by omega)
          have r3 := hrow.cell (i := k * 4 + 3) (by omega)
          have f0 := hrow.frozen (k * 4)
          have f1 := hrow.frozen (k * 4 + 1)
          have f2 := hrow.frozen (k * 4 + 2)
          have f3 := hrow.frozen (k * 4 + 3)
          go_wp2_with (go_at_call 68; refine (Of_any _ _ _).mono ?_; rintro e w' ⟨rfl, rfl⟩)
          go_roundw
          case rel => exact ⟨k + 1, by omega, by go_num, HK2, ((((hrow.set _ _).set _ _).set _ _).set _ _).congr (fun j _ => rowOf_next (cell := valCell) j (valCell c 0) (valCell c 1) (valCell c 2) (valCell c 3) (by rw [HP.out]) (by rw [HP.out]) (by rw [HP.out]) (by rw [HP.out])), (((hbw.setCell (Nat.le_refl _) _).setCell (Nat.le_refl _) _).setCell (Nat.le_refl _) _).setCell (Nat.le_refl _) _⟩
          case measure => simp [intOf]; omega
        · have HN := Lib.hid (inAll_no (n := l.length) hkl (by omega))
          clear hx HC HI
          go_wp2_with (go_at_call 68; refine (Of_any _ _ _).mono ?_; rintro e w' ⟨rfl, rfl⟩)
          go_ret2
          exact .inr ⟨HN.out, ⟨_, rfl, hbw.size, by simp [go_sem]⟩, hbw.alloc hbw.size _⟩
      · have HN := Lib.hid (inAll_no (n := l.length) hkl (by omega))
        clear hx HC HI
        go_wp2_with (go_at_call 68; refine (Of_any _ _ _).mono ?_; rintro e w' ⟨rfl, rfl⟩)
        go_ret2
        exact .inr ⟨HN.out, ⟨_, rfl, hbw.size, by simp [go_sem]⟩, hbw.alloc hbw.size _⟩
    · obtain rfl : k = pl.length := by omega
      have HA := Lib.hid (show inAll l.length pl = true by
        unfold inAll
        rw [List.all_eq_true]
        intro x hx
        obtain ⟨j, hj, rfl⟩ := List.getElem_of_mem hx
        have := HK.out j hj hj
        simpa using this)
      have hlen : (pickL val0 l pl).length = pl.length := by simp [pickL]
      have HR := Lib.hid (rowV (l := pickL val0 l pl) (by rw [hlen]; exact hrow))
      clear hrow hlen
      go_wp2_with (go_at_call 68; refine (Of_any _ _ _).mono ?_; rintro e w' ⟨rfl, rfl⟩)
      go_ret2
      exact .inl ⟨HA.out, ⟨_, rfl, HR.out⟩, hbw⟩
end Go.Proofs.YtjlhbpacecbfmaaGreatDoor
