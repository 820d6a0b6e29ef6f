/-
  key: groups of bytes: groupOf.
-/
import Derived.Test.YtcedeipmboekaaaGreatDoorKLay
import Derived.Test.YtcedeipmboekaaaGreatDoorKPure
import Derived.Laws.CopyOwn
namespace Go.Proofs.YtcedeipmboekaaaGreatDoor
open Go.RowKit

/-- a group's bytes, as the program's array -/
def gcells (G : List UInt8) : Array Value := #[.int .u8 (G.getD 0 0).toNat, .int .u8 (G.getD 1 0).toNat, .int .u8 (G.getD 2 0).toNat, .int .u8 (G.getD 3 0).toNat, .int .u8 (G.getD 4 0).toNat, .int .u8 (G.getD 5 0).toNat, .int .u8 (G.getD 6 0).toNat, .int .u8 (G.getD 7 0).toNat, .int .u8 (G.getD 8 0).toNat]
def padG (l : List UInt8) : List UInt8 := l ++ List.replicate (8 - l.length) 0
def grpL (l : List UInt8) (m : UInt8) : List UInt8 := padG l ++ [m]
def z9 : List Value := [.int .u8 0, .int .u8 0, .int .u8 0, .int .u8 0, .int .u8 0, .int .u8 0, .int .u8 0, .int .u8 0, .int .u8 0]
theorem padG_length {l : List UInt8} (h : l.length ≤ 8) : (padG l).length = 8 := by unfold padG; simp; omega
theorem grpL_length {l : List UInt8} (m : UInt8) (h : l.length ≤ 8) : (grpL l m).length = 9 := by unfold grpL; simp [padG_length h]
theorem splice_z9 {l : List UInt8} (h : l.length ≤ 8) : Go.splice z9 0 (u8s l) = u8s (padG l) ++ [.int .u8 0] := by
  unfold Go.splice padG u8s z9
  simp only [List.take_zero, List.nil_append, Nat.zero_add, List.length_map, List.map_append, List.map_replicate, List.append_assoc]
  congr 1
  obtain ⟨n, hn⟩ : ∃ n, l.length = n := ⟨_, rfl⟩
  rw [hn] at h ⊢
  rcases (show n = 0 ∨ n = 1 ∨ n = 2 ∨ n = 3 ∨ n = 4 ∨ n = 5 ∨ n = 6 ∨ n = 7 ∨ n = 8 by omega) with rfl | rfl | rfl | rfl | rfl | rfl | rfl | rfl | rfl <;> rfl
theorem list8 {α : Type} : ∀ (l : List α), l.length = 8 → ∃ a b c d e f g h, l = [a, b, c, d, e, f, g, h]
  | [a, b, c, d, e, f, g, h], _ => ⟨a, b, c, d, e, f, g, h, rfl⟩
/-- a row of nine bytes -/
structure Row9 (w : World) (g : Nat) (a b c d e f h i j : UInt8) : Prop where
  c0 : w.cell? ⟨g, 0, none⟩ = some (.int .u8 a.toNat)
  c1 : w.cell? ⟨g, 1, none⟩ = some (.int .u8 b.toNat)
  c2 : w.cell? ⟨g, 2, none⟩ = some (.int .u8 c.toNat)
  c3 : w.cell? ⟨g, 3, none⟩ = some (.int .u8 d.toNat)
  c4 : w.cell? ⟨g, 4, none⟩ = some (.int .u8 e.toNat)
  c5 : w.cell? ⟨g, 5, none⟩ = some (.int .u8 f.toNat)
  c6 : w.cell? ⟨g, 6, none⟩ = some (.int .u8 h.toNat)
  c7 : w.cell? ⟨g, 7, none⟩ = some (.int .u8 i.toNat)
  c8 : w.cell? ⟨g, 8, none⟩ = some (.int .u8 j.toNat)
  fr : ∀ o, w.frozen? ⟨g, o, none⟩ = false
theorem Row9.of {w : World} {g : Nat} {t : TypeId} {a b c d e f h i j : UInt8} (hg : w.heap[g]? = some (.cells #[.int .u8 a.toNat, .int .u8 b.toNat, .int .u8 c.toNat, .int .u8 d.toNat, .int .u8 e.toNat, .int .u8 f.toNat, .int .u8 h.toNat, .int .u8 i.toNat, .int .u8 j.toNat] t (0, 0))) : Row9 w g a b c d e f h i j :=
  ⟨cell_of_row _ _ 0 _ _ _ hg, cell_of_row _ _ 1 _ _ _ hg, cell_of_row _ _ 2 _ _ _ hg, cell_of_row _ _ 3 _ _ _ hg, cell_of_row _ _ 4 _ _ _ hg, cell_of_row _ _ 5 _ _ _ hg, cell_of_row _ _ 6 _ _ _ hg, cell_of_row _ _ 7 _ _ _ hg, cell_of_row _ _ 8 _ _ _ hg, fun o => by simp [World.frozen?, hg]⟩
theorem alloc_at2 (w : World) (o o' : Obj) : ((w.alloc o).alloc o').heap[w.heap.size + 1]? = some o' := by
  rw [← World.size_alloc w o]
  exact heap_alloc_at _ _
theorem info1 : (Tryz.prog.info? 5).map (·.size) = some 1 := by kernel_rfl
set_option maxRecDepth 100000 in
set_option maxHeartbeats 1000000 in
theorem qgroupOf_any (v : Value) (l : List UInt8) (m : UInt8) (w : World) (hv : BytesOf w v l) (hl : l.length ≤ 8) :
    Calls Tryz.prog 65 #[v, .int .u8 m.toNat] w fun e w' => e = .returned (.agg (gcells (grpL l m))) ∧ Below w.heap.size w w' := by
  obtain ⟨a, b, c, d, e, f, g, h, hp⟩ := list8 (padG l) (padG_length hl)
  have hG : grpL l m = [a, b, c, d, e, f, g, h, m] := by unfold grpL; rw [hp]; rfl
  rw [hG]
  have HS : Hid (Go.splice z9 0 (u8s l) = [.int .u8 a.toNat, .int .u8 b.toNat, .int .u8 c.toNat, .int .u8 d.toNat, .int .u8 e.toNat, .int .u8 f.toNat, .int .u8 g.toNat, .int .u8 h.toNat, .int .u8 0]) := Lib.hid (by rw [splice_z9 hl, hp]; rfl)
  clear hp hG
  obtain ⟨oa, n, cap, rfl, hn, hc⟩ : ∃ oa n cap, v = .slice oa n cap ∧ Hid (n = l.length) ∧ Hid (∀ j (hj : j < l.length), ∃ ad, oa = some ad ∧ w.cell? (ad.add j) = some (.int .u8 (l[j].toNat : Int))) := by
    rcases hv with ⟨rfl, rfl⟩ | ⟨ad, cap, rfl, _, hc⟩
    · exact ⟨_, _, _, rfl, Lib.hid rfl, Lib.hid (fun j hj => by simp at hj)⟩
    · exact ⟨_, _, _, rfl, Lib.hid rfl, Lib.hid (fun j hj => ⟨ad, rfl, hc j hj⟩)⟩
  have HL := Lib.hid hl
  clear hv hl
  go_enter Tryz.func65, Tryz.ntmps65
  go_wp2_with (with_reducible refine wpList_copy_splice rfl (.tmp 6) (.tmp 7) 55 55 rfl 5 Tryz.underlying55 info1 (some ⟨w.heap.size + 1, 0, none⟩) oa 8 9 n cap rfl rfl (w.heap.size + 1) 0 z9 111 ?c1 (u8s l) ?c2 ?c3 ?c4 ?c5 (w.heap.size + 1) (w.alloc (.cells z9.toArray 111)) ?c6 ?c7 ?_)
  case c1 => exact alloc_at2 _ _ _
  case c2 =>
    have := HL.out
    rw [hn.out, u8s_length]
    show _ = min l.length 8
    omega
  case c3 =>
    intro h0
    rw [u8s_length] at h0
    obtain ⟨ad, rfl, _⟩ := hc.out 0 h0
    refine ⟨ad, rfl, fun j v hj => ?_⟩
    have hj' : j < l.length := by
      have := (List.getElem?_eq_some_iff.1 hj).1
      rwa [u8s_length] at this
    obtain ⟨ad', e, hcell⟩ := hc.out j hj'
    cases e
    have hlt := World.block_lt_of_cell? w _ hcell
    rw [World.cell?_alloc_lt _ _ _ (by simp; omega), World.cell?_alloc_lt _ _ _ hlt, hcell]
    unfold u8s at hj
    rw [List.getElem?_map, List.getElem?_eq_getElem hj'] at hj
    exact hj
  case c4 => rw [u8s_length]; have := HL.out; show 0 + l.length ≤ 9; omega
  case c5 =>
    intro v hv
    unfold u8s at hv
    obtain ⟨x, _, rfl⟩ := List.mem_map.1 hv
    rfl
  case c6 => exact (Below.refl _ _).alloc (by simp) _
  case c7 => omega
  intro w1 hg1 hb1
  have HR := hg1.out
  rw [HS.out] at HR
  have HR9 : Row9 w1 (w.heap.size + 1) a b c d e f g h 0 := Row9.of HR
  have HZ9 : Row9 w1 w.heap.size 0 0 0 0 0 0 0 0 0 := Row9.of (t := 111) ((hb1.block _ (by omega)).trans (heap_alloc_at _ _))
  have HB : Hid (Below w.heap.size w w1) := Lib.hid (((Below.refl _ _).alloc (Nat.le_refl _) _).trans (hb1.mono (by omega)))
  obtain ⟨c0, c1, c2, c3, c4, c5, c6, c7, c8, fr⟩ := HR9
  obtain ⟨e0, e1, e2, e3, e4, e5, e6, e7, e8, er⟩ := HZ9
  have hs1 := hb1.size
  rw [World.size_alloc] at hs1
  clear hg1 hb1 HR hn hc HL HS
  go_wp2_with fail
  exact bodyPost_ret (v := .agg (gcells [a, b, c, d, e, f, g, h, m])) (by simp [results, Tryz.results65, go_sem, gcells, e0, e1, e2, e3, e4, e5, e6, e7, e8]) rfl ⟨rfl, ((((((((((HB.out.setCell (by simp) _).setCell (by simp) _).setCell (by simp) _).setCell (by simp) _).setCell (by simp) _).setCell (by simp) _).setCell (by simp) _).setCell (by simp) _).setCell (by simp) _).setCell (by simp) _)⟩
end Go.Proofs.YtcedeipmboekaaaGreatDoor
