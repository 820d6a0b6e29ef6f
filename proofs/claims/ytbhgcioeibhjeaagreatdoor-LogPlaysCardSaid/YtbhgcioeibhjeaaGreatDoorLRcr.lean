/-
  log: record.
-/
import Derived.Test.YtbhgcioeibhjeaaGreatDoorLRcs
import Derived.Lib.AppendZeros
import Derived.Maps.AppendAt
import Derived.Test.YtbhgcioeibhjeaaGreatDoorOctA
import Derived.Laws.OwnMore
import Derived.Test.YtbhgcioeibhjeaaGreatDoorDDos
namespace Go.Proofs.YtbhgcioeibhjeaaGreatDoor
open Go.RowKit

theorem fix4 {n : Nat} (hn : n < 4294967296) : fixNo n 4 = 0 ∧ fixL n 4 = tellL n 4 := by
  have h : sizeOf8 n ≤ 4 := (sizeOf8_le_iff n 4 (by omega)).2 (by omega)
  have h0 : fixNo n 4 = 0 := by
    unfold fixNo
    rw [if_neg (by omega), if_neg (by omega)]
  exact ⟨h0, by unfold fixL; rw [if_pos h0]; rfl⟩
set_option maxRecDepth 100000 in
set_option maxHeartbeats 1000000 in
theorem field_any (n : Nat) (w : World) (hn : n < 4294967296) : Calls Tryz.prog 81 #[.int .i64 n] w fun e w' => ∃ v, e = .returned v ∧ BytesAt w' v (tellL n 4) ∧ Below w.heap.size w w' := by
  have HF := Lib.hid (Fixed_any n 4 w (by omega))
  rw [(fix4 hn).1, (fix4 hn).2] at HF
  go_enter Tryz.func81, Tryz.ntmps81
  go_wp2_with (first | (go_at_call 99; with_reducible refine HF.out.mono ?_; rintro e w1 ⟨v, rfl, hb, hw⟩))
  go_ret
  exact ⟨v, rfl, hb, hw⟩
set_option maxRecDepth 100000 in
set_option maxHeartbeats 1000000 in
theorem field32_any (n : Nat) (w : World) (hn : n < 4294967296) : Calls Tryz.prog 82 #[.int .u32 n] w fun e w' => ∃ v, e = .returned v ∧ BytesAt w' v (tellL n 4) ∧ Below w.heap.size w w' := by
  have HF := Lib.hid (Fixed_any n 4 w (by omega))
  rw [(fix4 hn).1, (fix4 hn).2] at HF
  go_enter Tryz.func82, Tryz.ntmps82
  go_wp2_with (first | (go_at_call 99; with_reducible refine HF.out.mono ?_; rintro e w1 ⟨v, rfl, hb, hw⟩))
  go_ret
  exact ⟨v, rfl, hb, hw⟩
end Go.Proofs.YtbhgcioeibhjeaaGreatDoor
namespace Go.Proofs.YtbhgcioeibhjeaaGreatDoor
open Go.RowKit

theorem infoBL : (Tryz.prog.info? 5).map (fun i => (i.zero, i.size, i.bytes)) = some (some (.int .u8 0), 1, 1) := by kernel_rfl
set_option maxRecDepth 100000 in
set_option maxHeartbeats 1000000 in
theorem Grow_nil (n : Nat) (w : World) (h0 : 0 < n) (hn : n ≤ 1000000) :
    Calls Tryz.prog 106 #[.slice none 0 0, .int .i64 n] w fun e w' => ∃ v, e = .returned v ∧ v ≠ .slice none 0 0 ∧ w'.ownsRow w.heap.size 5 1 v 0 [] ∧ Below w.heap.size w w' := by
  obtain ⟨i0, hi0, hz0, hz1, hz2⟩ := info_parts infoBL
  obtain ⟨C, hC⟩ : ∃ C, grownCap w n 0 5 = C := ⟨_, rfl⟩
  have hge : n ≤ C := by rw [← hC]; exact grownCap_ge w n 0 _
  have hm : C ≤ maxLen := by rw [← hC]; exact grownCap_le_maxLen w n 0 _ (by unfold maxLen; omega)
  have hr := Lib.run_append_nil_zeros (P := Tryz.prog) w 43 3 43 5 i0 _ .i64 .i64 Tryz.underlying43 Tryz.underlying3 hi0 hz0 n h0 (by rw [hz1]; decide) (by omega) (by rw [hz2]; omega)
  rw [hC] at hr
  obtain ⟨w1, hw1⟩ : ∃ w1, (w.drew.alloc (.cells (Builtin.zeroCells (Value.int .u8 0).cells n ++ Builtin.zeroCells (Value.int .u8 0).cells (C - n)) 5)) = w1 := ⟨_, rfl⟩
  have hrow : w1.ownsRow w.heap.size 5 1 (.slice (some ⟨w.heap.size, 0, none⟩) 0 C) 0 [] := by
    rw [← hw1]
    exact World.ownsRow_made w.drew _ C (Nat.le_refl _) hm (by rw [Array.size_append, size_zeroCells, size_zeroCells]; simp [Value.cells]; omega)
  have hb : Below w.heap.size w w1 := by rw [← hw1]; exact ((Below.refl _ w).drew).alloc (Nat.le_refl _) _
  have H := Lib.hid (And.intro hrow hb)
  rw [hw1] at hr
  clear hrow hb hC hw1
  have hnn : ¬ ((n : Int) < 0) := by omega
  have hpos : (0 : Int) < (n : Int) := by omega
  go_enter Tryz.func106, Tryz.ntmps106
  go_wp2_with (first | (at_builtin; refine Lib.wpList_append_run _ rfl _ _ _ _ rfl _ _ rfl rfl _ _ hr ?_))
  go_ret
  exact ⟨_, rfl, by simp, H.out⟩
end Go.Proofs.YtbhgcioeibhjeaaGreatDoor
namespace Go.Proofs.YtbhgcioeibhjeaaGreatDoor
open Go.RowKit

theorem wpList_appR {P : Program} {w : World} {ops : Array Oper} {rest : List Oper} {o : Oper} {a : Act} {Q : Exit → Act → World → Prop} (hgd : o.guard = none) (sl x : Operand) (t u : TypeId) (ho : o.op = .call { callee := .builtin .append, args := #[sl, x], argTypes := #[t, u] })
    (vs vx : Value) (hs : a.eval sl = vs) (hx : a.eval x = vx) (hr : ∃ v' w', (Builtin.append_ #[t, u] o.type #[vs, vx]).run P w = .ok v' w' ∧ wpList P ops Q rest (a.put o.dst v') w') : wpList P ops Q (o :: rest) a w := by
  obtain ⟨v', w', h1, h2⟩ := hr
  exact Lib.wpList_append_run w hgd sl x t u ho vs vx hs hx v' w' h1 h2
/-- slices of bytes in a row, each nil or not -/
def RowsOf (w : World) (oa : Option Addr) (ls : List (Value × List UInt8)) : Prop := ∀ (j : Nat) (h : j < ls.length), ∃ a, oa = some a ∧ w.cell? (a.add j) = some ls[j].1 ∧ BytesOf w ls[j].1 ls[j].2
theorem RowsOf.keep {w w' : World} {oa : Option Addr} {ls : List (Value × List UInt8)} (h : RowsOf w oa ls) (hb : Below w.heap.size w w') : RowsOf w' oa ls := fun j hj => by
  obtain ⟨a, e, h1, h2⟩ := h j hj
  exact ⟨a, e, (hb.cell (World.block_lt_of_cell? w _ h1)).trans h1, h2.keep hb (Nat.le_refl _)⟩
theorem u8s_appendL (l m : List UInt8) : u8s (l ++ m) = u8s l ++ u8s m := by simp [u8s]
theorem catL_take {ls : List (Value × List UInt8)} {k : Nat} (h : k < ls.length) : catL (ls.take (k + 1)) = catL (ls.take k) ++ ls[k].2 := by
  rw [List.take_succ_eq_append_getElem h]
  unfold catL
  rw [List.flatMap_append]
  simp only [List.flatMap_cons, List.flatMap_nil, List.append_nil]
theorem catL_le {ls : List (Value × List UInt8)} (k : Nat) : (catL (ls.take k)).length ≤ (catL ls).length := by
  have h : catL ls = catL (ls.take k) ++ catL (ls.drop k) := by
    unfold catL
    rw [← List.flatMap_append, List.take_append_drop]
  rw [h, List.length_append]
  omega
/-- one slice more behind a row of one's own -/
theorem app_bytes {W : World} {base : Nat} {v x : Value} {l m : List UInt8} (hown : W.ownsRow base 5 1 v l.length (u8s l)) (hx : BytesOf W x m) (hl : l.length + m.length ≤ 1000000) (hb : base ≤ W.heap.size) :
    ∃ v' W', (Builtin.append_ #[43, 43] 43 #[v, x]).run Tryz.prog W = .ok v' W' ∧ W'.ownsRow base 5 1 v' (l ++ m).length (u8s (l ++ m)) ∧ W.grownBy W' v.ownBlock := by
  obtain ⟨i0, hi0, hz0, hz1, hz2⟩ := info_parts infoBL
  rcases hx with ⟨rfl, rfl⟩ | ⟨a, cap, rfl, _, hc⟩
  · refine ⟨v, W, run_append_owned_none W base 43 43 5 i0 1 Tryz.underlying43 hi0 v l.length (u8s l) hown, ?_, ⟨rfl, rfl, rfl, Nat.le_refl _, fun _ _ _ => rfl⟩⟩
    rw [List.append_nil]
    exact hown
  · obtain ⟨v', w2, hr, hrow, hgr, _⟩ := run_append_own_at (P := Tryz.prog) W base 43 43 5 i0 (.int .u8 0) 1 1 Tryz.underlying43 hi0 hz0 hz1 hz2 rfl (by decide) v l.length (u8s l) hown a m.length cap (u8s m) (by rw [u8s_length]; simp) (fun j u hj => by
      have hjm : j < m.length := by rw [← u8s_length]; exact (List.getElem?_eq_some_iff.1 hj).1
      rw [hc j hjm, ← hj]
      simp [u8s, hjm]) (fun u hu => by
      simp only [u8s, List.mem_map] at hu
      obtain ⟨b, _, rfl⟩ := hu
      rfl) (by unfold maxLen; omega) (by omega) hb
    refine ⟨v', w2, hr, ?_, hgr⟩
    rw [u8s_appendL, List.length_append]
    exact hrow
set_option maxRecDepth 100000 in
set_option maxHeartbeats 1000000 in
theorem Concat_any (oa : Option Addr) (cap : Nat) (ls : List (Value × List UInt8)) (w : World) (hv : RowsOf w oa ls) (h0 : 0 < (catL ls).length) (hn : (catL ls).length ≤ 1000000) (hl : ls.length ≤ 1000) :
    Calls Tryz.prog 98 #[.slice oa ls.length cap] w fun e w' => ∃ v, e = .returned v ∧ w'.ownsRow w.heap.size 5 1 v (catL ls).length (u8s (catL ls)) ∧ Below w.heap.size w w' := by
  have HV := Lib.hid hv
  have HG := Lib.hid (Grow_nil (catL ls).length w h0 hn)
  have HN := Lib.hid hn
  clear hv
  go_enter Tryz.func98, Tryz.ntmps98
  go_wp2_with fail
  go_loop [3, 5, 11] (fun s _ i => ∃ k : Nat, k ≤ ls.length ∧ i = .int .i64 k ∧ s = .int .i64 ((catL (ls.take k)).length : Nat)) (fun _ _ i => ls.length - (intOf i).toNat)
  case atStart => exact ⟨0, by omega, rfl, rfl⟩
  case round =>
    obtain ⟨k, hk, rfl, rfl⟩ := hrel
    by_cases hlt : k < ls.length
    · obtain ⟨a, rfl, hcell, hb⟩ := HV.out k hlt
      have hct := congrArg List.length (catL_take hlt)
      rw [List.length_append] at hct
      have hle := catL_le (ls := ls) (k + 1)
      obtain ⟨ob, cb, hx⟩ : ∃ ob cb, ls[k].1 = .slice ob ls[k].2.length cb := by
        rcases hb with ⟨e, e2⟩ | ⟨a', c', e, _⟩
        · exact ⟨none, 0, by rw [e, e2]; rfl⟩
        · exact ⟨_, _, e⟩
      rw [hx] at hcell
      rw [hct] at hle
      clear hb hx
      have HCT := Lib.hid hct
      generalize (catL (ls.take k)).length = s0 at *
      generalize ls[k].2.length = s1 at *
      generalize (catL ls).length = nn at *
      clear hct
      have hb1 : ¬ ((s0 : Int) + (s1 : Int) < 0) := by omega
      go_wp2_with fail
      go_round
      case rel => exact ⟨k + 1, by omega, by go_num, by rw [HCT.out]; go_num⟩
      case measure => simp [intOf]; omega
    · have hkl : k = ls.length := by omega
      subst hkl
      rw [List.take_length]
      go_wp2_with (first | (go_at_call 106; refine HG.out.mono ?_; rintro e w1 ⟨v1, rfl, hvn, hrow1, hb1⟩; have HR1 := Lib.hid (And.intro hrow1 hb1); clear hrow1 hb1 hvn))
      go_loopw [6, 8, 27] (fun u _ i W => ∃ (k : Nat) (v : Value), k ≤ ls.length ∧ i = .int .i64 k ∧ v = u ∧ Hid (W.ownsRow w.heap.size 5 1 v (catL (ls.take k)).length (u8s (catL (ls.take k))) ∧ Below w.heap.size w W)) (fun _ _ i _ => ls.length - (intOf i).toNat)
      case atStart => exact ⟨0, _, by omega, rfl, rfl, Lib.hid HR1.out⟩
      case round =>
        obtain ⟨k, v, hk, rfl, hvu, HI⟩ := hrel
        subst hvu
        clear HR1
        by_cases hlt : k < ls.length
        · obtain ⟨a, rfl, hcell, hb⟩ := (HV.out.keep HI.out.2) k hlt
          have hlen : (catL (ls.take k)).length + ls[k].2.length ≤ 1000000 := by
            have h1 := congrArg List.length (catL_take hlt)
            rw [List.length_append] at h1
            have h2 := catL_le (ls := ls) (k + 1)
            have h3 := HN.out
            omega
          obtain ⟨v', W', hr, hrow, hgr⟩ := app_bytes HI.out.1 hb hlen HI.out.2.size
          have HO := Lib.hid (And.intro (show W'.ownsRow w.heap.size 5 1 v' (catL (ls.take (k + 1))).length (u8s (catL (ls.take (k + 1)))) by rw [catL_take hlt]; exact hrow) (HI.out.2.grown hgr HI.out.2.size (fun q hq => (HI.out.1.lt q hq).1)))
          clear hrow hgr hlen hb HI
          generalize ls[k].1 = x at *
          go_wp2_with (first | (at_builtin; refine wpList_appR rfl _ _ _ _ rfl _ _ rfl rfl ⟨v', W', hr, ?_⟩))
          go_roundw
          case rel => exact ⟨k + 1, v', by omega, by go_num, rfl, HO⟩
          case measure => simp [intOf]; omega
        · have hkl2 : k = ls.length := by omega
          subst hkl2
          have HI2 := HI.out
          rw [List.take_length] at HI2
          have HI3 := Lib.hid HI2
          clear HI2 HI
          go_wp2_with fail
          go_ret
          exact ⟨_, rfl, HI3.out⟩
end Go.Proofs.YtbhgcioeibhjeaaGreatDoor
namespace Go.Proofs.YtbhgcioeibhjeaaGreatDoor
open Go.RowKit

/-- bytes of one's own, new ones -/
def NewRow (w w' : World) (v : Value) (l : List UInt8) : Prop := w'.ownsRow w.heap.size 5 1 v l.length (u8s l) ∧ Below w.heap.size w w'
theorem BytesAt.of {w : World} {v : Value} {l : List UInt8} (h : BytesAt w v l) (hl : 0 < l.length) : BytesOf w v l := by
  obtain ⟨oa, cap, rfl, hc, hcell⟩ := h
  obtain ⟨a, rfl, _⟩ := hcell 0 hl
  refine .inr ⟨a, cap, rfl, hc, fun j hj => ?_⟩
  obtain ⟨b, hb, h2⟩ := hcell j hj
  cases hb
  exact h2
theorem BytesAt.form {w : World} {v : Value} {l : List UInt8} (h : BytesAt w v l) : ∃ oa cap, v = .slice oa l.length cap := by
  obtain ⟨oa, cap, e, _⟩ := h
  exact ⟨oa, cap, e⟩
theorem BytesOf.form {w : World} {v : Value} {l : List UInt8} (h : BytesOf w v l) : ∃ oa cap, v = .slice oa l.length cap := by
  rcases h with ⟨rfl, rfl⟩ | ⟨a, cap, rfl, _⟩
  · exact ⟨none, 0, rfl⟩
  · exact ⟨_, _, rfl⟩
theorem ownsRow_baseL {w : World} {N M e size n : Nat} {v : Value} {xs : List Value} (h : w.ownsRow M e size v n xs) (hb : N ≤ M) : w.ownsRow N e size v n xs := by
  refine ⟨h.1, ?_⟩
  rcases h.2 with h0 | ⟨g, cap, cur, e0, h1, h2⟩
  · exact .inl h0
  · exact .inr ⟨g, cap, cur, e0, Nat.le_trans hb h1, h2⟩
theorem NewRow.of {w w' : World} {v : Value} {l : List UInt8} (h : NewRow w w' v l) (hl : 0 < l.length) : BytesOf w' v l := by
  obtain ⟨h1, _⟩ := h
  have h2 := h1
  rcases h1.2 with ⟨_, h0⟩ | ⟨g, cap, cur, rfl, _, hg, hc, _⟩
  · omega
  · refine .inr ⟨_, cap, rfl, hc, fun j hj => h2.cells rfl j _ ?_⟩
    simp [u8s, hj]
set_option maxRecDepth 100000 in
set_option maxHeartbeats 1000000 in
theorem lay_any (oa : Option Addr) (cap : Nat) (ls : List (Value × List UInt8)) (w : World) (hv : RowsOf w oa ls) (h0 : 0 < (catL ls).length) (hn : (catL ls).length ≤ 1000000) (hl : ls.length ≤ 1000) :
    Calls Tryz.prog 80 #[.slice oa ls.length cap] w fun e w' => ∃ v, e = .returned v ∧ NewRow w w' v (catL ls) := by
  have HC := Lib.hid (Concat_any oa cap ls w hv h0 hn hl)
  clear hv
  generalize ls.length = n at *
  go_enter Tryz.func80, Tryz.ntmps80
  go_wp2_with (first | (go_at_call 98; with_reducible refine HC.out.mono ?_; rintro e w1 ⟨v, rfl, h1, h2⟩; have H := Lib.hid (And.intro h1 h2); clear h1 h2))
  go_ret
  exact ⟨v, rfl, H.out.1, H.out.2⟩
set_option maxRecDepth 100000 in
set_option maxHeartbeats 1000000 in
theorem record_any (v : Value) (l : List UInt8) (w : World) (hv : BytesOf w v l) (hl : l.length ≤ 60000) :
    Calls Tryz.prog 50 #[v] w fun e w' => ∃ v', e = .returned v' ∧ NewRow w w' v' (recL l) := by
  obtain ⟨ob, cb, hform⟩ := hv.form
  have hcr : crc l < 4294967296 := by unfold crc; omega
  have HV := Lib.hid hv
  have HF := Lib.hid (field_any l.length w (by omega))
  have HS : Hid (∀ w1, Below w.heap.size w w1 → Calls Tryz.prog 74 #[.slice (some ⟨w1.heap.size, 0, none⟩) 1 1] (w1.alloc (.cells #[v] 43)) fun e w' => e = .returned (.int .u32 (crc l)) ∧ w1.alloc (.cells #[v] 43) = w') := Lib.hid fun w1 hb => sum_one v l w1 (hv.keep hb (Nat.le_refl _)).at (by omega)
  have HF2 := Lib.hid (fun W => field32_any (crc l) W hcr)
  have HL : Hid (∀ (w1 w3 : World) (v1 v2 : Value), Below w.heap.size w w1 → BytesAt w1 v1 (tellL l.length 4) → Below w1.heap.size w1 w3 → BytesAt w3 v2 (tellL (crc l) 4) → Calls Tryz.prog 80 #[.slice (some ⟨w3.heap.size, 0, none⟩) 3 3] (w3.alloc (.cells #[v1, v2, v] 43)) fun e w' => ∃ v', e = .returned v' ∧ NewRow w w' v' (recL l)) := Lib.hid fun w1 w3 v1 v2 hb1 h1 hb3 h2 => by
    have hb4 : Below w3.heap.size w3 (w3.alloc (.cells #[v1, v2, v] 43)) := (Below.refl _ w3).alloc (Nat.le_refl _) _
    have k1 : BytesOf (w3.alloc (.cells #[v1, v2, v] 43)) v1 (tellL l.length 4) := ((h1.of (by rw [tellL_length]; omega)).keep hb3 (Nat.le_refl _)).keep hb4 (Nat.le_refl _)
    have k2 : BytesOf (w3.alloc (.cells #[v1, v2, v] 43)) v2 (tellL (crc l) 4) := (h2.of (by rw [tellL_length]; omega)).keep hb4 (Nat.le_refl _)
    have k3 : BytesOf (w3.alloc (.cells #[v1, v2, v] 43)) v l := ((HV.out.keep hb1 (Nat.le_refl _)).keep hb3 (Nat.le_refl _)).keep hb4 (Nat.le_refl _)
    have hcat : catL [(v1, tellL l.length 4), (v2, tellL (crc l) 4), (v, l)] = recL l := by simp [catL, recL]
    have hcell : ∀ j u, [v1, v2, v][j]? = some u → (w3.alloc (.cells #[v1, v2, v] 43)).cell? ((⟨w3.heap.size, 0, none⟩ : Addr).add j) = some u := fun j u hj => lit_cells w3 [v1, v2, v] 43 j u hj
    have hrows : RowsOf (w3.alloc (.cells #[v1, v2, v] 43)) (some ⟨w3.heap.size, 0, none⟩) [(v1, tellL l.length 4), (v2, tellL (crc l) 4), (v, l)] := fun j hj => by
      match j, hj with
      | 0, _ => exact ⟨_, rfl, hcell 0 _ rfl, k1⟩
      | 1, _ => exact ⟨_, rfl, hcell 1 _ rfl, k2⟩
      | 2, _ => exact ⟨_, rfl, hcell 2 _ rfl, k3⟩
    have h := lay_any _ 3 _ _ hrows (by rw [hcat, recL_length]; omega) (by rw [hcat, recL_length]; omega) (by simp)
    rw [hcat] at h
    refine h.mono ?_
    rintro e w' ⟨v', e0, r1, r2⟩
    have hww : Below w.heap.size w (w3.alloc (.cells #[v1, v2, v] 43)) := hb1.trans ((hb3.mono hb1.size).trans (hb4.mono (Nat.le_trans hb1.size hb3.size)))
    exact ⟨v', e0, ownsRow_baseL r1 hww.size, hww.trans (r2.mono hww.size)⟩
  subst hform
  clear hv hcr
  generalize crc l = cc at *
  generalize l.length = n at *
  go_enter Tryz.func50, Tryz.ntmps50
  go_wp2_with (first | (go_at_call 81; with_reducible refine HF.out.mono ?_; rintro e w1 ⟨v1, rfl, h1, hb1⟩; obtain ⟨oa1, c1, hf1⟩ := h1.form; subst hf1; have H1 := Lib.hid (And.intro h1 hb1); clear h1 hb1; have HS1 := Lib.hid (HS.out w1 H1.out.2)) | (go_at_call 74; with_reducible refine HS1.out.mono ?_; rintro e w2 ⟨rfl, rfl⟩) | (go_at_call 82; with_reducible refine (HF2.out _).mono ?_; rintro e w3 ⟨v2, rfl, h2, hb2⟩; obtain ⟨oa2, c2, hf2⟩ := h2.form; subst hf2; have H2 := Lib.hid (HL.out w1 w3 _ _ H1.out.2 H1.out.1 (below_alloc hb2) h2); clear h2 hb2) | (go_at_call 80; refine H2.out.mono ?_; rintro e w4 ⟨v', rfl, hr⟩; have H4 := Lib.hid hr; clear hr))
  go_ret
  exact ⟨_, rfl, H4.out⟩
set_option maxRecDepth 100000 in
set_option maxHeartbeats 1000000 in
theorem Record_ok (v : Value) (l : List UInt8) (w : World) (hv : BytesOf w v l) (hl : l.length ≤ 60000) :
    Calls Tryz.prog 26 #[v] w fun e w' => ∃ v', e = .returned (.tuple #[v', .int .i64 0]) ∧ NewRow w w' v' (recL l) := by
  obtain ⟨ob, cb, hform⟩ := hv.form
  subst hform
  have HR := Lib.hid (record_any _ l w hv hl)
  have HM : Hid (Calls Tryz.prog 57 #[.slice ob l.length cb] w fun e w' => e = .returned .nilIface ∧ w = w') := Lib.hid (by
    clear hv HR
    generalize l.length = n at *
    go_enter Tryz.func57, Tryz.ntmps57
    go_wp2_with fail
    go_ret
    exact ⟨rfl, rfl⟩)
  have hq : ∀ W, (binOp .neq 86 .nilIface .nilIface).run Tryz.prog W = .ok (.bool false) W := fun _ => rfl
  clear hv
  generalize l.length = n at *
  go_enter Tryz.func26, Tryz.ntmps26
  go_wp2_with (first | (go_at_call 57; with_reducible refine HM.out.mono ?_; rintro e w1 ⟨rfl, rfl⟩) | (go_at_call 50; with_reducible refine HR.out.mono ?_; rintro e w2 ⟨v', rfl, hr⟩; have H4 := Lib.hid hr; clear hr))
  go_ret2
  exact ⟨_, rfl, H4.out⟩
end Go.Proofs.YtbhgcioeibhjeaaGreatDoor
