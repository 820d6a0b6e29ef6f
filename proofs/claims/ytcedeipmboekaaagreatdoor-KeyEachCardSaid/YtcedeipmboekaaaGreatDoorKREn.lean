/-
  swingbridgeref05.Encode.
-/
import Derived.Test.YtcedeipmboekaaaGreatDoorKFew
import Derived.Lib.AppendStr
import Derived.Lib.AppendZerosOnto
import Derived.Lib.MinMax
namespace Go.Proofs.YtcedeipmboekaaaGreatDoor
open Go.RowKit

def zs (k : Nat) : List Value := List.replicate k (.int .u8 0)
theorem zs_length (k : Nat) : (zs k).length = k := by simp [zs]
theorem zeroCells_list (k : Nat) : (Builtin.zeroCells (Value.int .u8 0).cells k).toList = zs k := by
  have h1 : (Value.int .u8 0).cells = #[.int .u8 0] := rfl
  rw [h1]
  unfold Builtin.zeroCells zs
  simp
  induction k with
  | zero => rfl
  | succ k ih => rw [List.replicate_succ', List.range_succ, List.map_append, ih]; simp [Nat.mod_one]
theorem zeroCells_arr (k : Nat) : Builtin.zeroCells (Value.int .u8 0).cells k = (zs k).toArray := by
  rw [← zeroCells_list]
theorem zs_one (k : Nat) : ∀ u ∈ zs k, u.oneCell' = true := by
  intro u hu
  unfold zs at hu
  obtain ⟨_, rfl⟩ := List.mem_replicate.1 hu
  rfl
section
variable {P : Program} (w : World)
theorem run_append_room_zeros (t u ty e : TypeId) (kn : IntKind) (i : TypeInfo) (ht : P.underlying t = some (.slice e)) (hu : P.underlying u = some (.int kn)) (hi : P.info? e = some i) (hs1 : i.size = 1) (hz : i.zero = some (.int .u8 0)) (hby : i.bytes = 1)
    (g sLen sCap : Nat) (cur : Array Value) (hg : w.heap[g]? = some (.cells cur e (0, 0))) (k : Nat) (hk : k ≤ 1000)
    (hroom : sLen + k ≤ sCap) (hfit : sLen + k ≤ cur.size) :
    (Builtin.append_ #[t, u] ty #[.slice (some ⟨g, 0, none⟩) sLen sCap, .int .i64 k]).run P w =
      .ok (.slice (some ⟨g, 0, none⟩) (sLen + k) sCap) (w.setRow g (cur.toList.take sLen ++ zs k ++ cur.toList.drop (sLen + k)).toArray) := by
  have hst := run_storeCells_at P g sLen e (zs k) 0 cur w hg (by simpa [zs_length] using hfit) (zs_one k)
  simp only [Nat.add_zero, zs_length] at hst
  have hw : IntKind.i64.wrap (k : Int) = k := by rw [IntKind.wrap_i64]; omega
  have hneg : ¬ ((k : Int) < 0) := by omega
  have h48i : ¬ (281474976710656 < (k : Int)) := by omega
  by_cases h0 : k = 0
  · subst h0
    have e0 : zs 0 = [] := rfl
    rw [e0] at hst
    have hw0 : IntKind.i64.wrap 0 = 0 := by rw [IntKind.wrap_i64]; decide
    have hroom' : sLen ≤ sCap := by omega
    simp [hw0, hroom', Builtin.append_, run_underlying ht, run_underlying hu, sizeOf, typeInfo, hi, hs1, hby, asInt, asIntOf, Addr.add_lit, hst, e0]
  · simp [Builtin.append_, run_underlying ht, run_underlying hu, sizeOf, typeInfo, zeroValue, hi, hs1, hz, hby, asInt, asIntOf, hw, hneg, h48i, h0, hroom, zeroCells_arr, Addr.add_lit, hst]
theorem run_append_own_zeros (base : Nat) (t u ty e : TypeId) (kn : IntKind) (i : TypeInfo) (ht : P.underlying t = some (.slice e)) (hu : P.underlying u = some (.int kn)) (hi : P.info? e = some i) (hz : i.zero = some (.int .u8 0))
    (hsize : i.size = 1) (hby : i.bytes = 1)
    (v : Value) (n : Nat) (xs : List Value) (hown : w.ownsRow base e 1 v n xs) (hvs : v ≠ .slice none 0 0) (k : Nat) (hk : k ≤ 1000)
    (hn : n ≤ 1000000) (hbase : base ≤ w.heap.size) :
    ∃ v' w', (Builtin.append_ #[t, u] ty #[v, .int .i64 k]).run P w = .ok v' w' ∧ w'.ownsRow base e 1 v' (n + k) (xs ++ zs k) ∧ w.grownBy w' v.ownBlock := by
  have h63 : n + k ≤ maxLen := by unfold maxLen; omega
  have hxl : xs.length = n := by simpa using hown.1
  have hlen : (xs ++ zs k).length = (n + k) * 1 := by rw [List.length_append, hxl, zs_length, Nat.mul_one]
  have grown : ∀ (old : Nat), old < n + k → ∀ (row : Option Nat),
      (w.drew.alloc (.cells (xs.toArray ++ (zs k).toArray ++ Builtin.zeroCells (Value.int .u8 0).cells (grownCap w (n + k) old e - (n + k))) e)).ownsRow base e 1
        (.slice (some ⟨w.heap.size, 0, none⟩) (n + k) (grownCap w (n + k) old e)) (n + k) (xs ++ zs k) ∧
      w.grownBy (w.drew.alloc (.cells (xs.toArray ++ (zs k).toArray ++ Builtin.zeroCells (Value.int .u8 0).cells (grownCap w (n + k) old e - (n + k))) e)) row := by
    intro old ho row
    have hge := grownCap_ge w (n + k) old e
    have hcm : grownCap w (n + k) old e ≤ maxLen := grownCap_le_maxLen w (n + k) old e h63
    refine ⟨⟨hlen, .inr ⟨w.heap.size, _, _, rfl, hbase, heap_alloc_new w.drew _, hge, hcm, ?_, ?_⟩⟩, ⟨rfl, rfl, rfl, by simp, fun _ hk _ => heap_alloc_old w.drew _ hk⟩⟩
    · have hz1 : (Value.int IntKind.u8 0).cells.size = 1 := rfl
      simp only [Array.size_append, List.size_toArray, size_zeroCells, hz1, hxl, zs_length]
      omega
    · simp only [Array.toList_append, List.append_assoc]
      rw [← List.append_assoc, ← hlen]
      exact List.take_left
  rcases hown.2 with ⟨rfl, rfl⟩ | ⟨g, cap, cur, rfl, hbg, hg, hnc, hcm, hcs, htake⟩
  · exact absurd rfl hvs
  · by_cases hroom : n + k ≤ cap
    · have hcs' : cur.size = cap := by simpa using hcs
      have hr := run_append_room_zeros (P := P) w t u ty e kn i ht hu hi hsize hz hby g n cap cur hg k hk hroom (by omega)
      refine ⟨_, _, hr, ⟨hlen, .inr ⟨g, cap, _, rfl, hbg, setRow_heap w g cur _ e _ hg, hroom, hcm, ?_, ?_⟩⟩, ⟨rfl, rfl, rfl, by simp, fun k _ hk => setRow_other w g k _ (fun e => hk (by simp [Value.ownBlock, e]))⟩⟩
      · simp only [List.size_toArray, List.length_append, List.length_take, List.length_drop, Array.length_toList, zs_length]
        omega
      · have ht' : cur.toList.take n = xs := by simpa using htake
        rw [ht', ← hlen]
        exact List.take_left
    · have holds : ∀ j u, xs[j]? = some u → w.cell? ((⟨g, 0, none⟩ : Addr).add j) = some u := hown.cells (g := g) rfl
      have hfo := run_firstCells_some (P := P) w.drew i.size n ⟨g, 0, none⟩ n cap xs (by rw [hsize]; simpa using hxl) (by simpa using holds)
      have hr := Lib.run_append_grow_zeros (P := P) w t u ty e i (.int .u8 0) .i64 kn ht hu hi hz (some ⟨g, 0, none⟩) n cap xs hfo k (by omega) (by omega) (by omega) (by omega) (by rw [hby]; omega) (by rw [hby]; exact growslice_fits (by omega) (by omega))
      have hgr := grown cap (by omega) (Value.ownBlock (.slice (some ⟨g, 0, none⟩) n cap))
      rw [zeroCells_arr k] at hr
      exact ⟨_, _, hr, hgr.1, hgr.2⟩
end
end Go.Proofs.YtcedeipmboekaaaGreatDoor
namespace Go.Proofs.YtcedeipmboekaaaGreatDoor
open Go.RowKit

abbrev boxV (W : World) (k i u : Int) (s : ByteArray) : World := W.alloc (.cells #[.int .i64 k, .int .i64 i, .int .u64 u, .string s] 42)
theorem boxV_below (W : World) (k i u : Int) (s : ByteArray) : Below W.heap.size W (boxV W k i u s) := (Below.refl _ _).alloc (Nat.le_refl _) _
set_option maxHeartbeats 1000000 in
theorem rone_0 (W : World) : Calls Tryz.prog 25 #[.agg #[.int .i64 0, .int .i64 0, .int .u64 0, .string ⟨#[]⟩]] W (OwnBytes W [0]) := by
  unfold OwnBytes
  go_enter Tryz.func25, Tryz.ntmps25
  go_wp2
  go_ret
  refine ⟨_, rfl, ?_, ((boxV_below W 0 0 0 ⟨#[]⟩).alloc (by simp) _)⟩
  have h := own_lit (boxV W 0 0 0 ⟨#[]⟩) W.heap.size 0 (by simp)
  simpa using h
/-- the kind's byte, laid behind the box -/
theorem head_lit (W : World) (k i u : Int) (s : ByteArray) (c : UInt8) : ((W.alloc (.cells #[.int .i64 k, .int .i64 i, .int .u64 u, .string s] 42)).alloc (.cells #[.int .u8 c.toNat] 5)).ownsRow W.heap.size 5 1 (.slice (some ⟨W.heap.size + 1, 0, none⟩) 1 1) 1 (u8s [c]) := by
  have h := own_lit (boxV W k i u s) W.heap.size c (by simp)
  rw [show (boxV W k i u s).heap.size = W.heap.size + 1 by simp] at h
  exact h
theorem head_below (W : World) (k i u : Int) (s : ByteArray) (c : UInt8) : Below W.heap.size W ((W.alloc (.cells #[.int .i64 k, .int .i64 i, .int .u64 u, .string s] 42)).alloc (.cells #[.int .u8 c.toNat] 5)) := (boxV_below W k i u s).alloc (by simp) _
set_option maxHeartbeats 1000000 in
theorem rone_3 (c : UInt8) (hc : c = 0 ∨ c = 1) (W : World) : Calls Tryz.prog 25 #[.agg #[.int .i64 3, .int .i64 c.toNat, .int .u64 0, .string ⟨#[]⟩]] W (OwnBytes W [3, c]) := by
  unfold OwnBytes
  have HL := Lib.hid (head_lit W 3 c.toNat 0 ⟨#[]⟩ 3)
  have HB := Lib.hid (head_below W 3 c.toNat 0 ⟨#[]⟩ 3)
  have h1 := one_lit ((W.alloc (.cells #[.int .i64 3, .int .i64 c.toNat, .int .u64 0, .string ⟨#[]⟩] 42)).alloc (.cells #[.int .u8 (3 : UInt8).toNat] 5)) c
  rw [show ((W.alloc (.cells #[.int .i64 3, .int .i64 c.toNat, .int .u64 0, .string ⟨#[]⟩] 42)).alloc (.cells #[.int .u8 (3 : UInt8).toNat] 5)).heap.size = W.heap.size + 1 + 1 by simp] at h1
  have H1 := Lib.hid h1
  clear h1
  have h2 : c.toNat ≤ 1 := by rcases hc with rfl | rfl <;> decide
  have h2' : (c.toNat : Int) ≤ 1 := by omega
  clear hc
  go_enter Tryz.func25, Tryz.ntmps25
  go_wp2_with (first | (at_builtin; refine wpList_append_bytes rfl _ _ rfl W.heap.size _ _ 1 [3] [c] rfl rfl (HL.out.alloc _) rfl H1.out ?c1 ?c2 ?_))
  case c1 => simp
  case c2 => simp; omega
  intro v2 w2 hown2 hg2
  have hb2 : Below W.heap.size W w2 := (HB.out.alloc HB.out.size _).grown hg2 (by simp; omega) (fun x hx => (HL.out.lt x hx).1)
  have HO := Lib.hid (And.intro hown2 hb2)
  clear hown2 hg2 hb2
  go_wp2
  go_ret
  exact ⟨_, rfl, HO.out.1, HO.out.2⟩
set_option maxHeartbeats 1000000 in
theorem rone_2 (n : Nat) (hn : n < 18446744073709551616) (W : World) : Calls Tryz.prog 25 #[.agg #[.int .i64 2, .int .i64 0, .int .u64 n, .string ⟨#[]⟩]] W (OwnBytes W (2 :: numB n)) := by
  have HL := Lib.hid (head_lit W 2 0 n ⟨#[]⟩ 2)
  have HB := Lib.hid (head_below W 2 0 n ⟨#[]⟩ 2)
  have HN : Hid (∀ W, Calls Tryz.prog 52 #[.int .u64 n] W (OwnBytes W (numB n))) := Lib.hid (rNumber_any n hn)
  have hlen : (numB n).length ≤ 9 := by rw [numB_length]; have := sizeOf8_le n hn; omega
  unfold OwnBytes at HN ⊢
  generalize numB n = L at *
  go_enter Tryz.func25, Tryz.ntmps25
  go_wp2_with fail
  refine (HN.out _).mono ?_
  rintro e w1 ⟨v, rfl, hown, hb⟩
  have hv := BytesOf.own hown
  have hb1 := held_trans HB.out hb
  have HL1 := Lib.hid (own_keepK HL.out hb)
  go_wp2_with (first | (at_builtin; refine wpList_append_bytes rfl _ _ rfl W.heap.size _ v 1 [2] L rfl rfl HL1.out rfl hv ?c1 ?c2 ?_))
  case c1 => omega
  case c2 => exact hb1.size
  intro v2 w2 hown2 hg2
  have hb2 : Below W.heap.size W w2 := hb1.grown hg2 hb1.size (fun x hx => (HL1.out.lt x hx).1)
  have HO := Lib.hid (And.intro hown2 hb2)
  clear hown2 hg2 hb2 hv hown hb
  go_wp2
  go_ret
  exact ⟨_, rfl, HO.out.1, HO.out.2⟩
end Go.Proofs.YtcedeipmboekaaaGreatDoor
namespace Go.Proofs.YtcedeipmboekaaaGreatDoor
open Go.RowKit

theorem own_base {w : World} {B B' : Nat} {e : TypeId} {n : Nat} {v : Value} {xs : List Value} (h : w.ownsRow B e 1 v n xs) (hB : B' ≤ B) : w.ownsRow B' e 1 v n xs :=
  ⟨h.1, h.2.imp id fun ⟨g, cap, cur, h1, h2, h3⟩ => ⟨g, cap, cur, h1, Nat.le_trans hB h2, h3⟩⟩
theorem head_lit1 (W : World) (k i u : Int) (s : ByteArray) (c : UInt8) : ((W.alloc (.cells #[.int .i64 k, .int .i64 i, .int .u64 u, .string s] 42)).alloc (.cells #[.int .u8 c.toNat] 5)).ownsRow (W.heap.size + 1) 5 1 (.slice (some ⟨W.heap.size + 1, 0, none⟩) 1 1) 1 (u8s [c]) := by
  have h := own_lit (boxV W k i u s) (W.heap.size + 1) c (by simp)
  rw [show (boxV W k i u s).heap.size = W.heap.size + 1 by simp] at h
  exact h
theorem xor_u64 (i : Int) (h0 : -9223372036854775808 ≤ i) (h1 : i ≤ 9223372036854775807) : bits .xor .u64 (IntKind.u64.wrap i) 9223372036854775808 = (((i + 9223372036854775808) % 18446744073709551616).toNat : Nat) := by
  rw [IntKind.wrap_u64]
  show IntKind.u64.wrap ((BitVec.ofInt 64 (i % 18446744073709551616) ^^^ BitVec.ofInt 64 9223372036854775808).toNat : Int) = _
  rw [BitVec.toNat_xor, show (BitVec.ofInt 64 9223372036854775808).toNat = 2 ^ 63 by decide, BitVec.toNat_ofInt, IntKind.wrap_u64]
  by_cases hi : i < 0
  · have hn : ((i % 18446744073709551616) % (2 ^ 64 : Nat)).toNat = (i + 18446744073709551616).toNat := by omega
    rw [hn, xor_top_ge _ (by omega) (by omega)]
    omega
  · have hn : ((i % 18446744073709551616) % (2 ^ 64 : Nat)).toNat = i.toNat := by omega
    rw [hn, xor_top_lt _ (by omega)]
    omega
set_option maxRecDepth 100000 in
set_option maxHeartbeats 1000000 in
theorem rone_1 (i : Int) (h0 : -9223372036854775808 ≤ i) (h1 : i ≤ 9223372036854775807) (W : World) : Calls Tryz.prog 25 #[.agg #[.int .i64 1, .int .i64 i, .int .u64 0, .string ⟨#[]⟩]] W (OwnBytes W (1 :: tellL ((i + 9223372036854775808) % 18446744073709551616).toNat 8)) := by
  have hx := xor_u64 i h0 h1
  have hN : ((i + 9223372036854775808) % 18446744073709551616).toNat < 18446744073709551616 := by omega
  generalize ((i + 9223372036854775808) % 18446744073709551616).toNat = n at *
  have HXX := Lib.hid hx
  clear hx
  have HL := Lib.hid (head_lit1 W 1 i 0 ⟨#[]⟩ 1)
  have HB := Lib.hid (head_below W 1 i 0 ⟨#[]⟩ 1)
  have H1 := Lib.hid one_lit
  unfold OwnBytes
  go_enter Tryz.func25, Tryz.ntmps25
  go_wp2
  go_loopw [3, 5] (fun v j wr => ∃ (m : Nat) (cur : List UInt8), m ≤ 8 ∧ j = .int .i64 ((m : Int) - 1) ∧ Hid (cur ++ tellL n m = 1 :: tellL n 8) ∧ Hid (wr.ownsRow (W.heap.size + 1) 5 1 v cur.length (u8s cur)) ∧ Hid (Below W.heap.size W wr) ∧ W.heap.size + 1 ≤ wr.heap.size) (fun _ j _ => (intOf j + 1).toNat)
  case atStart => exact ⟨8, [1], by omega, by simp, Lib.hid rfl, HL, HB, by simp⟩
  case round =>
    obtain ⟨m, cur, hm, rfl, HE, HO, HBW, hsz⟩ := hrel
    have hlen : cur.length + m = 9 := by have h := congrArg List.length HE.out; rw [List.length_append, tellL_length, List.length_cons, tellL_length] at h; omega
    by_cases hm0 : m = 0
    · subst hm0
      have he : cur = 1 :: tellL n 8 := by have h := HE.out; rw [show tellL n 0 = [] from rfl, List.append_nil] at h; exact h
      go_wp2
      go_ret
      refine ⟨_, rfl, ?_, HBW.out⟩
      have h := own_base HO.out (Nat.le_add_right W.heap.size 1)
      rw [he] at h
      exact h
    · obtain ⟨p, rfl⟩ : ∃ p, m = p + 1 := ⟨m - 1, by omega⟩
      rw [show ((p + 1 : Nat) : Int) - 1 = (p : Int) by omega]
      have hb1 := H1.out wr (byteAt n p)
      rw [← shr_byte, show (8 * (p : Int)).toNat = 8 * p by omega, ← HXX.out] at hb1
      have HX := Lib.hid hb1
      have HT := Lib.hid (tell_next HE.out)
      clear hb1
      go_wp2_with (at_builtin; go_loud (refine wpList_append_bytes rfl _ _ rfl (W.heap.size + 1) _ _ cur.length cur [byteAt n p] rfl rfl (HO.out.alloc _) rfl HX.out ?c1 ?c2 ?_))
      case c1 => simp; omega
      case c2 => simp; omega
      intro v2 w2 hown2 hg2
      have hb2 : Below W.heap.size W w2 := (HBW.out.alloc HBW.out.size _).grown hg2 (by simp; omega) (fun x hx => Nat.le_trans (Nat.le_add_right _ 1) (HO.out.lt x hx).1)
      have hs2 : W.heap.size + 1 ≤ w2.heap.size := by have := hg2.size; simp at this; omega
      have HO2 := Lib.hid hown2
      have HB2 := Lib.hid hb2
      clear hown2 hg2 hb2
      go_wp2
      go_roundw
      case rel => exact ⟨p, cur ++ [byteAt n p], by omega, by go_num, HT, Lib.hid (by rw [List.length_append]; exact HO2.out), HB2, hs2⟩
      case measure => simp [intOf]
end Go.Proofs.YtcedeipmboekaaaGreatDoor
namespace Go.Proofs.YtcedeipmboekaaaGreatDoor
open Go.RowKit

theorem str_cells (s : ByteArray) : Lib.strCells s = u8s s.data.toList := rfl
theorem u8s_app (l m : List UInt8) : u8s (l ++ m) = u8s l ++ u8s m := by unfold u8s; rw [List.map_append]
theorem zs_u8s (k : Nat) : zs k = u8s (List.replicate k 0) := by unfold zs u8s; rw [List.map_replicate]; rfl
theorem uStr : Tryz.prog.underlying 9 = some .string := Tryz.underlying9
/-- append(own, s...) of a text -/
theorem wpList_append_text {w : World} {ops : Array Oper} {rest : List Oper} {o : Oper} {a : Act} {Q : Exit → Act → World → Prop} (hgd : o.guard = none) (s x : Operand)
    (ho : o.op = .call { callee := .builtin .append, args := #[s, x], argTypes := #[55, 9] })
    (base : Nat) (v : Value) (n : Nat) (l : List UInt8) (t : ByteArray) (hs : a.eval s = v) (hx : a.eval x = .string t) (hown : w.ownsRow base 5 1 v n (u8s l)) (hn : n = l.length)
    (hvs : v ≠ .slice none 0 0) (hlen : n + t.size ≤ 1000000) (hbase : base ≤ w.heap.size)
    (h : ∀ v' w', w'.ownsRow base 5 1 v' (l ++ t.data.toList).length (u8s (l ++ t.data.toList)) → w.grownBy w' v.ownBlock → v' ≠ .slice none 0 0 → wpList Tryz.prog ops Q rest (a.put o.dst v') w') : wpList Tryz.prog ops Q (o :: rest) a w := by
  subst hn
  obtain ⟨i0, hi0, hz0, hz1, hz2⟩ := info_parts infoU8
  refine Lib.wpList_append_own_string w hgd s x 55 9 ho base 5 i0 Tryz.underlying55 uStr hi0 hz0 hz1 hz2 v l.length (u8s l) hs hown t hx (by unfold maxLen; omega) (by omega) hbase fun v' w' h1 h2 h3 => h v' w' ?_ h2 (fun e => hvs (h3.1 e).1)
  rw [List.length_append, u8s_app]
  exact h1
/-- append(own, make([]byte, k)...) -/
theorem wpList_append_zeros {w : World} {ops : Array Oper} {rest : List Oper} {o : Oper} {a : Act} {Q : Exit → Act → World → Prop} (hgd : o.guard = none) (s x : Operand)
    (ho : o.op = .call { callee := .builtin .append, args := #[s, x], argTypes := #[55, 3] })
    (base : Nat) (v : Value) (n : Nat) (l : List UInt8) (k : Nat) (hs : a.eval s = v) (hx : a.eval x = .int .i64 k) (hown : w.ownsRow base 5 1 v n (u8s l)) (hn : n = l.length) (hvs : v ≠ .slice none 0 0)
    (hlen : n ≤ 1000000) (hk : k ≤ 1000) (hbase : base ≤ w.heap.size)
    (h : ∀ v' w', w'.ownsRow base 5 1 v' (l ++ List.replicate k 0).length (u8s (l ++ List.replicate k 0)) → w.grownBy w' v.ownBlock → wpList Tryz.prog ops Q rest (a.put o.dst v') w') : wpList Tryz.prog ops Q (o :: rest) a w := by
  subst hn
  obtain ⟨i0, hi0, hz0, hz1, hz2⟩ := info_parts infoU8
  obtain ⟨v', w', hr, h1, h2⟩ := run_append_own_zeros (P := Tryz.prog) w base 55 3 o.type 5 .i64 i0 Tryz.underlying55 Tryz.underlying3 hi0 hz0 hz1 hz2 v l.length (u8s l) hown hvs k hk hlen hbase
  refine Lib.wpList_append_run w hgd s x 55 3 ho v (.int .i64 k) hs hx v' w' hr (h v' w' ?_ h2)
  rw [List.length_append, List.length_replicate, u8s_app, ← zs_u8s]
  exact h1
set_option maxRecDepth 100000 in
set_option maxHeartbeats 2000000 in
theorem rone_4 (s : ByteArray) (hs : s.size ≤ 200) (W : World) : Calls Tryz.prog 25 #[.agg #[.int .i64 4, .int .i64 0, .int .u64 0, .string s]] W (OwnBytes W (4 :: grpB s.data.toList)) := by
  have hl : s.data.toList.length = s.size := by simp
  have HL := Lib.hid (head_lit1 W 4 0 0 s 4)
  have HB0 : Hid (Below W.heap.size W (W.alloc (.cells #[.int .i64 4, .int .i64 0, .int .u64 0, .string s] 42))) := Lib.hid (boxV_below W 4 0 0 s)
  have HB : Hid (Below (W.heap.size + 1) (W.alloc (.cells #[.int .i64 4, .int .i64 0, .int .u64 0, .string s] 42)) ((W.alloc (.cells #[.int .i64 4, .int .i64 0, .int .u64 0, .string s] 42)).alloc (.cells #[.int .u8 (4 : UInt8).toNat] 5))) := Lib.hid ((Below.refl _ _).alloc (by simp) _)
  have HK : Hid (∀ w', Below (W.heap.size + 1) (W.alloc (.cells #[.int .i64 4, .int .i64 0, .int .u64 0, .string s] 42)) w' → w'.cell? ⟨W.heap.size, 3, none⟩ = some (.string s)) := Lib.hid (fun w' hb => by rw [hb.cell (by simp)]; simp [go_sem])
  have H1 := Lib.hid one_lit
  have HL2 := Lib.hid hl
  obtain ⟨l, hll⟩ : ∃ l, s.data.toList = l := ⟨_, rfl⟩
  have HLL := Lib.hid hll
  rw [hll] at HL2 hl ⊢
  clear hll
  unfold OwnBytes
  go_enter Tryz.func25, Tryz.ntmps25
  go_wp2
  go_loopw [3, 6] (fun v j wr => ∃ (at_ : Nat) (cur : List UInt8), at_ ≤ s.size ∧ j = .int .i64 (at_ : Int) ∧ 1 ≤ cur.length ∧ cur.length ≤ 1 + 2 * at_ ∧ Hid (cur ++ grpB (l.drop at_) = 4 :: grpB l) ∧ Hid (wr.ownsRow (W.heap.size + 1) 5 1 v cur.length (u8s cur)) ∧ Hid (Below (W.heap.size + 1) (W.alloc (.cells #[.int .i64 4, .int .i64 0, .int .u64 0, .string s] 42)) wr) ∧ W.heap.size + 1 ≤ wr.heap.size) (fun _ j _ => s.size - (intOf j).toNat)
  case atStart => exact ⟨0, [4], by omega, by simp, by simp, by simp, Lib.hid rfl, HL, HB, by simp⟩
  case round =>
    obtain ⟨q, cur, hq, rfl, hc1, hc2, HE, HO, HBW, hsz⟩ := hrel
    have k3 := HK.out wr HBW.out
    have hne : u3 ≠ .slice none 0 0 := by
      rintro rfl
      have h := HO.out
      rcases h.2 with ⟨_, h0⟩ | ⟨g, cap, cu, e, _⟩
      · omega
      · cases e
    by_cases hmore : q + 8 < s.size
    · have hmin : min 8 ((s.size : Int) - (q : Int)) = 8 := by omega
      have HT : Hid (((cur ++ (l.drop q).take 8) ++ [9]) ++ grpB (l.drop (q + 8)) = 4 :: grpB l) := Lib.hid (by
        have h := HE.out
        rw [grpB_more (by rw [List.length_drop, hl]; omega), List.drop_drop] at h
        rw [← h]
        simp)
      have hex : (s.extract q (q + 8)).data.toList = (l.drop q).take 8 := by rw [extract_cut]; simp [cutS, HLL.out]
      have HEX := Lib.hid hex
      have hexs : (s.extract q (q + 8)).size ≤ 8 := by
        show (s.extract q (q + 8)).data.size ≤ 8
        rw [← Array.length_toList, hex, List.length_take]
        omega
      clear hex
      go_wp2_with (at_builtin; go_loud (refine wpList_append_text rfl _ _ rfl (W.heap.size + 1) _ cur.length cur (s.extract q (q + 8)) rfl rfl HO.out rfl hne ?c1 ?c2 ?_))
      case c1 => omega
      case c2 => omega
      intro v2 w2 hown2 hg2 hne2
      replace hown2 : (w2.ownsRow (W.heap.size + 1) 5 1 v2 (cur ++ (l.drop q).take 8).length (u8s (cur ++ (l.drop q).take 8))) := by
        have h := hown2
        rw [HLL.out] at h
        rw [List.length_append, List.length_take, List.length_drop, hl]
        exact h
      have hb2 : Below (W.heap.size + 1) (W.alloc (.cells #[.int .i64 4, .int .i64 0, .int .u64 0, .string s] 42)) w2 := HBW.out.grown hg2 hsz (fun x hx => (HO.out.lt x hx).1)
      have hs2 : W.heap.size + 1 ≤ w2.heap.size := Nat.le_trans hsz hg2.size
      have HO2 := Lib.hid hown2
      have HB2 := Lib.hid hb2
      clear hown2 hg2 hb2
      go_wp2_with (at_builtin; go_loud (refine wpList_append_zeros rfl _ _ rfl (W.heap.size + 1) _ _ _ 0 rfl rfl HO2.out rfl hne2 ?d1 ?d2 ?d3 ?_))
      case d1 => rw [List.length_append, List.length_take]; omega
      case d2 => omega
      case d3 => exact hs2
      intro v3 w3 hown3 hg3
      replace hown3 : (w3.ownsRow (W.heap.size + 1) 5 1 v3 (cur ++ (l.drop q).take 8).length (u8s (cur ++ (l.drop q).take 8))) := by
        rw [List.length_append, List.length_take, List.length_drop, hl]
        simpa [hl] using hown3
      have hb3 : Below (W.heap.size + 1) (W.alloc (.cells #[.int .i64 4, .int .i64 0, .int .u64 0, .string s] 42)) w3 := HB2.out.grown hg3 hs2 (fun x hx => (HO2.out.lt x hx).1)
      have hs3 : W.heap.size + 1 ≤ w3.heap.size := Nat.le_trans hs2 hg3.size
      have k3' := HK.out w3 hb3
      have HO3 := Lib.hid hown3
      have HB3 := Lib.hid hb3
      have HX := Lib.hid (H1.out w3 9)
      clear hown3 hg3 hb3
      go_wp2_with (at_builtin; go_loud (refine wpList_append_bytes rfl _ _ rfl (W.heap.size + 1) _ _ _ _ [9] rfl rfl (HO3.out.alloc _) rfl HX.out ?e1 ?e2 ?_))
      case e1 => rw [List.length_append, List.length_take]; simp; omega
      case e2 => simp; omega
      intro v4 w4 hown4 hg4
      have hb4 : Below (W.heap.size + 1) (W.alloc (.cells #[.int .i64 4, .int .i64 0, .int .u64 0, .string s] 42)) w4 := (HB3.out.alloc hs3 _).grown hg4 (by simp; omega) (fun x hx => (HO3.out.lt x hx).1)
      have hs4 : W.heap.size + 1 ≤ w4.heap.size := by have := hg4.size; simp at this; omega
      have HO4 : Hid (w4.ownsRow (W.heap.size + 1) 5 1 v4 (cur ++ (l.drop q).take 8 ++ [9]).length (u8s (cur ++ (l.drop q).take 8 ++ [9]))) := Lib.hid (by
        rw [List.length_append, List.length_append, List.length_take, List.length_drop, hl]
        simpa [hl, Nat.add_assoc] using hown4)
      have HB4 := Lib.hid hb4
      clear hown4 hg4 hb4
      have HCL : Hid ((cur ++ (l.drop q).take 8 ++ [9]).length ≤ 1 + 2 * (q + 8)) := Lib.hid (by rw [List.length_append, List.length_append, List.length_take]; simp; omega)
      go_wp2
      go_roundw
      case rel => exact ⟨q + 8, cur ++ (l.drop q).take 8 ++ [9], by omega, by go_num, by rw [List.length_append]; simp, HCL.out, HT, Lib.hid (by have h := HO4.out; exact h), HB4, hs4⟩
      case measure => simp [intOf]; omega
    · obtain ⟨n, hn⟩ : ∃ n : Nat, (s.size : Int) - (q : Int) = n := ⟨s.size - q, by omega⟩
      have hmin : min 8 (n : Int) = n := by omega
      obtain ⟨z, hz⟩ : ∃ z : Nat, 8 - (n : Int) = z := ⟨8 - n, by omega⟩
      have HNQ : Hid (n = s.size - q) := Lib.hid (by omega)
      have HZN : Hid (z = 8 - n) := Lib.hid (by omega)
      have hqn : (q : Int) + (n : Int) = (s.size : Int) := by omega
      have HT : Hid (cur ++ l.drop q ++ List.replicate z 0 ++ [UInt8.ofNat n] = 4 :: grpB l) := Lib.hid (by
        have h := HE.out
        have hd : (l.drop q).length = n := by rw [List.length_drop, hl, HNQ.out]
        rw [grpB_small (by omega)] at h
        unfold lastG at h
        rw [hd] at h
        rw [← h, HZN.out]
        simp only [List.append_assoc])
      have hn9 : ((UInt8.ofNat n).toNat : Int) = n := by
        rw [UInt8.toNat_ofNat']
        omega
      have hn8 : (n : Int) ≤ 8 := by omega
      have hex : (s.extract q s.size).data.toList = l.drop q := by
        rw [show s.size = q + (s.size - q) by omega, extract_cut]
        simp only [cutS, HLL.out]
        rw [List.take_of_length_le (by rw [List.length_drop]; omega)]
      have HEX := Lib.hid hex
      have hexs : (s.extract q s.size).size ≤ 8 := by
        show (s.extract q s.size).data.size ≤ 8
        rw [← Array.length_toList, hex, List.length_drop]
        omega
      have HN9 := Lib.hid hn9
      clear hex hn9
      go_wp2_with (at_builtin; go_loud (refine wpList_append_text rfl _ _ rfl (W.heap.size + 1) _ cur.length cur (s.extract q s.size) rfl rfl HO.out rfl hne ?c1 ?c2 ?_))
      case c1 => omega
      case c2 => omega
      intro v2 w2 hown2 hg2 hne2
      replace hown2 : (w2.ownsRow (W.heap.size + 1) 5 1 v2 (cur ++ l.drop q).length (u8s (cur ++ l.drop q))) := by
        rw [List.length_append, List.length_drop, hl]
        have ht : (l.drop q).take (s.size - q) = l.drop q := List.take_of_length_le (by rw [List.length_drop, hl]; exact Nat.le_refl _)
        simpa [hl, HLL.out, ht] using hown2
      have hb2 : Below (W.heap.size + 1) (W.alloc (.cells #[.int .i64 4, .int .i64 0, .int .u64 0, .string s] 42)) w2 := HBW.out.grown hg2 hsz (fun x hx => (HO.out.lt x hx).1)
      have hs2 : W.heap.size + 1 ≤ w2.heap.size := Nat.le_trans hsz hg2.size
      have HO2 := Lib.hid hown2
      have HB2 := Lib.hid hb2
      clear hown2 hg2 hb2
      go_wp2_with (at_builtin; go_loud (refine wpList_append_zeros rfl _ _ rfl (W.heap.size + 1) _ _ _ z rfl rfl HO2.out rfl hne2 ?d1 ?d2 ?d3 ?_))
      case d1 => rw [List.length_append, List.length_drop]; omega
      case d2 => omega
      case d3 => exact hs2
      intro v3 w3 hown3 hg3
      replace hown3 : (w3.ownsRow (W.heap.size + 1) 5 1 v3 (cur ++ l.drop q ++ List.replicate z 0).length (u8s (cur ++ l.drop q ++ List.replicate z 0))) := by
        rw [List.length_append, List.length_append, List.length_drop, List.length_replicate, hl]
        simpa [hl, Nat.add_assoc] using hown3
      have hb3 : Below (W.heap.size + 1) (W.alloc (.cells #[.int .i64 4, .int .i64 0, .int .u64 0, .string s] 42)) w3 := HB2.out.grown hg3 hs2 (fun x hx => (HO2.out.lt x hx).1)
      have hs3 : W.heap.size + 1 ≤ w3.heap.size := Nat.le_trans hs2 hg3.size
      have k3' := HK.out w3 hb3
      have HO3 := Lib.hid hown3
      have HB3 := Lib.hid hb3
      have hx9 := H1.out w3 (UInt8.ofNat n)
      rw [HN9.out] at hx9
      have HX := Lib.hid hx9
      clear hown3 hg3 hb3 hx9
      go_wp2_with (at_builtin; go_loud (refine wpList_append_bytes rfl _ _ rfl (W.heap.size + 1) _ _ _ _ [UInt8.ofNat n] rfl rfl (HO3.out.alloc _) rfl HX.out ?e1 ?e2 ?_))
      case e1 => rw [List.length_append, List.length_append, List.length_drop, List.length_replicate]; simp; omega
      case e2 => simp; omega
      intro v4 w4 hown4 hg4
      have hb4 : Below (W.heap.size + 1) (W.alloc (.cells #[.int .i64 4, .int .i64 0, .int .u64 0, .string s] 42)) w4 := (HB3.out.alloc hs3 _).grown hg4 (by simp; omega) (fun x hx => (HO3.out.lt x hx).1)
      have HO4 : Hid (w4.ownsRow W.heap.size 5 1 v4 (4 :: grpB l).length (u8s (4 :: grpB l))) := Lib.hid (by
        rw [← HT.out]
        rw [List.length_append, List.length_append, List.length_append, List.length_drop, List.length_replicate, hl]
        simpa [hl, Nat.add_assoc] using own_base hown4 (Nat.le_add_right W.heap.size 1))
      have HB4 := Lib.hid (HB0.out.trans (hb4.mono (Nat.le_add_right W.heap.size 1)))
      clear hown4 hg4 hb4
      go_wp2
      go_ret
      exact ⟨_, rfl, HO4.out, HB4.out⟩
/-- a value that may be: its key's bytes -/
theorem rone_any (v : Vl) (h : VOk v) (W : World) : Calls Tryz.prog 25 #[.agg #[.int .i64 v.k, .int .i64 v.i, .int .u64 v.u, .string v.s]] W (OwnBytes W (keyB v)) := by
  have i0 := h.i0
  have i1 := h.i1
  have u0 := h.u0
  have u1 := h.u1
  rcases chk_forms h.c with rfl | ⟨i, rfl⟩ | ⟨u, rfl⟩ | rfl | rfl | ⟨s, rfl, hs⟩
  · rw [keyB_0]
    exact rone_0 W
  · rw [keyB_i]
    exact rone_1 i i0 i1 W
  · rw [keyB_u]
    obtain ⟨n, rfl⟩ := Int.eq_ofNat_of_zero_le u0
    exact rone_2 n (by simp at u1; omega) W
  · rw [keyB_b]
    exact rone_3 0 (.inl rfl) W
  · rw [keyB_b]
    exact rone_3 1 (.inr rfl) W
  · rw [keyB_s]
    exact rone_4 s (by omega) W
end Go.Proofs.YtcedeipmboekaaaGreatDoor
namespace Go.Proofs.YtcedeipmboekaaaGreatDoor
open Go.RowKit

theorem keyB_le {v : Vl} (h : VOk v) : (keyB v).length ≤ 1000 := by
  have h1 := keyRest_len h
  rw [keyB_rest h, List.length_append]
  simp
  omega
theorem own_bytes {W w' : World} {v : Value} {l : List UInt8} (h : w'.ownsRow W.heap.size 5 1 v l.length (u8s l)) : (convert 55 9 v).run Tryz.prog w' = .ok (.string ⟨l.toArray⟩) w' := bytes_string (BytesOf.own h).at
set_option maxRecDepth 100000 in
set_option maxHeartbeats 2000000 in
theorem rqEncode_any (oa : Option Addr) (cap : Nat) (vs : List Vl) (w : World) (hv : ValsK w oa vs) (hN : ∀ v ∈ vs, InN v) (hl : vs.length ≤ 9223372036854775807) :
    Calls Tryz.prog 11 #[.slice oa vs.length cap] w fun e w' => e = .returned (.tuple #[.string (encTx vs), .int .i64 (encNo vs)]) ∧ Below w.heap.size w w' := by
  have HV := Lib.hid hv
  have HN := Lib.hid hN
  clear hv hN
  go_enter Tryz.func11, Tryz.ntmps11
  go_wp2_with fail
  go_loopw [4, 5] (fun x i wr => ∃ (k : Nat) (t : ByteArray), k ≤ vs.length ∧ i = .int .i64 k ∧ x = .string t ∧ t.size ≤ 3000 ∧ Hid (Below w.heap.size w wr) ∧ Hid (∀ j (h : j < vs.length), j < k → vs[j].chk = 0) ∧ Hid (t.data.toList = keyL (vs.take k) ∨ (2000 < t.size ∧ 2000 < (keyL (vs.take k)).length))) (fun _ i _ => vs.length - (intOf i).toNat)
  case atStart => exact ⟨0, ⟨#[]⟩, Nat.zero_le _, rfl, rfl, by decide, Lib.hid (Below.refl _ _), Lib.hid (fun j h hj => by omega), Lib.hid (.inl rfl)⟩
  case round =>
    obtain ⟨k, t, hk, rfl, rfl, ht, HB, H0, HT⟩ := hrel
    by_cases hlt : k < vs.length
    · obtain ⟨a, rfl, hc⟩ := (HV.out.keep HB.out (Nat.le_refl _)) k hlt
      obtain ⟨c0, c1, c2, c3⟩ := hc
      have HC := Lib.hid (fun W => rCheck_any vs[k].k vs[k].i vs[k].u vs[k].s W)
      obtain ⟨c, hcc⟩ : ∃ c, vs[k].chk = c := ⟨_, rfl⟩
      have HCC := Lib.hid hcc
      have hcc2 : chk vs[k].k vs[k].i vs[k].u vs[k].s = c := hcc
      rw [hcc2] at HC
      clear hcc hcc2
      have HIN := Lib.hid (HN.out _ (List.getElem_mem hlt))
      have HKT := Lib.hid (keyL_take hlt)
      by_cases h0 : c = 0
      · subst h0
        have hok : VOk vs[k] := ⟨HCC.out, HIN.out.i0, HIN.out.i1, HIN.out.u0, HIN.out.u1⟩
        have HON := Lib.hid (fun W => rone_any vs[k] hok W)
        have hkl := keyB_le hok
        obtain ⟨L, hL⟩ : ∃ L, keyB vs[k] = L := ⟨_, rfl⟩
        rw [hL] at HON HKT hkl
        clear hok hL
        have H0' : Hid (∀ j (h : j < vs.length), j < k + 1 → vs[j].chk = 0) := Lib.hid (fun j h hj => by
          rcases Nat.lt_or_ge j k with h2 | h2
          · exact H0.out j h h2
          · obtain rfl : j = k := by omega
            exact HCC.out)
        unfold OwnBytes at HON
        by_cases hs : t.size ≤ 2000
        · go_wp2_with fail
          refine (HC.out _).mono ?_
          rintro e w1 ⟨rfl, hb1⟩
          have HB1 := Lib.hid (held_trans HB.out hb1)
          have d0 := hb1.cell (World.block_lt_of_cell? wr _ c0) |>.trans c0
          have d1 := hb1.cell (World.block_lt_of_cell? wr _ c1) |>.trans c1
          have d2 := hb1.cell (World.block_lt_of_cell? wr _ c2) |>.trans c2
          have d3 := hb1.cell (World.block_lt_of_cell? wr _ c3) |>.trans c3
          clear hb1 c0 c1 c2 c3
          go_wp2_with fail
          refine (HON.out _).mono ?_
          rintro e w2 ⟨v2, rfl, hown, hb2⟩
          have hcv := own_bytes hown
          have HB2 := Lib.hid (held_trans HB1.out hb2)
          have hls : (⟨L.toArray⟩ : ByteArray).size ≤ 1000 := by show L.toArray.size ≤ 1000; simpa using hkl
          have HLS : Hid ((⟨L.toArray⟩ : ByteArray).data.toList = L) := Lib.hid rfl
          obtain ⟨y, hy⟩ : ∃ y : ByteArray, ⟨L.toArray⟩ = y := ⟨_, rfl⟩
          rw [hy] at hcv hls HLS
          clear hown hb2 hy d0 d1 d2 d3
          have hsz : (t ++ y).size ≤ 3000 := by rw [ByteArray.size_append]; omega
          have HTY : Hid ((t ++ y).data.toList = keyL (vs.take (k + 1)) ∨ (2000 < (t ++ y).size ∧ 2000 < (keyL (vs.take (k + 1))).length)) := Lib.hid (by
            rcases HT.out with h | ⟨h, _⟩
            · left
              rw [HKT.out, ← h, ← HLS.out]
              simp
            · omega)
          go_wp2_with fail
          go_roundw
          case rel => exact ⟨k + 1, t ++ y, by omega, by go_num, rfl, hsz, HB2, H0', HTY⟩
          case measure => simp [intOf]; omega
        · have HTY : Hid (t.data.toList = keyL (vs.take (k + 1)) ∨ (2000 < t.size ∧ 2000 < (keyL (vs.take (k + 1))).length)) := Lib.hid (by
            right
            rw [HKT.out, List.length_append]
            rcases HT.out with h | ⟨h, h2⟩
            · have hz : t.data.toList.length = t.size := by simp
              rw [h] at hz
              omega
            · omega)
          go_wp2_with fail
          refine (HC.out _).mono ?_
          rintro e w1 ⟨rfl, hb1⟩
          have HB1 := Lib.hid (held_trans HB.out hb1)
          clear hb1 c0 c1 c2 c3
          go_wp2_with fail
          go_roundw
          case rel => exact ⟨k + 1, t, by omega, by go_num, rfl, ht, HB1, H0', HTY⟩
          case measure => simp [intOf]; omega
      · have HE := Lib.hid (firstE_at hlt (fun j h => H0.out j (by omega) h) (by rw [HCC.out]; exact h0))
        go_wp2_with fail
        refine (HC.out _).mono ?_
        rintro e w1 ⟨rfl, hb1⟩
        have HB1 := Lib.hid (held_trans HB.out hb1)
        clear hb1
        go_wp2_with fail
        go_ret2
        have e1 : encNo vs = c := by unfold encNo; rw [HE.out, HCC.out, if_pos h0]
        have e2 : encTx vs = ⟨#[]⟩ := by unfold encTx; rw [e1, if_neg h0]
        rw [e1, e2]
        exact ⟨rfl, HB1.out⟩
    · obtain rfl : k = vs.length := by omega
      have h00 := firstE_all (l := vs) (fun j h => H0.out j h h)
      have hT := HT.out
      rw [List.take_length] at hT
      have hz : t.data.toList.length = t.size := by simp
      by_cases hs : t.size ≤ 2000
      · have hT1 : t.data.toList = keyL vs := by rcases hT with h | h; (· exact h); (· omega)
        have e1 : encNo vs = 0 := by unfold encNo; rw [h00]; rw [hT1] at hz; simp; omega
        have e2 : encTx vs = t := by
          unfold encTx
          rw [e1, if_pos rfl, ← hT1]
        have E1 := Lib.hid e1
        have E2 := Lib.hid e2
        clear hT hT1 h00 hz e1 e2
        go_wp2_with fail
        go_ret2
        rw [E1.out, E2.out]
        exact ⟨rfl, HB.out⟩
      · have hk2 : 2000 < (keyL vs).length := by
          rcases hT with h | h
          · rw [h] at hz; omega
          · exact h.2
        have e1 : encNo vs = 3 := by unfold encNo; rw [h00]; simp [hk2]
        have e2 : encTx vs = ⟨#[]⟩ := by unfold encTx; rw [e1]; rfl
        have E1 := Lib.hid e1
        have E2 := Lib.hid e2
        clear hT h00 hz hk2 e1 e2
        go_wp2_with fail
        go_ret2
        rw [E1.out, E2.out]
        exact ⟨rfl, HB.out⟩
end Go.Proofs.YtcedeipmboekaaaGreatDoor
