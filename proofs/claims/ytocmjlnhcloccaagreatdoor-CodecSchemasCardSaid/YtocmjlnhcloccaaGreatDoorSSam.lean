/-
  swingbridgeref03.Same.
-/
import Derived.Test.YtocmjlnhcloccaaGreatDoorSSch
import Derived.Deep.RegionHeld3
import Derived.Deep.RegionWith
namespace Go.Proofs.YtocmjlnhcloccaaGreatDoor
open Go.RowKit

def allEq {α : Type} (p : α → α → Bool) : List α → List α → Bool
  | [], [] => true
  | x :: l, y :: m => p x y && allEq p l m
  | _, _ => false
theorem allEq_len {α : Type} {p : α → α → Bool} : ∀ {l m : List α}, l.length ≠ m.length → allEq p l m = false
  | [], [], h => absurd rfl h
  | [], _ :: _, _ => rfl
  | _ :: _, [], _ => rfl
  | x :: l, y :: m, h => by
    show (p x y && allEq p l m) = false
    rw [allEq_len (fun e => h (by simp [e])), Bool.and_false]
theorem allEq_refl {α : Type} {p : α → α → Bool} (h : ∀ x, p x x = true) : ∀ l : List α, allEq p l l = true
  | [] => rfl
  | x :: l => by show (p x x && allEq p l l) = true; rw [h, allEq_refl h l]; rfl
theorem allEq_symm {α : Type} {p : α → α → Bool} (h : ∀ x y, p x y = p y x) : ∀ l m : List α, allEq p l m = allEq p m l
  | [], [] => rfl
  | [], _ :: _ => rfl
  | _ :: _, [] => rfl
  | x :: l, y :: m => by show (p x y && allEq p l m) = (p y x && allEq p m l); rw [h x y, allEq_symm h l m]
def ERel {α : Type} (p : α → α → Bool) (l m : List α) (k : Nat) : Prop := allEq p l m = allEq p (l.drop k) (m.drop k)
theorem ERel.zero {α : Type} (p : α → α → Bool) (l m : List α) : ERel p l m 0 := rfl
theorem ERel.step {α : Type} {p : α → α → Bool} {l m : List α} {k : Nat} {x y : α} (h : ERel p l m k) (hl : k < l.length) (hm : k < m.length) (hx : l[k] = x) (hy : m[k] = y) : allEq p l m = (p x y && allEq p (l.drop (k + 1)) (m.drop (k + 1))) := by
  unfold ERel at h
  rw [h, List.drop_eq_getElem_cons hl, List.drop_eq_getElem_cons hm, hx, hy]
  rfl
theorem ERel.next {α : Type} {p : α → α → Bool} {l m : List α} {k : Nat} {x y : α} (h : ERel p l m k) (hl : k < l.length) (hm : k < m.length) (hx : l[k] = x) (hy : m[k] = y) (h0 : p x y = true) : ERel p l m (k + 1) := by
  unfold ERel
  rw [h.step hl hm hx hy, h0, Bool.true_and]
theorem ERel.hit {α : Type} {p : α → α → Bool} {l m : List α} {k : Nat} {x y : α} (h : ERel p l m k) (hl : k < l.length) (hm : k < m.length) (hx : l[k] = x) (hy : m[k] = y) (h0 : p x y = false) : allEq p l m = false := by
  rw [h.step hl hm hx hy, h0, Bool.false_and]
theorem ERel.done {α : Type} {p : α → α → Bool} {l m : List α} {k : Nat} (h : ERel p l m k) (hl : l.length ≤ k) (hm : m.length ≤ k) : allEq p l m = true := by
  unfold ERel at h
  rw [h, List.drop_eq_nil_of_le hl, List.drop_eq_nil_of_le hm]
  rfl

/-- are two columns the same? -/
def colB (c d : Col) : Bool := c.n.toList == d.n.toList && (c.t == d.t && (c.z == d.z && c.u == d.u))
def intB (x y : Int) : Bool := x == y
def intsB (l m : List Int) : Bool := allEq intB l m
/-- are two schemas the same? -/
def sameB (S T : Sch) : Bool := allEq colB S.cols T.cols && (intsB S.key T.key && allEq intsB S.uqs T.uqs)
theorem colB_refl (c : Col) : colB c c = true := by simp [colB]
theorem colB_symm (c d : Col) : colB c d = colB d c := by
  unfold colB
  rw [Bool.eq_iff_iff]
  simp only [Bool.and_eq_true, beq_iff_eq]
  constructor <;> (rintro ⟨h1, h2, h3, h4⟩; exact ⟨h1.symm, h2.symm, h3.symm, h4.symm⟩)
theorem intB_refl (x : Int) : intB x x = true := by simp [intB]
theorem intB_symm (x y : Int) : intB x y = intB y x := by
  unfold intB
  rw [Bool.eq_iff_iff, beq_iff_eq, beq_iff_eq]
  exact ⟨Eq.symm, Eq.symm⟩
theorem intsB_refl (l : List Int) : intsB l l = true := allEq_refl intB_refl l
theorem intsB_symm (l m : List Int) : intsB l m = intsB m l := allEq_symm intB_symm l m
theorem sameB_refl (S : Sch) : sameB S S = true := by
  unfold sameB
  rw [allEq_refl colB_refl, intsB_refl, allEq_refl intsB_refl]
  rfl
theorem sameB_symm (S T : Sch) : sameB S T = sameB T S := by
  unfold sameB
  rw [allEq_symm colB_symm, intsB_symm, allEq_symm intsB_symm]

theorem run_eql_col (n : ByteArray) (t z : Int) (u : Bool) (n' : ByteArray) (t' z' : Int) (u' : Bool) (w : World) :
    (binOp .eql 64 (.agg #[.string n, .int .i64 t, .int .i64 z, .bool u]) (.agg #[.string n', .int .i64 t', .int .i64 z', .bool u'])).run Tryz.prog w = .ok (.bool (colB ⟨n, t, z, u⟩ ⟨n', t', z', u'⟩)) w := by
  unfold colB
  cases h1 : n.toList == n'.toList <;> cases h2 : t == t' <;> cases h3 : z == z' <;> cases h4 : u == u' <;> (go_simp; try simp [h1, h2, h3, h4])
theorem run_neq_col (n : ByteArray) (t z : Int) (u : Bool) (n' : ByteArray) (t' z' : Int) (u' : Bool) (w : World) :
    (binOp .neq 64 (.agg #[.string n, .int .i64 t, .int .i64 z, .bool u]) (.agg #[.string n', .int .i64 t', .int .i64 z', .bool u'])).run Tryz.prog w = .ok (.bool (!colB ⟨n, t, z, u⟩ ⟨n', t', z', u'⟩)) w := by
  unfold colB
  cases h1 : n.toList == n'.toList <;> cases h2 : t == t' <;> cases h3 : z == z' <;> cases h4 : u == u' <;> (go_simp; try simp [h1, h2, h3, h4])

end Go.Proofs.YtocmjlnhcloccaaGreatDoor
namespace Go.Proofs.YtocmjlnhcloccaaGreatDoor
open Go.RowKit

set_option maxRecDepth 100000 in
set_option maxHeartbeats 2000000 in
theorem rInts_any (oa ob : Option Addr) (ca cb : Nat) (l m : List Int) (w : World) (hl : l.length ≤ 1000) (_hm : m.length ≤ 1000) (hc : IntsIn w oa l) (hd : IntsIn w ob m) :
    Calls Tryz.prog 57 #[.slice oa l.length ca, .slice ob m.length cb] w fun e w' => e = .returned (.bool (intsB l m)) ∧ Below w.heap.size w w' := by
  by_cases hlen : l.length = m.length
  · have hne : ((l.length : Int) != (m.length : Int)) = false := by rw [hlen]; simp
    have HLEN := Lib.hid hlen
    clear hlen
    have HC := Lib.hid hc
    have HD := Lib.hid hd
    clear hc hd
    go_enter Tryz.func57, Tryz.ntmps57
    go_wp2
    go_loopw [5] (fun i wr => ∃ k : Nat, k ≤ l.length ∧ i = .int .i64 k ∧ Hid (ERel intB l m k) ∧ Hid (Below w.heap.size w wr)) (fun i _ => l.length - (intOf i).toNat)
    case atStart => exact ⟨0, Nat.zero_le _, rfl, Lib.hid (ERel.zero _ _ _), Lib.hid (Below.refl _ _)⟩
    case round =>
      obtain ⟨k, hk, rfl, HK, HB⟩ := hrel
      by_cases hlt : k < l.length
      · have hlm : k < m.length := by have := HLEN.out; omega
        obtain ⟨a, rfl, ha⟩ := HC.out.keep HB.out (Nat.le_refl _) k hlt
        obtain ⟨b, rfl, hb⟩ := HD.out.keep HB.out (Nat.le_refl _) k hlm
        obtain ⟨x, hx⟩ : ∃ x, l[k] = x := ⟨_, rfl⟩
        obtain ⟨y, hy⟩ : ∃ y, m[k] = y := ⟨_, rfl⟩
        rw [hx] at ha
        rw [hy] at hb
        cases hxy : intB x y
        · have HN := Lib.hid (show intsB l m = false from HK.out.hit hlt hlm hx hy hxy)
          have hne2 : (x != y) = true := by unfold intB at hxy; simpa using hxy
          clear hxy hx hy HC HD
          go_wp2_with fail
          go_quiet (fail)
          go_wp2_with fail
          go_ret
          exact ⟨by rw [HN.out]; rfl, below_drewN HB.out _⟩
        · have HN := Lib.hid (HK.out.next hlt hlm hx hy hxy)
          have hne2 : (x != y) = false := by unfold intB at hxy; simpa using hxy
          clear hxy hx hy HC HD
          go_wp2_with fail
          go_quiet (fail)
          go_wp2_with fail
          go_roundw
          case rel => exact ⟨k + 1, by omega, by go_num, HN, Lib.hid (below_drewN HB.out _)⟩
          case measure => simp [intOf]; omega
      · have HN := Lib.hid (show intsB l m = true from HK.out.done (by omega) (by have := HLEN.out; omega))
        clear HC HD
        go_wp2
        go_ret
        exact ⟨by rw [HN.out]; rfl, HB.out⟩
  · have hne : ((l.length : Int) != (m.length : Int)) = true := by rw [bne_iff_ne]; omega
    have HN := Lib.hid (show intsB l m = false from allEq_len hlen)
    clear hlen hc hd
    go_enter Tryz.func57, Tryz.ntmps57
    go_wp2
    go_ret
    exact ⟨by rw [HN.out]; rfl, Below.refl _ _⟩
end Go.Proofs.YtocmjlnhcloccaaGreatDoor
namespace Go.Proofs.YtocmjlnhcloccaaGreatDoor
open Go.RowKit

end Go.Proofs.YtocmjlnhcloccaaGreatDoor
namespace Go.Proofs.YtocmjlnhcloccaaGreatDoor
open Go.RowKit

theorem cell_oldS {w w' : World} {p : Addr} {x : Value} (h : w.cell? p = some x) (hb : Below w.heap.size w w') : w'.cell? p = some x := by rw [hb.cell (World.block_lt_of_cell? w _ h)]; exact h
theorem wpAnyH_mono {P : Program} {md : Region.Mode} {ops : Array Oper} {Q : Exit → Act → World → Prop} {S S' : World → Prop} (hS : ∀ w, S' w → S w) :
    ∀ (fuel : Nat) (listed : Array Bool) (a : Act) (w : World), wpAnyH P md ops Q S' fuel listed a w → wpAnyH P md ops Q S fuel listed a w
  | 0, _, _, _, h => h
  | fuel + 1, _, _, _, h => ⟨h.1, fun i hi => wpOp_mono (fun a' w' h' => ⟨hS _ h'.1, wpAnyH_mono hS fuel _ a' w' h'.2⟩) (h.2 i hi)⟩
end Go.Proofs.YtocmjlnhcloccaaGreatDoor
namespace Go.Proofs.YtocmjlnhcloccaaGreatDoor
open Go.RowKit

set_option maxRecDepth 100000 in
set_option maxHeartbeats 4000000 in
theorem rSame3_any (p q : SchV) (S T : Sch) (w : World) (c0 : S.cols.length ≤ 1000) (_c1 : T.cols.length ≤ 1000) (k0 : S.key.length ≤ 1000) (k1 : T.key.length ≤ 1000) (u0 : S.uqs.length ≤ 1000) (_u1 : T.uqs.length ≤ 1000) (l0 : ∀ l ∈ S.uqs, l.length ≤ 1000) (l1 : ∀ l ∈ T.uqs, l.length ≤ 1000) (hS : SchIn w p S) (hT : SchIn w q T) :
    Calls Tryz.prog 26 #[.agg #[.slice p.oc S.cols.length p.cc, .slice p.ok S.key.length p.ck, .slice p.ou S.uqs.length p.cu], .agg #[.slice q.oc T.cols.length q.cc, .slice q.ok T.key.length q.ck, .slice q.ou T.uqs.length q.cu]] w fun e w' => e = .returned (.bool (sameB S T)) ∧ Below w.heap.size w w' := by
  have HK := Lib.hid (fun W (hb : Below w.heap.size w W) => rInts_any p.ok q.ok p.ck q.ck S.key T.key W k0 k1 (hS.key.keep hb (Nat.le_refl _)) (hT.key.keep hb (Nat.le_refl _)))
  have HC := Lib.hid hS.cols
  have HD := Lib.hid hT.cols
  have HU := Lib.hid hS.uqs
  have HV := Lib.hid hT.uqs
  have HL0 := Lib.hid l0
  have HL1 := Lib.hid l1
  clear k0 k1 l0 l1 hS hT
  obtain ⟨oc, cc, ok, ck, ou, cu⟩ := p
  obtain ⟨qc, dc, qk, dk, qu, du⟩ := q
  simp only at HK HC HD HU HV ⊢
  by_cases hlc : S.cols.length = T.cols.length
  · by_cases hlu : S.uqs.length = T.uqs.length
    · have hne1 : ((S.cols.length : Int) != (T.cols.length : Int)) = false := by rw [hlc]; simp
      have hne2 : ((S.uqs.length : Int) != (T.uqs.length : Int)) = false := by rw [hlu]; simp
      have HLC := Lib.hid hlc
      have HLU := Lib.hid hlu
      clear hlc hlu
      cases hkk : intsB S.key T.key
      · have HN := Lib.hid (show sameB S T = false by unfold sameB; rw [hkk, Bool.false_and, Bool.and_false])
        rw [hkk] at HK
        clear hkk
        go_enter Tryz.func26, Tryz.ntmps26
        go_wp2_with (first | (go_at_call 57; refine (HK.out _ (((Below.refl _ _).alloc (Nat.le_refl _) _).alloc (by simp) _)).mono ?_; rintro e w1 ⟨rfl, hb1⟩))
        go_ret
        exact ⟨by rw [HN.out]; rfl, (((Below.refl _ _).alloc (Nat.le_refl _) _).alloc (by simp) _).trans (hb1.mono (by simp; omega))⟩
      · have HKK := Lib.hid hkk
        rw [hkk] at HK
        clear hkk
        go_enter Tryz.func26, Tryz.ntmps26
        go_wp2_with fail
        refine (HK.out _ (((Below.refl _ _).alloc (Nat.le_refl _) _).alloc (by simp) _)).mono ?_
        rintro e w1 ⟨rfl, hb1⟩
        have HB1 := Lib.hid ((((Below.refl w.heap.size w).alloc (Nat.le_refl _) (.cells #[.slice oc S.cols.length cc, .slice ok S.key.length ck, .slice ou S.uqs.length cu] 26)).alloc (by simp) (.cells #[.slice qc T.cols.length dc, .slice qk T.key.length dk, .slice qu T.uqs.length du] 26)).trans (hb1.mono (by simp; omega)))
        have a0 : w1.cell? ⟨w.heap.size, 0, none⟩ = some (.slice oc S.cols.length cc) := cell_oldS (by simp [go_sem]) hb1
        have a2 : w1.cell? ⟨w.heap.size, 2, none⟩ = some (.slice ou S.uqs.length cu) := cell_oldS (by simp [go_sem]) hb1
        have b0 : w1.cell? ⟨w.heap.size + 1, 0, none⟩ = some (.slice qc T.cols.length dc) := cell_oldS (by simp [go_sem]) hb1
        have b2 : w1.cell? ⟨w.heap.size + 1, 2, none⟩ = some (.slice qu T.uqs.length du) := cell_oldS (by simp [go_sem]) hb1
        have HA0 := Lib.hid a0
        have HA2 := Lib.hid a2
        have HB0 := Lib.hid b0
        have HB2 := Lib.hid b2
        clear hb1 a0 a2 b0 b2
        go_wp2_with fail
        go_loopw [5] (fun i wr => ∃ k : Nat, k ≤ S.cols.length ∧ i = .int .i64 k ∧ Hid (ERel colB S.cols T.cols k) ∧ Hid (Below w1.heap.size w1 wr)) (fun i _ => S.cols.length - (intOf i).toNat)
        case atStart => exact ⟨0, Nat.zero_le _, rfl, Lib.hid (ERel.zero _ _ _), Lib.hid (Below.refl _ _)⟩
        case round =>
          obtain ⟨k, hk, rfl, HR, HB⟩ := hrel
          have m0 : wr.cell? ⟨w.heap.size, 0, none⟩ = some (.slice oc S.cols.length cc) := cell_oldS HA0.out HB.out
          have n0 : wr.cell? ⟨w.heap.size + 1, 0, none⟩ = some (.slice qc T.cols.length dc) := cell_oldS HB0.out HB.out
          have HBW := Lib.hid (HB1.out.trans (HB.out.mono HB1.out.size))
          have hz1 : w.heap.size < wr.heap.size := World.block_lt_of_cell? wr _ m0
          have hz2 : w.heap.size + 1 < wr.heap.size := World.block_lt_of_cell? wr _ n0
          by_cases hlt : k < S.cols.length
          · have hlm : k < T.cols.length := by have := HLC.out; omega
            obtain ⟨a, rfl, ha⟩ := HC.out.keep HBW.out (Nat.le_refl _) k hlt
            obtain ⟨b, rfl, hb⟩ := HD.out.keep HBW.out (Nat.le_refl _) k hlm
            obtain ⟨x, hx⟩ : ∃ x, S.cols[k] = x := ⟨_, rfl⟩
            obtain ⟨y, hy⟩ : ∃ y, T.cols[k] = y := ⟨_, rfl⟩
            rw [hx] at ha
            rw [hy] at hb
            have hal := ha.lt
            have hbl := hb.lt
            obtain ⟨a0, a1, a2, a3⟩ := ha
            obtain ⟨b0, b1, b2, b3⟩ := hb
            have hr := run_neq_col x.n x.t x.z x.u y.n y.t y.z y.u
            cases hxy : colB x y
            · have HN := Lib.hid (show sameB S T = false by unfold sameB; rw [HR.out.hit hlt hlm hx hy hxy, Bool.false_and])
              have hr2 : ∀ W, (binOp .neq 64 (.agg #[.string x.n, .int .i64 x.t, .int .i64 x.z, .bool x.u]) (.agg #[.string y.n, .int .i64 y.t, .int .i64 y.z, .bool y.u])).run Tryz.prog W = .ok (.bool true) W := fun W => by rw [hr W, show colB ⟨x.n, x.t, x.z, x.u⟩ ⟨y.n, y.t, y.z, y.u⟩ = false from hxy]; rfl
              clear hxy hx hy hr
              go_wp2_with fail
              go_quiet (fail)
              go_wp2_with fail
              go_ret
              exact ⟨by rw [HN.out]; rfl, below_drewN HBW.out _⟩
            · have HN := Lib.hid (HR.out.next hlt hlm hx hy hxy)
              have hr2 : ∀ W, (binOp .neq 64 (.agg #[.string x.n, .int .i64 x.t, .int .i64 x.z, .bool x.u]) (.agg #[.string y.n, .int .i64 y.t, .int .i64 y.z, .bool y.u])).run Tryz.prog W = .ok (.bool false) W := fun W => by rw [hr W, show colB ⟨x.n, x.t, x.z, x.u⟩ ⟨y.n, y.t, y.z, y.u⟩ = true from hxy]; rfl
              clear hxy hx hy hr
              go_wp2_with fail
              go_quiet (fail)
              go_wp2_with fail
              go_roundw
              case rel => exact ⟨k + 1, by omega, by go_num, HN, Lib.hid (below_drewN HB.out _)⟩
              case measure => simp [intOf]; omega
          · have HCC := Lib.hid (HR.out.done (by omega) (by have := HLC.out; omega))
            clear HA0 HB0 HR HC HD
            go_wp2_with fail
            clear m0 n0
            go_loopw [6] (fun i wq => ∃ k : Nat, k ≤ S.uqs.length ∧ i = .int .i64 k ∧ Hid (ERel intsB S.uqs T.uqs k) ∧ Hid (Below w1.heap.size w1 wq)) (fun i _ => S.uqs.length - (intOf i).toNat)
            case atStart => exact ⟨0, Nat.zero_le _, rfl, Lib.hid (ERel.zero _ _ _), HB⟩
            case round =>
              obtain ⟨j, hj, rfl, HR, HQ⟩ := hrel
              have m2 : wr.cell? ⟨w.heap.size, 2, none⟩ = some (.slice ou S.uqs.length cu) := cell_oldS HA2.out HQ.out
              have n2 : wr.cell? ⟨w.heap.size + 1, 2, none⟩ = some (.slice qu T.uqs.length du) := cell_oldS HB2.out HQ.out
              have HBQ := Lib.hid (HB1.out.trans (HQ.out.mono HB1.out.size))
              have hy1 : w.heap.size < wr.heap.size := World.block_lt_of_cell? wr _ m2
              have hy2 : w.heap.size + 1 < wr.heap.size := World.block_lt_of_cell? wr _ n2
              by_cases hlt : j < S.uqs.length
              · have hlm : j < T.uqs.length := by have := HLU.out; omega
                obtain ⟨a, oa1, ca1, rfl, ha, _, hia⟩ := HU.out.keep HBQ.out (Nat.le_refl _) j hlt
                obtain ⟨b, ob1, cb1, rfl, hb, _, hib⟩ := HV.out.keep HBQ.out (Nat.le_refl _) j hlm
                obtain ⟨x, hx⟩ : ∃ x, S.uqs[j] = x := ⟨_, rfl⟩
                obtain ⟨y, hy⟩ : ∃ y, T.uqs[j] = y := ⟨_, rfl⟩
                have hxl := HL0.out x (hx ▸ List.getElem_mem hlt)
                have hyl := HL1.out y (hy ▸ List.getElem_mem hlm)
                rw [hx] at ha hia
                rw [hy] at hb hib
                have HI := Lib.hid (fun W (h : Below wr.heap.size wr W) => rInts_any oa1 ob1 ca1 cb1 x y W hxl hyl (hia.keep h (Nat.le_refl _)) (hib.keep h (Nat.le_refl _)))
                have q0 : ∀ p : Later wr, p.W.cell? ⟨w.heap.size, 2, none⟩ = some (.slice (some a) S.uqs.length cu) := later_cell m2
                have q1 : ∀ p : Later wr, p.W.cell? ⟨w.heap.size + 1, 2, none⟩ = some (.slice (some b) T.uqs.length du) := later_cell n2
                have q2 : ∀ p : Later wr, p.W.cell? (a.add j) = some (.slice oa1 x.length ca1) := later_cell ha
                have q3 : ∀ p : Later wr, p.W.cell? (b.add j) = some (.slice ob1 y.length cb1) := later_cell hb
                have g0 : (0 : Int) ≤ (j : Int) := by omega
                have g1 : (j : Int) < (S.uqs.length : Int) := by omega
                have g2 : (j : Int) < (T.uqs.length : Int) := by omega
                clear hia hib ha hb
                cases hxy : intsB x y
                · have HN := Lib.hid (show sameB S T = false by unfold sameB; rw [HCC.out, HKK.out, HR.out.hit hlt hlm hx hy hxy]; rfl)
                  rw [hxy] at HI
                  clear hxy hx hy
                  go_wp2_with fail
                  refine wp_region_later (by kernel_rfl) (by kernel_rfl) ?_
                  repeat (go_big_quiet_step ((go_at_call 57; exact Calls.later (HI.out _ (Later.h _)))))
                  refine wpQuiet_nil ?_
                  rintro w3 ⟨⟨W3, hb3⟩, rfl⟩
                  go_wp2_with fail
                  go_ret
                  exact ⟨by rw [HN.out]; rfl, HBQ.out.trans (hb3.mono HBQ.out.size)⟩
                · have HN := Lib.hid (HR.out.next hlt hlm hx hy hxy)
                  rw [hxy] at HI
                  clear hxy hx hy
                  go_wp2_with fail
                  refine wp_region_later (by kernel_rfl) (by kernel_rfl) ?_
                  repeat (go_big_quiet_step ((go_at_call 57; exact Calls.later (HI.out _ (Later.h _)))))
                  refine wpQuiet_nil ?_
                  rintro w3 ⟨⟨W3, hb3⟩, rfl⟩
                  have HB3 := Lib.hid (HQ.out.trans (hb3.mono HQ.out.size))
                  clear hb3
                  go_wp2_with fail
                  go_roundw
                  case rel => exact ⟨j + 1, by omega, by go_num, HN, HB3⟩
                  case measure => simp [intOf]; omega
              · have HN := Lib.hid (show sameB S T = true by unfold sameB; rw [HCC.out, HKK.out, HR.out.done (by omega) (by have := HLU.out; omega)]; rfl)
                go_wp2_with fail
                go_ret
                exact ⟨by rw [HN.out]; rfl, HBQ.out⟩
    · have hne1 : ((S.cols.length : Int) != (T.cols.length : Int)) = false := by rw [hlc]; simp
      have hne2 : ((S.uqs.length : Int) != (T.uqs.length : Int)) = true := by rw [bne_iff_ne]; omega
      have HN := Lib.hid (show sameB S T = false by unfold sameB; rw [allEq_len (l := S.uqs) hlu, Bool.and_false, Bool.and_false])
      clear hlc hlu
      go_enter Tryz.func26, Tryz.ntmps26
      go_wp2_with fail
      go_ret
      exact ⟨by rw [HN.out]; rfl, by go_grown⟩
  · have hne1 : ((S.cols.length : Int) != (T.cols.length : Int)) = true := by rw [bne_iff_ne]; omega
    have HN := Lib.hid (show sameB S T = false by unfold sameB; rw [allEq_len (l := S.cols) hlc]; rfl)
    clear hlc
    go_enter Tryz.func26, Tryz.ntmps26
    go_wp2_with fail
    go_ret
    exact ⟨by rw [HN.out]; rfl, by go_grown⟩
end Go.Proofs.YtocmjlnhcloccaaGreatDoor
