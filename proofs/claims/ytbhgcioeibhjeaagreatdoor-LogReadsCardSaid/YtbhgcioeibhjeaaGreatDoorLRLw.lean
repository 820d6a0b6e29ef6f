/-
  parts that belong together.
-/
import Derived.Test.YtbhgcioeibhjeaaGreatDoorLrM
import Derived.Test.YtbhgcioeibhjeaaGreatDoorLNone
import Derived.Test.YtbhgcioeibhjeaaGreatDoorLWks
import Derived.Test.YtbhgcioeibhjeaaGreatDoorSqFs
namespace Go.Proofs.YtbhgcioeibhjeaaGreatDoor
open Go.RowKit Go.Shelf

/-- the disk of a log that is opened -/
def opD (D : Dk) (f : Nat) : Dk := if wholeN (D.F f) < (D.F f).length then D.cutd f (wholeN (D.F f) : Nat) else D
theorem cut_ok0 {D : Dk} {f : Nat} (hf : f < 64) (h : wholeN (D.F f) ≤ (D.F f).length) : cutE D f (wholeN (D.F f) : Nat) = 0 := by
  unfold cutE
  rw [if_neg (by omega), if_neg (by omega), if_neg]
  show ¬ (((D.F f).length : Nat) : Int) < _
  omega
theorem opD_F (D : Dk) (f : Nat) (hf : f < 64) : (opD D f).F f = catR (recsL (D.F f)) := by
  rw [← recsL_take]
  unfold opD
  by_cases h : wholeN (D.F f) < (D.F f).length
  · rw [if_pos h]
    unfold Dk.cutd
    rw [if_pos (cut_ok0 hf (by omega))]
    show updF D.F f ((D.F f).take (wholeN (D.F f))) f = _
    rw [updF_same]
  · rw [if_neg h, List.take_of_length_le (by omega)]
theorem opD_len (D : Dk) (f : Nat) (hf : f < 64) : ((opD D f).F f).length = wholeN (D.F f) := by rw [opD_F D f hf, recsL_len]
theorem opD_inv {D : Dk} (h : D.Inv) (hfew : D.L.length < 900) (f : Nat) : (opD D f).Inv := by
  unfold opD
  split
  · exact h.cutd _ _ hfew
  · exact h
theorem open_prog {w W : World} {p : Nat} {D : Dk} (h : Run w W p D) (hET : HasET w) (hfew : D.L.length < 900) (f : Nat) (hf : f < 64) :
    Calls Tryz.prog 8 #[.pointer (some ⟨p, 0, none⟩), .int .i64 f] W fun x W' => ∃ q, x = .returned (.tuple #[.pointer (some ⟨q, 0, none⟩), .int .i64 0]) ∧ LRun w W' q p (opD D f) f (((opD D f).F f).length : Nat) ((D.F f).length - wholeN (D.F f) : Nat) := by
  have hle := wholeN_le (D.F f)
  by_cases hlt : wholeN (D.F f) < (D.F f).length
  · refine (r_open_torn h hET hfew f hf hlt).mono ?_
    rintro x W' ⟨q, e0, h1⟩
    refine ⟨q, e0, ?_⟩
    rw [opD_len D f hf]
    unfold opD
    rw [if_pos hlt]
    exact h1
  · refine (r_open_whole h f hf (by omega)).mono ?_
    rintro x W' ⟨q, e0, h1, _⟩
    refine ⟨q, e0, ?_⟩
    rw [opD_len D f hf, show (D.F f).length - wholeN (D.F f) = 0 by omega, show wholeN (D.F f) = (D.F f).length by omega]
    unfold opD
    rw [if_neg hlt]
    exact h1
theorem open_ref {w : World} {c : Array Value} {D : Dk} (hR : RDs w c D) (hi : D.Inv) (hfew : D.L.length < 900) (f : Nat) (hf : f < 64) : Calls Tryz.prog 10 #[.agg c, .int .i64 f] w fun e w' => ∃ cl, e = .returned (.agg cl) ∧ RLg w' cl (opD D f) f ((D.F f).length - wholeN (D.F f) : Nat) ∧ Below w.heap.size w w' := by
  obtain ⟨v, hR⟩ := hR
  have hle := wholeN_le (D.F f)
  by_cases hlt : wholeN (D.F f) < (D.F f).length
  · refine (rOpen_torn hR hi f hf hfew hlt).mono ?_
    rintro x W' ⟨q, e0, h1, h2⟩
    refine ⟨q, e0, ?_, h2⟩
    unfold opD
    rw [if_pos hlt]
    exact h1
  · refine (rOpen_whole hR hi f hf (by omega)).mono ?_
    rintro x W' ⟨q, e0, h1, h2⟩
    refine ⟨q, e0, ?_, h2⟩
    rw [show (D.F f).length - wholeN (D.F f) = 0 by omega]
    unfold opD
    rw [if_neg hlt]
    exact h1
theorem RL_zero (L : List (List UInt8)) (hb : ∀ b ∈ L, b.length ≤ 60000) : RL (catR L) 0 = fromL (recsAt 0 (recsL (catR L))) ((0 : Nat) : Int) := by
  rw [RL_cat L hb, recsL_cat L hb]
  cases L with
  | nil => rfl
  | cons b L =>
    have h := fromL_hit (R := recsAt 0 (b :: L)) (p := ((0 : Nat) : Int)) (k := 0) (by rw [recs_len]; simp) (fun j hj => by omega) rfl
    rw [h, List.drop_zero]
/-- .. and they stand alike -/
theorem is_open {w W : World} {q p : Nat} {D : Dk} {f : Nat} {cl : Array Value} (h : LRun w W q p (opD D f) f (((opD D f).F f).length : Nat) ((D.F f).length - wholeN (D.F f) : Nat)) (hf : f < 64) (hR : RLg W cl (opD D f) f ((D.F f).length - wholeN (D.F f) : Nat)) (many : Int) :
    Calls Tryz.prog 13 #[.pointer (some ⟨q, 0, none⟩), .agg cl, .int .i64 0, .int .i64 many] W fun x W' => x = .returned (.bool true) ∧ Below W.heap.size W W' := by
  obtain ⟨Φ, h1, h2, h3, h4, _⟩ := h
  refine is_any h1 h3 h4 hf hR 0 (Nat.zero_le _) ?_ many
  rw [opD_F D f hf]
  exact RL_zero _ (recsL_small _)
/-- a block that holds a disk -/
def DBox (W : World) (b : Nat) (c : Array Value) : Prop := W.heap[b]? = some (.cells c 36 (0, 0))
theorem DBox.keep {W W' : World} {b : Nat} {c : Array Value} (h : DBox W b c) (hb : Below W.heap.size W W') : DBox W' b c := (hb.block b (Array.getElem?_eq_some_iff.1 h).1).trans h
theorem DBox.range {W : World} {b : Nat} {c : Array Value} (h : DBox W b c) : W.rangeAt b 0 c.toList := fun j v hv => by
  rw [Nat.zero_add]
  simp only [World.cell?]
  rw [show W.heap[b]? = _ from h]
  simpa using hv
theorem DBox.store {W : World} {b : Nat} {c d : Array Value} (h : DBox W b c) (hd : d.size = c.size) : DBox (W.setCells b 0 d.toList) b d := by
  have := setCells_heap b 36 (0, 0) d.toList 0 W c h
  rwa [setAllr_full _ _ hd] at this
theorem DBox.lt {W : World} {b : Nat} {c : Array Value} (h : DBox W b c) : b < W.heap.size := (Array.getElem?_eq_some_iff.1 h).1
/-- a disk's row lies in a block of its own type -/
theorem RDs.store {W : World} {c d z : Array Value} {D : Dk} {b : Nat} (h : RDs W c D) (hb : DBox W b z ∨ LBox W b z) : RDs (W.setCells b 0 d.toList) c D := by
  obtain ⟨v, hd⟩ := h
  refine ⟨v, hd.size, hd.one, hd.room, hd.file, hd.things, ownsRow_same hd.row (fun g hg => ?_)⟩
  obtain ⟨g', cap, cur, e0, _, g2, _⟩ := hd.row.2.resolve_left (fun h => by rw [h.1] at hg; cases hg)
  rw [e0] at hg
  simp [Value.ownBlock] at hg
  subst hg
  have n1 : g' ≠ b := fun e => by
    rcases hb with hb | hb
    · rw [e, show W.heap[b]? = _ from hb] at g2
      cases g2
    · rw [e, show W.heap[b]? = _ from hb] at g2
      cases g2
  rw [heap_setCellsr _ _ _ _ _ n1]
theorem RLg.store {W : World} {c d z : Array Value} {D : Dk} {f : Nat} {t : Int} {b : Nat} (h : RLg W c D f t) (hb : DBox W b z ∨ LBox W b z) : RLg (W.setCells b 0 d.toList) c D f t := ⟨h.size, h.one, h.disk.store hb, h.file, h.torn⟩
theorem NoLog.same {w w' : World} {pq : Option Addr} (h : NoLog w pq) (hb : ∀ k, k < w.heap.size → w'.heap[k]? = w.heap[k]?) : NoLog w' pq := by
  rcases h with h | ⟨p, e, h⟩
  · exact .inl h
  · exact .inr ⟨p, e, by rw [World.cell?_of_block (hb _ (World.block_lt_of_cell? w _ h))]; exact h⟩
theorem RL_nil : RL [] 0 = [] := by decide +kernel
/-- no log's records: none is handed on -/
theorem each_none (pq : Option Addr) (c0 c1 : Nat) (w : World) (hno : NoLog w pq) (h0 : w.cell? ⟨c0, 0, none⟩ = some (.int .i64 0)) (h1 : w.cell? ⟨c1, 0, none⟩ = some (.pointer pq)) (W : World) (hW : Below w.heap.size w W) (l : Nat) :
    Calls Tryz.prog 52 #[.func (.yield l) #[] #[], .pointer (some ⟨c0, 0, none⟩), .pointer (some ⟨c1, 0, none⟩)] W fun e W' => (∃ v, e = .returned v) ∧ Below W.heap.size W W' := by
  have h := eachL_turns 7 (by decide) c0 c1 (.pointer pq) [] 0 w h0 h1 (by simp) (Nat.zero_le _) (fun k => k < w.heap.size) (fun k hk => hk) (World.block_lt_of_cell? w _ h0) (World.block_lt_of_cell? w _ h1) (fun V _ hk => loctets_none pq V (hno.same hk))
  refine (callsIn_wide (n := 7)).1 ((h l (fun _ V => Below W.heap.size W V) (fun _ _ => False) W hW (fun s A A' h hb => h.trans hb) (fun s A A' h hb => h) (fun pre x W1 _ hsp => ?_) (Below.refl _ _)).mono ?_)
  · rw [RL_nil] at hsp
    have := hsp.length_le
    simp at this
  · rintro e W' ⟨h1, ⟨xs, _, h2⟩ | ⟨pre, _, h2⟩⟩
    · exact ⟨h1, h2⟩
    · exact h2.elim
end Go.Proofs.YtbhgcioeibhjeaaGreatDoor
namespace Go.Proofs.YtbhgcioeibhjeaaGreatDoor
open Go.RowKit Go.Shelf
attribute [local go_sem] Oper.semAt_some

/-- what lies in memory at the law's end -/
structure SC (w : World) (pq : Option Addr) (u : Bool) (W : World) : Prop where
  b : Below w.heap.size w W
  no : NoLog W pq
  et : HasET W
  h : W.heap[w.heap.size]? = some (.cells #[.bool u] 4 (0, 0))
theorem SC.c {w : World} {pq : Option Addr} {u : Bool} {W : World} (h : SC w pq u W) : W.cell? ⟨w.heap.size, 0, none⟩ = some (.bool u) := by simp [World.cell?, h.h]
theorem SC.f {w : World} {pq : Option Addr} {u : Bool} {W : World} (h : SC w pq u W) : W.frozen? ⟨w.heap.size, 0, none⟩ = false := by simp [World.frozen?, h.h]
theorem SC.keep {w : World} {pq : Option Addr} {u : Bool} {W W' : World} (h : SC w pq u W) (hb : Below W.heap.size W W') : SC w pq u W' :=
  ⟨h.b.trans (hb.mono h.b.size), h.no.keep hb, h.et.below hb h.et.lt, (hb.block _ (Array.getElem?_eq_some_iff.1 h.h).1).trans h.h⟩
theorem SC.done {w : World} {pq : Option Addr} {u : Bool} {W : World} (h : SC w pq u W) (h0 : HasET w) (v : Bool) : SC w pq v (W.setCell ⟨w.heap.size, 0, none⟩ (.bool v)) := by
  have hb := h.b.setCell (p := ⟨w.heap.size, 0, none⟩) (Nat.le_refl _) (.bool v)
  refine ⟨hb, ?_, h0.below hb h0.lt, ?_⟩
  · rcases h.no with h1 | ⟨p, e, h1⟩
    · exact .inl h1
    · refine .inr ⟨p, e, (World.cell?_setCell_other _ _ _ _ (fun e2 => ?_)).trans h1⟩
      rw [← e2, h.c] at h1
      cases h1
  · unfold World.setCell
    rw [Array.getElem?_modify, if_pos rfl, h.h]
    rfl
/-- .. whatever the result is so far -/
def SE (w : World) (pq : Option Addr) (W : World) : Prop := ∃ u, SC w pq u W
theorem SE.no {w : World} {pq : Option Addr} {W : World} (h : SE w pq W) : NoLog W pq := by
  obtain ⟨u, h⟩ := h
  exact h.no
theorem SE.et {w : World} {pq : Option Addr} {W : World} (h : SE w pq W) : HasET W := by
  obtain ⟨u, h⟩ := h
  exact h.et
theorem SE.keep {w : World} {pq : Option Addr} {W W' : World} (h : SE w pq W) (hb : Below W.heap.size W W') : SE w pq W' := by
  obtain ⟨u, h⟩ := h
  exact ⟨u, h.keep hb⟩
theorem SE.done {w : World} {pq : Option Addr} {W : World} (h : SE w pq W) (h0 : HasET w) (v : Bool) : SC w pq v (W.setCell ⟨w.heap.size, 0, none⟩ (.bool v)) := by
  obtain ⟨u, h⟩ := h
  exact h.done h0 v
theorem SE.c {w : World} {pq : Option Addr} {W : World} (h : SE w pq W) : ∃ u, W.cell? ⟨w.heap.size, 0, none⟩ = some (.bool u) ∧ W.frozen? ⟨w.heap.size, 0, none⟩ = false := by
  obtain ⟨u, h⟩ := h
  exact ⟨u, h.c, h.f⟩
theorem SC.drew {w : World} {pq : Option Addr} {u : Bool} {W : World} (h : SC w pq u W) : SC w pq u W.drew := h.keep (Below.refl _ W).drew
theorem zcells {W : World} {b : Nat} {v : Value} {t : TypeId} (h : W.heap[b]? = some (.cells #[v] t (0, 0))) : W.cell? ⟨b, 0, none⟩ = some v ∧ W.frozen? ⟨b, 0, none⟩ = false := by
  constructor
  · simp [World.cell?, h]
  · simp [World.frozen?, h]
set_option maxRecDepth 1000000 in
set_option maxHeartbeats 8000000 in
theorem lawReads_in (v : Value) (l : List UInt8) (w : World) (hv : BytesOf w v l) (hET : HasET w) (hl : l.length ≤ 2000) :
    Calls Tryz.prog 4 #[v] w fun e w' => e = .returned (.bool true) ∧ Below w.heap.size w w' := by
  obtain ⟨ob, cb, rfl⟩ := hv.form
  have HV := Lib.hid hv
  have HE0 := Lib.hid hET
  obtain ⟨D1, hD1⟩ : ∃ D1, (newD 3000).app 0 l = D1 := ⟨_, rfl⟩
  have hap : appE (newD 3000) 0 l.length = 0 := by
    unfold appE
    rw [if_neg (by omega), if_neg]
    have : (newD 3000).left = 3000 := by decide +kernel
    rw [this]
    omega
  have hdid : (newD 3000).did (.put 0 ⟨l.toArray⟩) = D1 := by
    rw [← hD1]
    unfold Dk.app
    rw [if_pos hap]
    rfl
  have hinv0 : (newD 3000).Inv := ⟨by decide, rfl, fun k => by show sumF (doAll noF ([].take k)) ≤ 3000; rw [List.take_nil]; decide +kernel, fun k t ht => (by have ht' : ([] : List Th)[k]? = some t := ht; simp at ht'), Nat.zero_le _⟩
  have hinv1 : D1.Inv := by rw [← hD1]; exact hinv0.app 0 l (by decide)
  have hfew1 : D1.L.length < 900 := by rw [← hdid]; show 1 < 900; decide
  have hF1 : D1.F 0 = l := by
    rw [← hdid]
    show updF noF 0 (noF 0 ++ l.toArray.toList) 0 = l
    rw [updF_same]
    rfl
  have hleft : ¬ (newD 3000).left < ((⟨l.toArray⟩ : ByteArray).size : Int) := by
    have : (newD 3000).left = 3000 := by decide +kernel
    rw [this]
    show ¬ (3000 : Int) < (l.length : Nat)
    omega
  have HRN := Lib.hid (fun V => rrNew_any 3000 V)
  have HRA := Lib.hid (fun V c v (h : RDk V c (newD 3000) v) => (rrApp_ok h hinv0 0 (by decide) ⟨l.toArray⟩ hleft))
  rw [hdid] at HRA
  have HND := Lib.hid (fun V => run_new 3000 V (by decide) (by decide))
  have HAP := Lib.hid (fun V V' p (hb : Below w.heap.size w V) (h : Run V V' p (newD 3000)) (hbt : BtAt V' (.slice ob l.length cb) l) => run_app h (hET.below hb hET.lt) (by decide) 0 _ l hbt)
  rw [hD1, hap] at HAP
  have HOP := Lib.hid (fun V V' p (hb : Below w.heap.size w V) (h : Run V V' p D1) => open_prog h (hET.below hb hET.lt) hfew1 0 (by decide))
  have HOR := Lib.hid (fun V c (h : RDs V c D1) => open_ref h hinv1 hfew1 0 (by decide))
  rw [hF1] at HOP HOR
  refine (callsIn_wide (n := 8)).1 ?_
  refine callsIn_of_wp_marks Tryz.func4 rfl trivial ?_ rfl
  simp only [Tryz.ntmps4, List.size_toArray, List.length_cons, List.length_nil, Nat.reduceAdd, Nat.reduceSub, Array.replicate_succ, Array.replicate_zero, List.push_toArray, List.append_toArray, List.nil_append, List.cons_append]
  refine wpIn_wide.2 ?_
  go_upto_region 1 with fail
  obtain ⟨W1, hW1⟩ : ∃ W1, w.alloc (.cells #[.bool false] 4) = W1 := ⟨_, rfl⟩
  have hb1 : Below w.heap.size w W1 := by rw [← hW1]; exact (Below.refl _ _).alloc (Nat.le_refl _) _
  have hz1 : W1.heap.size = w.heap.size + 1 := by rw [← hW1]; simp
  have hob : W1.heap[w.heap.size]? = some (.cells #[.bool false] 4 (0, 0)) := by rw [← hW1]; exact heap_alloc_at w _
  have HV1 := Lib.hid (HV.out.keep hb1 (Nat.le_refl _))
  rw [hW1]
  have HB1 := Lib.hid hb1
  have HO1 := Lib.hid hob
  clear hW1 hb1 hob hv hET
  go_upto_region 6 with (first | (go_at_call 7; refine (HND.out _).mono ?_; rintro e w2 ⟨p, rfl, hr2⟩; obtain ⟨_, _, hb12, _⟩ := id hr2; have HR2 := Lib.hid hr2; have HB2 := Lib.hid hb12; clear hr2 hb12) | (go_at_call 14; refine (HAP.out W1 _ p HB1.out HR2.out (HV1.out.keep HB2.out (Nat.le_refl _)).bt).mono ?_; rintro e w3 ⟨rfl, hr3⟩; have HR3 := Lib.hid hr3; clear hr3) | (go_at_call 8; refine (HOP.out W1 _ p HB1.out HR3.out).mono ?_; rintro e w5 ⟨q, rfl, hr5⟩; have HR5 := Lib.hid hr5; clear hr5))
  have HB15 : Hid (Below W1.heap.size W1 w5) := Lib.hid HR5.out.bel
  have HCV : Hid (∀ V, Below w5.heap.size w5 V → (convert 43 9 (.slice ob l.length cb)).run Tryz.prog V = .ok (.string ⟨l.toArray⟩) V) := Lib.hid fun V hb => bytes_string (HV1.out.keep (HB15.out.trans (hb.mono HB15.out.size)) (Nat.le_refl _)).at
  go_cut [8, 9] from 36 to 42 (fun s8 s9 wx => ∃ (p8 : Nat) (c1 : Array Value), s8 = .pointer (some ⟨p8, 0, none⟩) ∧ s9 = .int .i64 0 ∧ Hid (DBox wx p8 c1 ∧ RDs wx c1 D1 ∧ Below w5.heap.size w5 wx ∧ w5.heap.size ≤ p8))
  case first =>
    refine wp_normal ?_
    refine wp_region_held_drew (S := fun W => Below w5.heap.size w5 W) (by kernel_rfl) ?_ (fun hHeld => ?_)
    · exact (Below.refl _ w5).drew
    refine wpAnyH_take (i := 1) (oi := { dst := some 38, op := Go.Op.move (Go.Operand.tmp 0), type := 43, pos := "law.go:127", after := #[], guard := none }) (v := ?v1r) rfl (by kernel_rfl) (by kernel_rfl) (by kernel_rfl) (fun _ _ _ h => h) (Or.inl ⟨by rfl, ?hy1r⟩) hHeld ?rest1r
    case hy1r => (intro W hSw; (try dsimp only at hSw); go_simp; try with_reducible rfl)
    try simp only [Act.put, List.setIfInBounds_toArray, List.set_cons_zero, List.set_cons_succ]
    refine wpAnyH_take (i := 2) (oi := { dst := some 39, op := Go.Op.convert 43 9 (Go.Operand.tmp 38), type := 9, pos := "law.go:127", after := #[{ on := 1, ground := Go.Ground.data }], guard := none }) (v := ?v2r) rfl (by kernel_rfl) (by kernel_rfl) (by kernel_rfl) (fun _ _ _ h => h) (Or.inl ⟨by rfl, ?hy2r⟩) hHeld ?rest2r
    case hy2r => (intro W hSw; (try dsimp only at hSw); have hcv := HCV.out W hSw; go_simp; try with_reducible rfl)
    try simp only [Act.put, List.setIfInBounds_toArray, List.set_cons_zero, List.set_cons_succ]
    refine wpAnyH_ready (rs := [0, 7]) (by kernel_rfl) (by simp) ?_
    refine (AllReadyH.cons (o := { dst := some 37, op := Go.Op.call { callee := Go.Callee.value (Go.Operand.func 11), args := #[Go.Operand.const (Go.Value.int Go.IntKind.i64 3000)], argTypes := #[3] }, type := 36, pos := "law.go:127", after := #[], guard := none }) rfl (fun K hK => ?_) (AllReadyH.cons (o := { dst := some 8, op := Go.Op.alloc 36, type := 0, pos := "law.go:127", after := #[], guard := none }) rfl (fun K hK => ?_) AllReadyH.nil))
    · go_simp
      go_at_call 11
      refine (HRN.out _).mono ?_
      rintro e n0 ⟨c0, v0, rfl, hr0, hb0⟩
      refine hK.out _ _ (hHeld.trans (hb0.mono hHeld.size)) (fun hHeld' => ?_)
      clear hK K hHeld
      have hHeld := hHeld'
      clear hHeld'
      try simp only [Act.put, List.setIfInBounds_toArray, List.set_cons_zero, List.set_cons_succ]
      have hz0 := hHeld.size
      refine wpAnyH_ready (rs := [3, 7]) (by kernel_rfl) (by simp) ?_
      refine (AllReadyH.cons (o := { dst := some 40, op := Go.Op.call { callee := Go.Callee.value (Go.Operand.func 15), args := #[Go.Operand.tmp 37, Go.Operand.const (Go.Value.int Go.IntKind.i64 0), Go.Operand.tmp 39], argTypes := #[36, 3, 9] }, type := 49, pos := "law.go:127", after := #[{ on := 0, ground := Go.Ground.data }, { on := 2, ground := Go.Ground.data }, { on := 0, ground := Go.Ground.chain }], guard := none }) rfl (fun K hK => ?_) (AllReadyH.cons (o := { dst := some 8, op := Go.Op.alloc 36, type := 0, pos := "law.go:127", after := #[], guard := none }) rfl (fun K hK => ?_) AllReadyH.nil))
      · go_simp
        go_at_call 15
        refine (HRA.out _ _ _ hr0).mono ?_
        rintro e n1 ⟨c1, rfl, hd1, hb1⟩
        refine hK.out _ _ (hHeld.trans (hb1.mono hHeld.size)) (fun hHeld' => ?_)
        clear hK K hHeld
        have hHeld := hHeld'
        clear hHeld'
        try simp only [Act.put, List.setIfInBounds_toArray, List.set_cons_zero, List.set_cons_succ]
        have hz5 := hHeld.size
        refine wpAnyH_take (i := 4) (oi := { dst := some 36, op := Go.Op.move (Go.Operand.tmp 40), type := 49, pos := "law.go:127", after := #[{ on := 3, ground := Go.Ground.data }], guard := none }) (v := ?v4rxx) rfl (by kernel_rfl) (by kernel_rfl) (by kernel_rfl) (fun _ _ _ h => h) (Or.inl ⟨by rfl, ?hy4rxx⟩) hHeld ?rest4rxx
        case hy4rxx => (intro W hSw; (try dsimp only at hSw); go_simp; try with_reducible rfl)
        try simp only [Act.put, List.setIfInBounds_toArray, List.set_cons_zero, List.set_cons_succ]
        refine wpAnyH_take (i := 5) (oi := { dst := some 41, op := Go.Op.extract (Go.Operand.tmp 36) 0, type := 36, pos := "law.go:127", after := #[{ on := 4, ground := Go.Ground.data }], guard := none }) (v := ?v5rxx) rfl (by kernel_rfl) (by kernel_rfl) (by kernel_rfl) (fun _ _ _ h => h) (Or.inl ⟨by rfl, ?hy5rxx⟩) hHeld ?rest5rxx
        case hy5rxx => (intro W hSw; (try dsimp only at hSw); go_simp; try with_reducible rfl)
        try simp only [Act.put, List.setIfInBounds_toArray, List.set_cons_zero, List.set_cons_succ]
        refine wpAnyH_take (i := 6) (oi := { dst := some 42, op := Go.Op.extract (Go.Operand.tmp 36) 1, type := 3, pos := "law.go:127", after := #[{ on := 4, ground := Go.Ground.data }, { on := 8, ground := Go.Ground.gcOnly Go.Departure.lateStores }], guard := none }) (v := ?v6rxx) rfl (by kernel_rfl) (by kernel_rfl) (by kernel_rfl) (fun _ _ _ h => h) (Or.inl ⟨by rfl, ?hy6rxx⟩) hHeld ?rest6rxx
        case hy6rxx => (intro W hSw; (try dsimp only at hSw); go_simp; try with_reducible rfl)
        try simp only [Act.put, List.setIfInBounds_toArray, List.set_cons_zero, List.set_cons_succ]
        refine wpAnyH_ready (rs := [7]) (by kernel_rfl) (by simp) ?_
        refine AllReadyH.cons (o := { dst := some 8, op := Go.Op.alloc 36, type := 0, pos := "law.go:127", after := #[], guard := none }) rfl (fun K hK => ?_) AllReadyH.nil
        go_simp
        refine hK.out _ _ (hHeld.alloc hHeld.size _) (fun hHeld' => ?_)
        clear hK K hHeld
        have hHeld := hHeld'
        clear hHeld'
        try simp only [Act.put, List.setIfInBounds_toArray, List.set_cons_zero, List.set_cons_succ]
        have hz1 := hb1.size
        have hz5 := hHeld.size
        have hbx : DBox (n1.alloc (.cells Tryz.zeroCells36 36)) n1.heap.size Tryz.zeroCells36 := heap_alloc_at n1 _
        have hd1b := hd1.keep ((Below.refl _ n1).alloc (Nat.le_refl _) (.cells Tryz.zeroCells36 36))
        refine wpAnyH_ready (rs := [8]) (by kernel_rfl) (by simp) ?_
        refine AllReadyH.cons (o := { dst := none, op := Go.Op.store 36 (Go.Operand.tmp 8) (Go.Operand.tmp 41), type := 0, pos := "law.go:127", after := #[{ on := 7, ground := Go.Ground.data }, { on := 5, ground := Go.Ground.data }, { on := 3, ground := Go.Ground.chain }, { on := 0, ground := Go.Ground.phase }, { on := 1, ground := Go.Ground.phase }, { on := 2, ground := Go.Ground.phase }, { on := 3, ground := Go.Ground.phase }, { on := 4, ground := Go.Ground.phase }, { on := 5, ground := Go.Ground.phase }, { on := 6, ground := Go.Ground.textOnly Go.Departure.lateStores }, { on := 7, ground := Go.Ground.phase }], guard := none }) rfl (fun K hK => ?_) AllReadyH.nil
        rw [if_pos (by rfl)]
        refine wp_store_mid 36 _ _ rfl _ _ c1 rfl rfl (there_ofr hbx _ (by rw [hd1.choose_spec.size, zeroCr_size]; exact Nat.le_refl _)) (by rw [hd1.choose_spec.size]; exact info66r) hd1.choose_spec.one ?_
        refine hK.out _ _ (below_setCellsr (by omega) _ _ hHeld) (fun hHeld' => ?_)
        clear hK K hHeld
        have hHeld := hHeld'
        clear hHeld'
        try simp only [Act.put, List.setIfInBounds_toArray, List.set_cons_zero, List.set_cons_succ]
        refine wpAnyH_take (i := 9) (oi := { dst := some 9, op := Go.Op.assign (Go.Operand.tmp 42), type := 3, pos := "law.go:127", after := #[{ on := 6, ground := Go.Ground.data }, { on := 8, ground := Go.Ground.chain }, { on := 0, ground := Go.Ground.phase }, { on := 1, ground := Go.Ground.phase }, { on := 2, ground := Go.Ground.phase }, { on := 3, ground := Go.Ground.phase }, { on := 4, ground := Go.Ground.phase }, { on := 5, ground := Go.Ground.phase }, { on := 6, ground := Go.Ground.phase }, { on := 7, ground := Go.Ground.phase }, { on := 8, ground := Go.Ground.phase }], guard := none }) (v := ?v9rxx) rfl (by kernel_rfl) (by kernel_rfl) (by kernel_rfl) (fun _ _ _ h => h) (Or.inl ⟨by rfl, ?hy9rxx⟩) hHeld ?rest9rxx
        case hy9rxx => (intro W hSw; (try dsimp only at hSw); go_simp; try with_reducible rfl)
        try simp only [Act.put, List.setIfInBounds_toArray, List.set_cons_zero, List.set_cons_succ]
        refine wpAnyH_done (by kernel_rfl) ?_ _
        try dsimp only
        try simp only [Act.put, List.setIfInBounds_toArray, List.set_cons_zero, List.set_cons_succ]
        go_wp2_with fail
        go_meet
        exact ⟨_, _, rfl, rfl, Lib.hid ⟨hbx.store (hd1.choose_spec.size.trans zeroCr_size.symm), hd1b.store (.inl hbx), hHeld, by omega⟩⟩
      · go_simp
        refine hK.out _ _ (hHeld.alloc hHeld.size _) (fun hHeld' => ?_)
        clear hK K hHeld
        have hHeld := hHeld'
        clear hHeld'
        try simp only [Act.put, List.setIfInBounds_toArray, List.set_cons_zero, List.set_cons_succ]
        have hz5 := hHeld.size
        have hbx : DBox (n0.alloc (.cells Tryz.zeroCells36 36)) n0.heap.size Tryz.zeroCells36 := heap_alloc_at n0 _
        refine wpAnyH_ready (rs := [3]) (by kernel_rfl) (by simp) ?_
        refine AllReadyH.cons (o := { dst := some 40, op := Go.Op.call { callee := Go.Callee.value (Go.Operand.func 15), args := #[Go.Operand.tmp 37, Go.Operand.const (Go.Value.int Go.IntKind.i64 0), Go.Operand.tmp 39], argTypes := #[36, 3, 9] }, type := 49, pos := "law.go:127", after := #[{ on := 0, ground := Go.Ground.data }, { on := 2, ground := Go.Ground.data }, { on := 0, ground := Go.Ground.chain }], guard := none }) rfl (fun K hK => ?_) AllReadyH.nil
        go_simp
        go_at_call 15
        refine (HRA.out _ _ _ (hr0.keep ((Below.refl _ n0).alloc (Nat.le_refl _) _))).mono ?_
        rintro e n1 ⟨c1, rfl, hd1, hb1⟩
        refine hK.out _ _ (hHeld.trans (hb1.mono hHeld.size)) (fun hHeld' => ?_)
        clear hK K hHeld
        have hHeld := hHeld'
        clear hHeld'
        try simp only [Act.put, List.setIfInBounds_toArray, List.set_cons_zero, List.set_cons_succ]
        replace hbx := hbx.keep hb1
        refine wpAnyH_take (i := 4) (oi := { dst := some 36, op := Go.Op.move (Go.Operand.tmp 40), type := 49, pos := "law.go:127", after := #[{ on := 3, ground := Go.Ground.data }], guard := none }) (v := ?v4rxy) rfl (by kernel_rfl) (by kernel_rfl) (by kernel_rfl) (fun _ _ _ h => h) (Or.inl ⟨by rfl, ?hy4rxy⟩) hHeld ?rest4rxy
        case hy4rxy => (intro W hSw; (try dsimp only at hSw); go_simp; try with_reducible rfl)
        try simp only [Act.put, List.setIfInBounds_toArray, List.set_cons_zero, List.set_cons_succ]
        refine wpAnyH_take (i := 5) (oi := { dst := some 41, op := Go.Op.extract (Go.Operand.tmp 36) 0, type := 36, pos := "law.go:127", after := #[{ on := 4, ground := Go.Ground.data }], guard := none }) (v := ?v5rxy) rfl (by kernel_rfl) (by kernel_rfl) (by kernel_rfl) (fun _ _ _ h => h) (Or.inl ⟨by rfl, ?hy5rxy⟩) hHeld ?rest5rxy
        case hy5rxy => (intro W hSw; (try dsimp only at hSw); go_simp; try with_reducible rfl)
        try simp only [Act.put, List.setIfInBounds_toArray, List.set_cons_zero, List.set_cons_succ]
        refine wpAnyH_take (i := 6) (oi := { dst := some 42, op := Go.Op.extract (Go.Operand.tmp 36) 1, type := 3, pos := "law.go:127", after := #[{ on := 4, ground := Go.Ground.data }, { on := 8, ground := Go.Ground.gcOnly Go.Departure.lateStores }], guard := none }) (v := ?v6rxy) rfl (by kernel_rfl) (by kernel_rfl) (by kernel_rfl) (fun _ _ _ h => h) (Or.inl ⟨by rfl, ?hy6rxy⟩) hHeld ?rest6rxy
        case hy6rxy => (intro W hSw; (try dsimp only at hSw); go_simp; try with_reducible rfl)
        try simp only [Act.put, List.setIfInBounds_toArray, List.set_cons_zero, List.set_cons_succ]
        refine wpAnyH_ready (rs := [8]) (by kernel_rfl) (by simp) ?_
        refine AllReadyH.cons (o := { dst := none, op := Go.Op.store 36 (Go.Operand.tmp 8) (Go.Operand.tmp 41), type := 0, pos := "law.go:127", after := #[{ on := 7, ground := Go.Ground.data }, { on := 5, ground := Go.Ground.data }, { on := 3, ground := Go.Ground.chain }, { on := 0, ground := Go.Ground.phase }, { on := 1, ground := Go.Ground.phase }, { on := 2, ground := Go.Ground.phase }, { on := 3, ground := Go.Ground.phase }, { on := 4, ground := Go.Ground.phase }, { on := 5, ground := Go.Ground.phase }, { on := 6, ground := Go.Ground.textOnly Go.Departure.lateStores }, { on := 7, ground := Go.Ground.phase }], guard := none }) rfl (fun K hK => ?_) AllReadyH.nil
        rw [if_pos (by rfl)]
        refine wp_store_mid 36 _ _ rfl _ _ c1 rfl rfl (there_ofr hbx _ (by rw [hd1.choose_spec.size, zeroCr_size]; exact Nat.le_refl _)) (by rw [hd1.choose_spec.size]; exact info66r) hd1.choose_spec.one ?_
        refine hK.out _ _ (below_setCellsr (by omega) _ _ hHeld) (fun hHeld' => ?_)
        clear hK K hHeld
        have hHeld := hHeld'
        clear hHeld'
        try simp only [Act.put, List.setIfInBounds_toArray, List.set_cons_zero, List.set_cons_succ]
        refine wpAnyH_take (i := 9) (oi := { dst := some 9, op := Go.Op.assign (Go.Operand.tmp 42), type := 3, pos := "law.go:127", after := #[{ on := 6, ground := Go.Ground.data }, { on := 8, ground := Go.Ground.chain }, { on := 0, ground := Go.Ground.phase }, { on := 1, ground := Go.Ground.phase }, { on := 2, ground := Go.Ground.phase }, { on := 3, ground := Go.Ground.phase }, { on := 4, ground := Go.Ground.phase }, { on := 5, ground := Go.Ground.phase }, { on := 6, ground := Go.Ground.phase }, { on := 7, ground := Go.Ground.phase }, { on := 8, ground := Go.Ground.phase }], guard := none }) (v := ?v9rxy) rfl (by kernel_rfl) (by kernel_rfl) (by kernel_rfl) (fun _ _ _ h => h) (Or.inl ⟨by rfl, ?hy9rxy⟩) hHeld ?rest9rxy
        case hy9rxy => (intro W hSw; (try dsimp only at hSw); go_simp; try with_reducible rfl)
        try simp only [Act.put, List.setIfInBounds_toArray, List.set_cons_zero, List.set_cons_succ]
        refine wpAnyH_done (by kernel_rfl) ?_ _
        try dsimp only
        try simp only [Act.put, List.setIfInBounds_toArray, List.set_cons_zero, List.set_cons_succ]
        go_wp2_with fail
        go_meet
        exact ⟨_, _, rfl, rfl, Lib.hid ⟨hbx.store (hd1.choose_spec.size.trans zeroCr_size.symm), hd1.store (.inl hbx), hHeld, by omega⟩⟩
    · go_simp
      refine hK.out _ _ (hHeld.alloc hHeld.size _) (fun hHeld' => ?_)
      clear hK K hHeld
      have hHeld := hHeld'
      clear hHeld'
      try simp only [Act.put, List.setIfInBounds_toArray, List.set_cons_zero, List.set_cons_succ]
      have hz5 := hHeld.size
      have hbx : DBox (w5.drew.alloc (.cells Tryz.zeroCells36 36)) w5.drew.heap.size Tryz.zeroCells36 := heap_alloc_at w5.drew _
      refine wpAnyH_ready (rs := [0]) (by kernel_rfl) (by simp) ?_
      refine AllReadyH.cons (o := { dst := some 37, op := Go.Op.call { callee := Go.Callee.value (Go.Operand.func 11), args := #[Go.Operand.const (Go.Value.int Go.IntKind.i64 3000)], argTypes := #[3] }, type := 36, pos := "law.go:127", after := #[], guard := none }) rfl (fun K hK => ?_) AllReadyH.nil
      go_simp
      go_at_call 11
      refine (HRN.out _).mono ?_
      rintro e n0 ⟨c0, v0, rfl, hr0, hb0⟩
      refine hK.out _ _ (hHeld.trans (hb0.mono hHeld.size)) (fun hHeld' => ?_)
      clear hK K hHeld
      have hHeld := hHeld'
      clear hHeld'
      try simp only [Act.put, List.setIfInBounds_toArray, List.set_cons_zero, List.set_cons_succ]
      replace hbx := hbx.keep hb0
      refine wpAnyH_ready (rs := [3]) (by kernel_rfl) (by simp) ?_
      refine AllReadyH.cons (o := { dst := some 40, op := Go.Op.call { callee := Go.Callee.value (Go.Operand.func 15), args := #[Go.Operand.tmp 37, Go.Operand.const (Go.Value.int Go.IntKind.i64 0), Go.Operand.tmp 39], argTypes := #[36, 3, 9] }, type := 49, pos := "law.go:127", after := #[{ on := 0, ground := Go.Ground.data }, { on := 2, ground := Go.Ground.data }, { on := 0, ground := Go.Ground.chain }], guard := none }) rfl (fun K hK => ?_) AllReadyH.nil
      go_simp
      go_at_call 15
      refine (HRA.out _ _ _ hr0).mono ?_
      rintro e n1 ⟨c1, rfl, hd1, hb1⟩
      refine hK.out _ _ (hHeld.trans (hb1.mono hHeld.size)) (fun hHeld' => ?_)
      clear hK K hHeld
      have hHeld := hHeld'
      clear hHeld'
      try simp only [Act.put, List.setIfInBounds_toArray, List.set_cons_zero, List.set_cons_succ]
      replace hbx := hbx.keep hb1
      refine wpAnyH_take (i := 4) (oi := { dst := some 36, op := Go.Op.move (Go.Operand.tmp 40), type := 49, pos := "law.go:127", after := #[{ on := 3, ground := Go.Ground.data }], guard := none }) (v := ?v4ry) rfl (by kernel_rfl) (by kernel_rfl) (by kernel_rfl) (fun _ _ _ h => h) (Or.inl ⟨by rfl, ?hy4ry⟩) hHeld ?rest4ry
      case hy4ry => (intro W hSw; (try dsimp only at hSw); go_simp; try with_reducible rfl)
      try simp only [Act.put, List.setIfInBounds_toArray, List.set_cons_zero, List.set_cons_succ]
      refine wpAnyH_take (i := 5) (oi := { dst := some 41, op := Go.Op.extract (Go.Operand.tmp 36) 0, type := 36, pos := "law.go:127", after := #[{ on := 4, ground := Go.Ground.data }], guard := none }) (v := ?v5ry) rfl (by kernel_rfl) (by kernel_rfl) (by kernel_rfl) (fun _ _ _ h => h) (Or.inl ⟨by rfl, ?hy5ry⟩) hHeld ?rest5ry
      case hy5ry => (intro W hSw; (try dsimp only at hSw); go_simp; try with_reducible rfl)
      try simp only [Act.put, List.setIfInBounds_toArray, List.set_cons_zero, List.set_cons_succ]
      refine wpAnyH_take (i := 6) (oi := { dst := some 42, op := Go.Op.extract (Go.Operand.tmp 36) 1, type := 3, pos := "law.go:127", after := #[{ on := 4, ground := Go.Ground.data }, { on := 8, ground := Go.Ground.gcOnly Go.Departure.lateStores }], guard := none }) (v := ?v6ry) rfl (by kernel_rfl) (by kernel_rfl) (by kernel_rfl) (fun _ _ _ h => h) (Or.inl ⟨by rfl, ?hy6ry⟩) hHeld ?rest6ry
      case hy6ry => (intro W hSw; (try dsimp only at hSw); go_simp; try with_reducible rfl)
      try simp only [Act.put, List.setIfInBounds_toArray, List.set_cons_zero, List.set_cons_succ]
      refine wpAnyH_ready (rs := [8]) (by kernel_rfl) (by simp) ?_
      refine AllReadyH.cons (o := { dst := none, op := Go.Op.store 36 (Go.Operand.tmp 8) (Go.Operand.tmp 41), type := 0, pos := "law.go:127", after := #[{ on := 7, ground := Go.Ground.data }, { on := 5, ground := Go.Ground.data }, { on := 3, ground := Go.Ground.chain }, { on := 0, ground := Go.Ground.phase }, { on := 1, ground := Go.Ground.phase }, { on := 2, ground := Go.Ground.phase }, { on := 3, ground := Go.Ground.phase }, { on := 4, ground := Go.Ground.phase }, { on := 5, ground := Go.Ground.phase }, { on := 6, ground := Go.Ground.textOnly Go.Departure.lateStores }, { on := 7, ground := Go.Ground.phase }], guard := none }) rfl (fun K hK => ?_) AllReadyH.nil
      rw [if_pos (by rfl)]
      refine wp_store_mid 36 _ _ rfl _ _ c1 rfl rfl (there_ofr hbx _ (by rw [hd1.choose_spec.size, zeroCr_size]; exact Nat.le_refl _)) (by rw [hd1.choose_spec.size]; exact info66r) hd1.choose_spec.one ?_
      refine hK.out _ _ (below_setCellsr (Nat.le_refl _) _ _ hHeld) (fun hHeld' => ?_)
      clear hK K hHeld
      have hHeld := hHeld'
      clear hHeld'
      try simp only [Act.put, List.setIfInBounds_toArray, List.set_cons_zero, List.set_cons_succ]
      refine wpAnyH_take (i := 9) (oi := { dst := some 9, op := Go.Op.assign (Go.Operand.tmp 42), type := 3, pos := "law.go:127", after := #[{ on := 6, ground := Go.Ground.data }, { on := 8, ground := Go.Ground.chain }, { on := 0, ground := Go.Ground.phase }, { on := 1, ground := Go.Ground.phase }, { on := 2, ground := Go.Ground.phase }, { on := 3, ground := Go.Ground.phase }, { on := 4, ground := Go.Ground.phase }, { on := 5, ground := Go.Ground.phase }, { on := 6, ground := Go.Ground.phase }, { on := 7, ground := Go.Ground.phase }, { on := 8, ground := Go.Ground.phase }], guard := none }) (v := ?v9ry) rfl (by kernel_rfl) (by kernel_rfl) (by kernel_rfl) (fun _ _ _ h => h) (Or.inl ⟨by rfl, ?hy9ry⟩) hHeld ?rest9ry
      case hy9ry => (intro W hSw; (try dsimp only at hSw); go_simp; try with_reducible rfl)
      try simp only [Act.put, List.setIfInBounds_toArray, List.set_cons_zero, List.set_cons_succ]
      refine wpAnyH_done (by kernel_rfl) ?_ _
      try dsimp only
      try simp only [Act.put, List.setIfInBounds_toArray, List.set_cons_zero, List.set_cons_succ]
      go_wp2_with fail
      go_meet
      exact ⟨_, _, rfl, rfl, Lib.hid ⟨hbx.store (hd1.choose_spec.size.trans zeroCr_size.symm), hd1.store (.inl hbx), hHeld, Nat.le_refl _⟩⟩
  case rest =>
    obtain ⟨p8, c1, rfl, rfl, H6⟩ := hcut
    have HBw5 : Hid (Below w.heap.size w w5) := Lib.hid (HB1.out.trans (HB15.out.mono HB1.out.size))
    have hr8 := H6.out.1.range
    have huD := Tryz.underlying36
    have huL := Tryz.underlying38
    obtain ⟨vd, hvd⟩ := H6.out.2.1
    have hinf8 : (Tryz.prog.info? 36).map (·.size) = some c1.toList.length := by rw [Array.length_toList, hvd.size]; exact info66r
    have HOR6 := Lib.hid (HOR.out wc c1 H6.out.2.1)
    obtain ⟨t, ht⟩ : ∃ t : Int, ((l.length - wholeN l : Nat) : Int) = t := ⟨_, rfl⟩
    rw [ht] at HOR6 HR5
    obtain ⟨D2, hD2⟩ : ∃ D2, opD D1 0 = D2 := ⟨_, rfl⟩
    have hisop := Lib.hid (fun V q cl (h1 : LRun W1 V q p (opD D1 0) (0 : Nat) (((opD D1 0).F 0).length : Nat) ((D1.F 0).length - wholeN (D1.F 0) : Nat)) (h2 : RLg V cl (opD D1 0) 0 ((D1.F 0).length - wholeN (D1.F 0) : Nat)) => is_open h1 (by decide) h2 99)
    have hinv2 := opD_inv hinv1 hfew1 0
    rw [hF1, ht] at hisop
    rw [hD2] at HOR6 HR5 hisop hinv2
    have HST : Hid (∀ w6 cl, RLg w6 cl D2 0 t → (w6.alloc (.cells Tryz.zeroCells38 38)).there w6.heap.size 0 cl.size ∧ (Tryz.prog.info? 38).map (·.size) = some cl.size ∧ cl.all (·.oneCell') = true ∧ ∃ w7, ((w6.alloc (.cells Tryz.zeroCells38 38)).setCells w6.heap.size 0 cl.toList) = w7 ∧ Hid (LBox w7 w6.heap.size cl ∧ RLg w7 cl D2 0 t ∧ Below w6.heap.size w6 w7)) := Lib.hid fun w6 cl h => by
      have hL : LBox (w6.alloc (.cells Tryz.zeroCells38 38)) w6.heap.size Tryz.zeroCells38 := heap_alloc_at w6 _
      have hba : Below w6.heap.size w6 (w6.alloc (.cells Tryz.zeroCells38 38)) := (Below.refl _ w6).alloc (Nat.le_refl _) _
      exact ⟨there_ofr hL _ (by rw [h.size, zeroL_size]; exact Nat.le_refl _), by rw [h.size]; exact info68, h.one, _, rfl, Lib.hid ⟨hL.store (h.size.trans zeroL_size.symm), (h.keep hba).store (.inr hL), below_setCellsr (Nat.le_refl _) _ _ hba⟩⟩
    clear hvd hinv0 hinv1 hfew1 hF1 hleft hdid hap hD1 HRN HRA HND HAP HOP HOR HCV
    go_upto_region 8 with (first | (refine wpList_load_mid rfl 36 _ rfl _ _ rfl _ _ hr8 huD rfl hinf8 ?_; simp only [Act.put, List.setIfInBounds_toArray, List.set_cons_zero, List.set_cons_succ]) | (go_at_call 10; refine HOR6.out.mono ?_; rintro e w6 ⟨cl, rfl, hg6, hb6⟩; obtain ⟨ht7, hinf7, hone7, w7, hw7, H7⟩ := HST.out w6 cl hg6; have HB6 := Lib.hid hb6; clear hb6 hg6) | (refine wpList_store_mid rfl 38 _ _ rfl _ _ cl rfl rfl ht7 hinf7 hone7 ?_; simp only [Act.put]))
    try rw [hw7]
    clear hw7 ht7 hr8 hinf8
    have HB57 : Hid (Below w5.heap.size w5 w7) := Lib.hid (H6.out.2.2.1.trans ((HB6.out.trans (H7.out.2.2.mono HB6.out.size)).mono H6.out.2.2.1.size))
    have HBw7 : Hid (Below w.heap.size w w7) := Lib.hid (HBw5.out.trans (HB57.out.mono HBw5.out.size))
    have HV7 : Hid (∀ V, Below w7.heap.size w7 V → BytesOf V (.slice ob l.length cb) l) := Lib.hid fun V hb => HV.out.keep (HBw7.out.trans (hb.mono HBw7.out.size)) (Nat.le_refl _)
    have HCV7 : Hid (∀ V, Below w7.heap.size w7 V → (convert 43 9 (.slice ob l.length cb)).run Tryz.prog V = .ok (.string ⟨l.toArray⟩) V) := Lib.hid fun V hb => bytes_string (HV7.out V hb).at
    have HPW : Hid (∀ V, Below w7.heap.size w7 V → Calls Tryz.prog 16 #[.slice ob l.length cb] V fun e w' => e = .returned (.int .i64 (wholeN l : Nat)) ∧ Below V.heap.size V w') := Lib.hid fun V hb => Whole_any ob cb l V (HV7.out V hb) (by omega)
    have HRW := Lib.hid (fun V => rWhole_any l V (by omega))
    have HR7 : Hid (∀ V, Below w7.heap.size w7 V → LRun W1 V q p D2 (0 : Nat) ((D2.F 0).length : Nat) t) := Lib.hid fun V hb => HR5.out.below (HB57.out.trans (hb.mono HB57.out.size))
    have HIS := Lib.hid (fun V (hb : Below w7.heap.size w7 V) => hisop.out V q cl (HR7.out V hb) (H7.out.2.1.keep hb))
    have HPL : Hid (∀ V, Below w7.heap.size w7 V → Calls Tryz.prog 18 #[.pointer (some ⟨p, 0, none⟩)] V fun e w' => e = .returned (.int .i64 D2.left) ∧ Below V.heap.size V w') := Lib.hid fun V hb => by
      obtain ⟨Φ, k1, _, k3, _⟩ := HR7.out V hb
      exact Left_any k1 k3
    have HPO : Hid (∀ V, Below w7.heap.size w7 V → Calls Tryz.prog 20 #[.pointer (some ⟨p, 0, none⟩)] V fun e w' => e = .returned (.int .i64 D2.L.length) ∧ V = w') := Lib.hid fun V hb => by
      obtain ⟨Φ, k1, _⟩ := HR7.out V hb
      exact Loose_any k1
    have HRL : Hid (∀ V, Below w7.heap.size w7 V → Calls Tryz.prog 19 #[.agg (cl.extract 0 66)] V fun e w' => e = .returned (.int .i64 D2.left) ∧ Below V.heap.size V w') := Lib.hid fun V hb => by
      obtain ⟨v2, k⟩ := (H7.out.2.1.keep hb).disk
      exact rrLeft_any k hinv2
    obtain ⟨v2, hv2⟩ := H7.out.2.1.disk
    obtain ⟨ov, cv, hvf⟩ : ∃ ov cv, v2 = .slice ov D2.L.length cv := by
      rcases hv2.row.2 with ⟨e0, e1⟩ | ⟨g, cap, _, e0, _⟩
      · exact ⟨none, 0, by rw [e0, e1]⟩
      · exact ⟨_, _, e0⟩
    subst hvf
    have hc65 : cl[65]? = some (.slice ov D2.L.length cv) := by
      have := hv2.things
      rw [Array.getElem?_extract] at this
      simpa [H7.out.2.1.size] using this
    have HBL : Hid (∀ V, Below w7.heap.size w7 V → V.rangeAt w6.heap.size 0 cl.toList ∧ V.rangeAt w6.heap.size 0 (cl.extract 0 66).toList ∧ V.cell? ⟨w6.heap.size, 65, none⟩ = some (.slice ov D2.L.length cv)) := Lib.hid fun V hb => ⟨(H7.out.1.keep hb).range, (H7.out.1.keep hb).disk, (H7.out.1.keep hb).cell hc65⟩
    have hinfL : (Tryz.prog.info? 38).map (·.size) = some cl.toList.length := by rw [Array.length_toList, H7.out.2.1.size]; exact info68
    have hinfD : (Tryz.prog.info? 36).map (·.size) = some (cl.extract 0 66).toList.length := by rw [disk_size H7.out.2.1.size]; exact info66r
    have hbne : ∀ a : Int, (a != a) = false := fun a => by simp
    have hw0 : IntKind.i64.wrap 0 = 0 := by decide
    clear hv2 hc65 HST HOR6 hisop hinv2 HR7 HV7
    generalize cl.extract 0 66 = cx at *
    refine wp_normal ?_
    -- BEGIN hand_rdB
    refine wp_region_held_drew (S := fun W => Below w7.heap.size w7 W) (by kernel_rfl) ?_ (fun hHeld => ?_)
    · exact (Below.refl _ w7).drew
    refine wpAnyH_take (i := 0) (oi := { dst := some 45, op := Go.Op.move (Go.Operand.tmp 4), type := 26, pos := "law.go:129", after := #[], guard := none }) (v := ?v0b) rfl (by kernel_rfl) (by kernel_rfl) (by kernel_rfl) (fun _ _ _ h => h) (Or.inl ⟨by rfl, ?hy0b⟩) hHeld ?rest0b
    case hy0b => (intro W hSw; (try dsimp only at hSw); go_simp; try with_reducible rfl)
    try simp only [Act.put, List.setIfInBounds_toArray, List.set_cons_zero, List.set_cons_succ]
    refine wpAnyH_take (i := 2) (oi := { dst := some 47, op := Go.Op.move (Go.Operand.tmp 5), type := 26, pos := "law.go:129", after := #[], guard := none }) (v := ?v2b) rfl (by kernel_rfl) (by kernel_rfl) (by kernel_rfl) (fun _ _ _ h => h) (Or.inl ⟨by rfl, ?hy2b⟩) hHeld ?rest2b
    case hy2b => (intro W hSw; (try dsimp only at hSw); go_simp; try with_reducible rfl)
    try simp only [Act.put, List.setIfInBounds_toArray, List.set_cons_zero, List.set_cons_succ]
    refine wpAnyH_take (i := 5) (oi := { dst := some 50, op := Go.Op.move (Go.Operand.tmp 7), type := 26, pos := "law.go:129", after := #[], guard := none }) (v := ?v5b) rfl (by kernel_rfl) (by kernel_rfl) (by kernel_rfl) (fun _ _ _ h => h) (Or.inl ⟨by rfl, ?hy5b⟩) hHeld ?rest5b
    case hy5b => (intro W hSw; (try dsimp only at hSw); go_simp; try with_reducible rfl)
    try simp only [Act.put, List.setIfInBounds_toArray, List.set_cons_zero, List.set_cons_succ]
    refine wpAnyH_ready (rs := [1]) (by kernel_rfl) (by simp) ?_
    refine AllReadyH.cons (o := { dst := some 46, op := Go.Op.call { callee := Go.Callee.value (Go.Operand.func 9), args := #[Go.Operand.tmp 45], argTypes := #[26] }, type := 3, pos := "law.go:129", after := #[{ on := 0, ground := Go.Ground.data }], guard := none }) rfl (fun K hK => ?_) AllReadyH.nil
    go_simp
    go_at_call 9
    refine (lnum10_any _ _).mono ?_
    rintro e wx ⟨rfl, rfl⟩
    refine hK.out _ _ (hHeld) (fun hHeld' => ?_)
    clear hK K hHeld
    have hHeld := hHeld'
    clear hHeld'
    try simp only [Act.put, List.setIfInBounds_toArray, List.set_cons_zero, List.set_cons_succ]
    refine wpAnyH_ready (rs := [3]) (by kernel_rfl) (by simp) ?_
    refine AllReadyH.cons (o := { dst := some 48, op := Go.Op.call { callee := Go.Callee.value (Go.Operand.func 9), args := #[Go.Operand.tmp 47], argTypes := #[26] }, type := 3, pos := "law.go:129", after := #[{ on := 2, ground := Go.Ground.data }, { on := 1, ground := Go.Ground.chain }], guard := none }) rfl (fun K hK => ?_) AllReadyH.nil
    go_simp
    go_at_call 9
    refine (lnum10_any _ _).mono ?_
    rintro e wx ⟨rfl, rfl⟩
    refine hK.out _ _ (hHeld) (fun hHeld' => ?_)
    clear hK K hHeld
    have hHeld := hHeld'
    clear hHeld'
    try simp only [Act.put, List.setIfInBounds_toArray, List.set_cons_zero, List.set_cons_succ]
    refine wpAnyH_take (i := 4) (oi := { dst := some 49, op := Go.Op.binOp Go.BinOp.add 3 (Go.Operand.tmp 46) (Go.Operand.tmp 48) 3, type := 3, pos := "law.go:129", after := #[{ on := 1, ground := Go.Ground.data }, { on := 3, ground := Go.Ground.data }], guard := none }) (v := ?v4b) rfl (by kernel_rfl) (by kernel_rfl) (by kernel_rfl) (fun _ _ _ h => h) (Or.inl ⟨by rfl, ?hy4b⟩) hHeld ?rest4b
    case hy4b => (intro W hSw; (try dsimp only at hSw); go_simp; try with_reducible rfl)
    try simp only [Act.put, List.setIfInBounds_toArray, List.set_cons_zero, List.set_cons_succ]
    refine wpAnyH_ready (rs := [6]) (by kernel_rfl) (by simp) ?_
    refine AllReadyH.cons (o := { dst := some 51, op := Go.Op.call { callee := Go.Callee.value (Go.Operand.func 9), args := #[Go.Operand.tmp 50], argTypes := #[26] }, type := 3, pos := "law.go:129", after := #[{ on := 5, ground := Go.Ground.data }, { on := 3, ground := Go.Ground.chain }], guard := none }) rfl (fun K hK => ?_) AllReadyH.nil
    go_simp
    go_at_call 9
    refine (lnum10_any _ _).mono ?_
    rintro e wx ⟨rfl, rfl⟩
    refine hK.out _ _ (hHeld) (fun hHeld' => ?_)
    clear hK K hHeld
    have hHeld := hHeld'
    clear hHeld'
    try simp only [Act.put, List.setIfInBounds_toArray, List.set_cons_zero, List.set_cons_succ]
    refine wpAnyH_take (i := 7) (oi := { dst := some 52, op := Go.Op.binOp Go.BinOp.add 3 (Go.Operand.tmp 49) (Go.Operand.tmp 51) 3, type := 3, pos := "law.go:129", after := #[{ on := 4, ground := Go.Ground.data }, { on := 6, ground := Go.Ground.data }], guard := none }) (v := ?v7b) rfl (by kernel_rfl) (by kernel_rfl) (by kernel_rfl) (fun _ _ _ h => h) (Or.inl ⟨by rfl, ?hy7b⟩) hHeld ?rest7b
    case hy7b => (intro W hSw; (try dsimp only at hSw); go_simp; try with_reducible rfl)
    try simp only [Act.put, List.setIfInBounds_toArray, List.set_cons_zero, List.set_cons_succ]
    refine wpAnyH_take (i := 8) (oi := { dst := some 53, op := Go.Op.binOp Go.BinOp.neq 3 (Go.Operand.tmp 52) (Go.Operand.const (Go.Value.int Go.IntKind.i64 0)) 3, type := 4, pos := "law.go:129", after := #[{ on := 7, ground := Go.Ground.data }], guard := none }) (v := .bool false) rfl (by kernel_rfl) (by kernel_rfl) (by kernel_rfl) (fun _ _ _ h => h) (Or.inl ⟨by rfl, ?hy8b⟩) hHeld ?rest8b
    case hy8b => (intro W hSw; (try dsimp only at hSw); go_simp; try with_reducible rfl)
    try simp only [Act.put, List.setIfInBounds_toArray, List.set_cons_zero, List.set_cons_succ]
    refine wpAnyH_take (i := 9) (oi := { dst := some 54, op := Go.Op.move (Go.Operand.tmp 53), type := 4, pos := "law.go:129", after := #[{ on := 8, ground := Go.Ground.data }, { on := 6, ground := Go.Ground.chain }], guard := none }) (v := .bool false) rfl (by kernel_rfl) (by kernel_rfl) (by kernel_rfl) (fun _ _ _ h => h) (Or.inl ⟨by rfl, ?hy9b⟩) hHeld ?rest9b
    case hy9b => (intro W hSw; (try dsimp only at hSw); go_simp; try with_reducible rfl)
    try simp only [Act.put, List.setIfInBounds_toArray, List.set_cons_zero, List.set_cons_succ]
    refine wpAnyH_take (i := 10) (oi := { dst := some 55, op := Go.Op.move (Go.Operand.tmp 0), type := 43, pos := "law.go:129", after := #[{ on := 9, ground := Go.Ground.guard }], guard := some (9, false) }) (v := ?v10b) rfl (by kernel_rfl) (by kernel_rfl) (by kernel_rfl) (fun _ _ _ h => h) (Or.inl ⟨by rfl, ?hy10b⟩) hHeld ?rest10b
    case hy10b => (intro W hSw; (try dsimp only at hSw); go_simp; try with_reducible rfl)
    try simp only [Act.put, List.setIfInBounds_toArray, List.set_cons_zero, List.set_cons_succ]
    refine wpAnyH_take (i := 12) (oi := { dst := some 57, op := Go.Op.move (Go.Operand.tmp 0), type := 43, pos := "law.go:129", after := #[{ on := 9, ground := Go.Ground.guard }], guard := some (9, false) }) (v := ?v12b) rfl (by kernel_rfl) (by kernel_rfl) (by kernel_rfl) (fun _ _ _ h => h) (Or.inl ⟨by rfl, ?hy12b⟩) hHeld ?rest12b
    case hy12b => (intro W hSw; (try dsimp only at hSw); go_simp; try with_reducible rfl)
    try simp only [Act.put, List.setIfInBounds_toArray, List.set_cons_zero, List.set_cons_succ]
    refine wpAnyH_take (i := 13) (oi := { dst := some 58, op := Go.Op.convert 43 9 (Go.Operand.tmp 57), type := 9, pos := "law.go:129", after := #[{ on := 12, ground := Go.Ground.data }, { on := 9, ground := Go.Ground.guard }], guard := some (9, false) }) (v := ?v13b) rfl (by kernel_rfl) (by kernel_rfl) (by kernel_rfl) (fun _ _ _ h => h) (Or.inl ⟨by rfl, ?hy13b⟩) hHeld ?rest13b
    case hy13b => (intro W hSw; (try dsimp only at hSw); have hcv := HCV7.out W hSw; go_simp; try with_reducible rfl)
    try simp only [Act.put, List.setIfInBounds_toArray, List.set_cons_zero, List.set_cons_succ]
    refine wpAnyH_ready (rs := [11]) (by kernel_rfl) (by simp) ?_
    refine AllReadyH.cons (o := { dst := some 56, op := Go.Op.call { callee := Go.Callee.value (Go.Operand.func 16), args := #[Go.Operand.tmp 55], argTypes := #[43] }, type := 3, pos := "law.go:129", after := #[{ on := 10, ground := Go.Ground.data }, { on := 9, ground := Go.Ground.chain }, { on := 9, ground := Go.Ground.guard }], guard := some (9, false) }) rfl (fun K hK => ?_) AllReadyH.nil
    go_simp
    go_at_call 16
    refine (HPW.out _ hHeld).mono ?_
    rintro e x1 ⟨rfl, hb1⟩
    refine hK.out _ _ (hHeld.trans (hb1.mono hHeld.size)) (fun hHeld' => ?_)
    clear hK K hHeld
    have hHeld := hHeld'
    clear hHeld'
    try simp only [Act.put, List.setIfInBounds_toArray, List.set_cons_zero, List.set_cons_succ]
    refine wpAnyH_ready (rs := [14]) (by kernel_rfl) (by simp) ?_
    refine AllReadyH.cons (o := { dst := some 59, op := Go.Op.call { callee := Go.Callee.value (Go.Operand.func 17), args := #[Go.Operand.tmp 58], argTypes := #[9] }, type := 3, pos := "law.go:129", after := #[{ on := 13, ground := Go.Ground.data }, { on := 11, ground := Go.Ground.chain }, { on := 9, ground := Go.Ground.guard }], guard := some (9, false) }) rfl (fun K hK => ?_) AllReadyH.nil
    go_simp
    go_at_call 17
    refine (HRW.out _).mono ?_
    rintro e x2 ⟨rfl, hb2⟩
    refine hK.out _ _ (hHeld.trans (hb2.mono hHeld.size)) (fun hHeld' => ?_)
    clear hK K hHeld
    have hHeld := hHeld'
    clear hHeld'
    try simp only [Act.put, List.setIfInBounds_toArray, List.set_cons_zero, List.set_cons_succ]
    refine wpAnyH_take (i := 15) (oi := { dst := some 60, op := Go.Op.binOp Go.BinOp.neq 3 (Go.Operand.tmp 56) (Go.Operand.tmp 59) 3, type := 4, pos := "law.go:129", after := #[{ on := 11, ground := Go.Ground.data }, { on := 14, ground := Go.Ground.data }, { on := 9, ground := Go.Ground.guard }], guard := some (9, false) }) (v := .bool false) rfl (by kernel_rfl) (by kernel_rfl) (by kernel_rfl) (fun _ _ _ h => h) (Or.inl ⟨by rfl, ?hy15b⟩) hHeld ?rest15b
    case hy15b => (intro W hSw; (try dsimp only at hSw); go_simp; try with_reducible rfl)
    try simp only [Act.put, List.setIfInBounds_toArray, List.set_cons_zero, List.set_cons_succ]
    refine wpAnyH_take (i := 16) (oi := { dst := some 61, op := Go.Op.pick (Go.Operand.tmp 54) (Go.Operand.const (Go.Value.bool true)) (Go.Operand.tmp 60), type := 4, pos := "law.go:129", after := #[{ on := 9, ground := Go.Ground.data }, { on := 15, ground := Go.Ground.data }], guard := none }) (v := .bool false) rfl (by kernel_rfl) (by kernel_rfl) (by kernel_rfl) (fun _ _ _ h => h) (Or.inl ⟨by rfl, ?hy16b⟩) hHeld ?rest16b
    case hy16b => (intro W hSw; (try dsimp only at hSw); go_simp; try with_reducible rfl)
    try simp only [Act.put, List.setIfInBounds_toArray, List.set_cons_zero, List.set_cons_succ]
    refine wpAnyH_take (i := 17) (oi := { dst := some 62, op := Go.Op.move (Go.Operand.tmp 61), type := 4, pos := "law.go:129", after := #[{ on := 16, ground := Go.Ground.data }, { on := 14, ground := Go.Ground.chain }], guard := none }) (v := .bool false) rfl (by kernel_rfl) (by kernel_rfl) (by kernel_rfl) (fun _ _ _ h => h) (Or.inl ⟨by rfl, ?hy17b⟩) hHeld ?rest17b
    case hy17b => (intro W hSw; (try dsimp only at hSw); go_simp; try with_reducible rfl)
    try simp only [Act.put, List.setIfInBounds_toArray, List.set_cons_zero, List.set_cons_succ]
    refine wpAnyH_take (i := 18) (oi := { dst := some 63, op := Go.Op.move (Go.Operand.tmp 6), type := 29, pos := "law.go:129", after := #[{ on := 17, ground := Go.Ground.guard }], guard := some (17, false) }) (v := ?v18b) rfl (by kernel_rfl) (by kernel_rfl) (by kernel_rfl) (fun _ _ _ h => h) (Or.inl ⟨by rfl, ?hy18b⟩) hHeld ?rest18b
    case hy18b => (intro W hSw; (try dsimp only at hSw); go_simp; try with_reducible rfl)
    try simp only [Act.put, List.setIfInBounds_toArray, List.set_cons_zero, List.set_cons_succ]
    refine wpAnyH_take (i := 19) (oi := { dst := some 64, op := Go.Op.load 38 (Go.Operand.tmp 10), type := 38, pos := "law.go:129", after := #[{ on := 17, ground := Go.Ground.guard }], guard := some (17, false) }) (v := _) rfl (by kernel_rfl) (by kernel_rfl) (by kernel_rfl) (fun _ _ _ h => h) (yieldsIf_load_mid (by rfl) 38 _ rfl _ _ rfl _ _ (fun W hSw => (HBL.out W hSw).1) huL rfl hinfL) hHeld ?_
    try simp only [Array.toArray_toList, Act.put, List.setIfInBounds_toArray, List.set_cons_zero, List.set_cons_succ]
    refine wpAnyH_ready (rs := [20]) (by kernel_rfl) (by simp) ?_
    refine AllReadyH.cons (o := { dst := some 65, op := Go.Op.call { callee := Go.Callee.value (Go.Operand.func 13), args := #[Go.Operand.tmp 63, Go.Operand.tmp 64, Go.Operand.const (Go.Value.int Go.IntKind.i64 0), Go.Operand.const (Go.Value.int Go.IntKind.i64 99)], argTypes := #[29, 38, 3, 3] }, type := 4, pos := "law.go:129", after := #[{ on := 18, ground := Go.Ground.data }, { on := 19, ground := Go.Ground.data }, { on := 17, ground := Go.Ground.chain }, { on := 17, ground := Go.Ground.guard }], guard := some (17, false) }) rfl (fun K hK => ?_) AllReadyH.nil
    go_simp
    go_at_call 13
    refine (HIS.out _ hHeld).mono ?_
    rintro e x3 ⟨rfl, hb3⟩
    refine hK.out _ _ (hHeld.trans (hb3.mono hHeld.size)) (fun hHeld' => ?_)
    clear hK K hHeld
    have hHeld := hHeld'
    clear hHeld'
    try simp only [Act.put, List.setIfInBounds_toArray, List.set_cons_zero, List.set_cons_succ]
    refine wpAnyH_take (i := 21) (oi := { dst := some 66, op := Go.Op.unOp Go.UnOp.not 4 (Go.Operand.tmp 65), type := 4, pos := "law.go:129", after := #[{ on := 20, ground := Go.Ground.data }, { on := 17, ground := Go.Ground.guard }], guard := some (17, false) }) (v := .bool false) rfl (by kernel_rfl) (by kernel_rfl) (by kernel_rfl) (fun _ _ _ h => h) (Or.inl ⟨by rfl, ?hy21b⟩) hHeld ?rest21b
    case hy21b => (intro W hSw; (try dsimp only at hSw); go_simp; try with_reducible rfl)
    try simp only [Act.put, List.setIfInBounds_toArray, List.set_cons_zero, List.set_cons_succ]
    refine wpAnyH_take (i := 22) (oi := { dst := some 67, op := Go.Op.pick (Go.Operand.tmp 62) (Go.Operand.const (Go.Value.bool true)) (Go.Operand.tmp 66), type := 4, pos := "law.go:129", after := #[{ on := 17, ground := Go.Ground.data }, { on := 21, ground := Go.Ground.data }], guard := none }) (v := .bool false) rfl (by kernel_rfl) (by kernel_rfl) (by kernel_rfl) (fun _ _ _ h => h) (Or.inl ⟨by rfl, ?hy22b⟩) hHeld ?rest22b
    case hy22b => (intro W hSw; (try dsimp only at hSw); go_simp; try with_reducible rfl)
    try simp only [Act.put, List.setIfInBounds_toArray, List.set_cons_zero, List.set_cons_succ]
    refine wpAnyH_take (i := 23) (oi := { dst := some 68, op := Go.Op.move (Go.Operand.tmp 67), type := 4, pos := "law.go:129", after := #[{ on := 22, ground := Go.Ground.data }, { on := 20, ground := Go.Ground.chain }], guard := none }) (v := .bool false) rfl (by kernel_rfl) (by kernel_rfl) (by kernel_rfl) (fun _ _ _ h => h) (Or.inl ⟨by rfl, ?hy23b⟩) hHeld ?rest23b
    case hy23b => (intro W hSw; (try dsimp only at hSw); go_simp; try with_reducible rfl)
    try simp only [Act.put, List.setIfInBounds_toArray, List.set_cons_zero, List.set_cons_succ]
    refine wpAnyH_take (i := 24) (oi := { dst := some 69, op := Go.Op.move (Go.Operand.tmp 3), type := 25, pos := "law.go:129", after := #[{ on := 23, ground := Go.Ground.guard }], guard := some (23, false) }) (v := ?v24b) rfl (by kernel_rfl) (by kernel_rfl) (by kernel_rfl) (fun _ _ _ h => h) (Or.inl ⟨by rfl, ?hy24b⟩) hHeld ?rest24b
    case hy24b => (intro W hSw; (try dsimp only at hSw); go_simp; try with_reducible rfl)
    try simp only [Act.put, List.setIfInBounds_toArray, List.set_cons_zero, List.set_cons_succ]
    refine wpAnyH_take (i := 26) (oi := { dst := some 71, op := Go.Op.fieldAddr 38 (Go.Operand.tmp 10) 0, type := 0, pos := "law.go:129", after := #[{ on := 23, ground := Go.Ground.guard }], guard := some (23, false) }) (v := ?v26b) rfl (by kernel_rfl) (by kernel_rfl) (by kernel_rfl) (fun _ _ _ h => h) (Or.inl ⟨by rfl, ?hy26b⟩) hHeld ?rest26b
    case hy26b => (intro W hSw; (try dsimp only at hSw); go_simp; try with_reducible rfl)
    try simp only [Act.put, List.setIfInBounds_toArray, List.set_cons_zero, List.set_cons_succ]
    refine wpAnyH_take (i := 27) (oi := { dst := some 72, op := Go.Op.load 36 (Go.Operand.tmp 71), type := 36, pos := "law.go:129", after := #[{ on := 26, ground := Go.Ground.data }, { on := 23, ground := Go.Ground.guard }], guard := some (23, false) }) (v := _) rfl (by kernel_rfl) (by kernel_rfl) (by kernel_rfl) (fun _ _ _ h => h) (yieldsIf_load_mid (by rfl) 36 _ rfl _ _ rfl _ _ (fun W hSw => (HBL.out W hSw).2.1) huD rfl hinfD) hHeld ?_
    try simp only [Array.toArray_toList, Act.put, List.setIfInBounds_toArray, List.set_cons_zero, List.set_cons_succ]
    refine wpAnyH_ready (rs := [25]) (by kernel_rfl) (by simp) ?_
    refine AllReadyH.cons (o := { dst := some 70, op := Go.Op.call { callee := Go.Callee.value (Go.Operand.func 18), args := #[Go.Operand.tmp 69], argTypes := #[25] }, type := 3, pos := "law.go:129", after := #[{ on := 24, ground := Go.Ground.data }, { on := 23, ground := Go.Ground.chain }, { on := 23, ground := Go.Ground.guard }], guard := some (23, false) }) rfl (fun K hK => ?_) AllReadyH.nil
    go_simp
    go_at_call 18
    refine (HPL.out _ hHeld).mono ?_
    rintro e x4 ⟨rfl, hb4⟩
    refine hK.out _ _ (hHeld.trans (hb4.mono hHeld.size)) (fun hHeld' => ?_)
    clear hK K hHeld
    have hHeld := hHeld'
    clear hHeld'
    try simp only [Act.put, List.setIfInBounds_toArray, List.set_cons_zero, List.set_cons_succ]
    refine wpAnyH_ready (rs := [28]) (by kernel_rfl) (by simp) ?_
    refine AllReadyH.cons (o := { dst := some 73, op := Go.Op.call { callee := Go.Callee.value (Go.Operand.func 19), args := #[Go.Operand.tmp 72], argTypes := #[36] }, type := 3, pos := "law.go:129", after := #[{ on := 27, ground := Go.Ground.data }, { on := 25, ground := Go.Ground.chain }, { on := 23, ground := Go.Ground.guard }], guard := some (23, false) }) rfl (fun K hK => ?_) AllReadyH.nil
    go_simp
    go_at_call 19
    refine (HRL.out _ hHeld).mono ?_
    rintro e x5 ⟨rfl, hb5⟩
    refine hK.out _ _ (hHeld.trans (hb5.mono hHeld.size)) (fun hHeld' => ?_)
    clear hK K hHeld
    have hHeld := hHeld'
    clear hHeld'
    try simp only [Act.put, List.setIfInBounds_toArray, List.set_cons_zero, List.set_cons_succ]
    refine wpAnyH_take (i := 29) (oi := { dst := some 74, op := Go.Op.binOp Go.BinOp.neq 3 (Go.Operand.tmp 70) (Go.Operand.tmp 73) 3, type := 4, pos := "law.go:129", after := #[{ on := 25, ground := Go.Ground.data }, { on := 28, ground := Go.Ground.data }, { on := 23, ground := Go.Ground.guard }], guard := some (23, false) }) (v := .bool false) rfl (by kernel_rfl) (by kernel_rfl) (by kernel_rfl) (fun _ _ _ h => h) (Or.inl ⟨by rfl, ?hy29b⟩) hHeld ?rest29b
    case hy29b => (intro W hSw; (try dsimp only at hSw); go_simp; try with_reducible rfl)
    try simp only [Act.put, List.setIfInBounds_toArray, List.set_cons_zero, List.set_cons_succ]
    refine wpAnyH_take (i := 30) (oi := { dst := some 75, op := Go.Op.pick (Go.Operand.tmp 68) (Go.Operand.const (Go.Value.bool true)) (Go.Operand.tmp 74), type := 4, pos := "law.go:129", after := #[{ on := 23, ground := Go.Ground.data }, { on := 29, ground := Go.Ground.data }], guard := none }) (v := .bool false) rfl (by kernel_rfl) (by kernel_rfl) (by kernel_rfl) (fun _ _ _ h => h) (Or.inl ⟨by rfl, ?hy30b⟩) hHeld ?rest30b
    case hy30b => (intro W hSw; (try dsimp only at hSw); go_simp; try with_reducible rfl)
    try simp only [Act.put, List.setIfInBounds_toArray, List.set_cons_zero, List.set_cons_succ]
    refine wpAnyH_take (i := 31) (oi := { dst := some 76, op := Go.Op.move (Go.Operand.tmp 75), type := 4, pos := "law.go:129", after := #[{ on := 30, ground := Go.Ground.data }, { on := 28, ground := Go.Ground.chain }], guard := none }) (v := .bool false) rfl (by kernel_rfl) (by kernel_rfl) (by kernel_rfl) (fun _ _ _ h => h) (Or.inl ⟨by rfl, ?hy31b⟩) hHeld ?rest31b
    case hy31b => (intro W hSw; (try dsimp only at hSw); go_simp; try with_reducible rfl)
    try simp only [Act.put, List.setIfInBounds_toArray, List.set_cons_zero, List.set_cons_succ]
    refine wpAnyH_take (i := 32) (oi := { dst := some 77, op := Go.Op.move (Go.Operand.tmp 3), type := 25, pos := "law.go:129", after := #[{ on := 31, ground := Go.Ground.guard }], guard := some (31, false) }) (v := ?v32b) rfl (by kernel_rfl) (by kernel_rfl) (by kernel_rfl) (fun _ _ _ h => h) (Or.inl ⟨by rfl, ?hy32b⟩) hHeld ?rest32b
    case hy32b => (intro W hSw; (try dsimp only at hSw); go_simp; try with_reducible rfl)
    try simp only [Act.put, List.setIfInBounds_toArray, List.set_cons_zero, List.set_cons_succ]
    refine wpAnyH_take (i := 34) (oi := { dst := some 79, op := Go.Op.fieldAddr 38 (Go.Operand.tmp 10) 0, type := 0, pos := "law.go:129", after := #[{ on := 31, ground := Go.Ground.guard }], guard := some (31, false) }) (v := ?v34b) rfl (by kernel_rfl) (by kernel_rfl) (by kernel_rfl) (fun _ _ _ h => h) (Or.inl ⟨by rfl, ?hy34b⟩) hHeld ?rest34b
    case hy34b => (intro W hSw; (try dsimp only at hSw); go_simp; try with_reducible rfl)
    try simp only [Act.put, List.setIfInBounds_toArray, List.set_cons_zero, List.set_cons_succ]
    refine wpAnyH_take (i := 35) (oi := { dst := some 80, op := Go.Op.fieldAddr 36 (Go.Operand.tmp 79) 2, type := 0, pos := "law.go:129", after := #[{ on := 34, ground := Go.Ground.data }, { on := 31, ground := Go.Ground.guard }], guard := some (31, false) }) (v := ?v35b) rfl (by kernel_rfl) (by kernel_rfl) (by kernel_rfl) (fun _ _ _ h => h) (Or.inl ⟨by rfl, ?hy35b⟩) hHeld ?rest35b
    case hy35b => (intro W hSw; (try dsimp only at hSw); go_simp; try with_reducible rfl)
    try simp only [Act.put, List.setIfInBounds_toArray, List.set_cons_zero, List.set_cons_succ]
    refine wpAnyH_take (i := 36) (oi := { dst := some 81, op := Go.Op.load 34 (Go.Operand.tmp 80), type := 34, pos := "law.go:129", after := #[{ on := 35, ground := Go.Ground.data }, { on := 31, ground := Go.Ground.guard }], guard := some (31, false) }) (v := ?v36b) rfl (by kernel_rfl) (by kernel_rfl) (by kernel_rfl) (fun _ _ _ h => h) (Or.inl ⟨by rfl, ?hy36b⟩) hHeld ?rest36b
    case hy36b => (intro W hSw; (try dsimp only at hSw); have hc65 := (HBL.out W hSw).2.2; go_simp; try with_reducible rfl)
    try simp only [Act.put, List.setIfInBounds_toArray, List.set_cons_zero, List.set_cons_succ]
    refine wpAnyH_take (i := 37) (oi := { dst := some 82, op := Go.Op.call { callee := Go.Callee.builtin Go.Builtin.len, args := #[Go.Operand.tmp 81], argTypes := #[34] }, type := 3, pos := "law.go:129", after := #[{ on := 36, ground := Go.Ground.data }, { on := 31, ground := Go.Ground.guard }], guard := some (31, false) }) (v := ?v37b) rfl (by kernel_rfl) (by kernel_rfl) (by kernel_rfl) (fun _ _ _ h => h) (Or.inl ⟨by rfl, ?hy37b⟩) hHeld ?rest37b
    case hy37b => (intro W hSw; (try dsimp only at hSw); go_simp; try with_reducible rfl)
    try simp only [Act.put, List.setIfInBounds_toArray, List.set_cons_zero, List.set_cons_succ]
    refine wpAnyH_ready (rs := [33]) (by kernel_rfl) (by simp) ?_
    refine AllReadyH.cons (o := { dst := some 78, op := Go.Op.call { callee := Go.Callee.value (Go.Operand.func 20), args := #[Go.Operand.tmp 77], argTypes := #[25] }, type := 3, pos := "law.go:129", after := #[{ on := 32, ground := Go.Ground.data }, { on := 31, ground := Go.Ground.chain }, { on := 31, ground := Go.Ground.guard }], guard := some (31, false) }) rfl (fun K hK => ?_) AllReadyH.nil
    go_simp
    go_at_call 20
    refine (HPO.out _ hHeld).mono ?_
    rintro e x6 ⟨rfl, rfl⟩
    refine hK.out _ _ (hHeld) (fun hHeld' => ?_)
    clear hK K hHeld
    have hHeld := hHeld'
    clear hHeld'
    try simp only [Act.put, List.setIfInBounds_toArray, List.set_cons_zero, List.set_cons_succ]
    refine wpAnyH_take (i := 38) (oi := { dst := some 83, op := Go.Op.binOp Go.BinOp.neq 3 (Go.Operand.tmp 78) (Go.Operand.tmp 82) 3, type := 4, pos := "law.go:129", after := #[{ on := 33, ground := Go.Ground.data }, { on := 37, ground := Go.Ground.data }, { on := 31, ground := Go.Ground.guard }], guard := some (31, false) }) (v := .bool false) rfl (by kernel_rfl) (by kernel_rfl) (by kernel_rfl) (fun _ _ _ h => h) (Or.inl ⟨by rfl, ?hy38b⟩) hHeld ?rest38b
    case hy38b => (intro W hSw; (try dsimp only at hSw); go_simp; try with_reducible rfl)
    try simp only [Act.put, List.setIfInBounds_toArray, List.set_cons_zero, List.set_cons_succ]
    refine wpAnyH_take (i := 39) (oi := { dst := some 84, op := Go.Op.pick (Go.Operand.tmp 76) (Go.Operand.const (Go.Value.bool true)) (Go.Operand.tmp 83), type := 4, pos := "law.go:129", after := #[{ on := 31, ground := Go.Ground.data }, { on := 38, ground := Go.Ground.data }], guard := none }) (v := .bool false) rfl (by kernel_rfl) (by kernel_rfl) (by kernel_rfl) (fun _ _ _ h => h) (Or.inl ⟨by rfl, ?hy39b⟩) hHeld ?rest39b
    case hy39b => (intro W hSw; (try dsimp only at hSw); go_simp; try with_reducible rfl)
    try simp only [Act.put, List.setIfInBounds_toArray, List.set_cons_zero, List.set_cons_succ]
    refine wpAnyH_done (by kernel_rfl) ?_ _
    try dsimp only
    try simp only [Act.put, List.setIfInBounds_toArray, List.set_cons_zero, List.set_cons_succ]
    -- END hand_rdB
    have HB8 := Lib.hid (HBw7.out.trans (hHeld.mono HBw7.out.size))
    have HO8 : Hid (x5.heap[w.heap.size]? = some (.cells #[.bool false] 4 (0, 0))) := Lib.hid ((hHeld.block _ (by have := HBw7.out.size; have := (Array.getElem?_eq_some_iff.1 HO1.out).1; have := HB15.out.size; have := HB57.out.size; omega)).trans ((HB57.out.block _ (by have := (Array.getElem?_eq_some_iff.1 HO1.out).1; have := HB15.out.size; omega)).trans ((HB15.out.block _ (Array.getElem?_eq_some_iff.1 HO1.out).1).trans HO1.out)))
    clear hHeld HIS HPL HPO HRL HBL HPW HRW HCV7 H7 HB57 HB6 hinf7 hone7 H6 HR5 HB15 HV1 HBw5 HBw7 hinfL hinfD
    go_upto_if 88 with fail
    go_cut [11] from 89 to 90 (fun s11 wx => ∃ pq : Option Addr, s11 = .pointer pq ∧ Hid (SC w pq false wx))
    case first =>
      have hsc : SC w none false x5 := ⟨HB8.out, .inl rfl, HE0.out.below HB8.out HE0.out.lt, HO8.out⟩
      have HSC0 := Lib.hid hsc
      clear hsc
      by_cases hpar : ((l.length : Int) % 2 = 1)
      · go_wp2_with fail
        go_meet
        refine ⟨_, rfl, Lib.hid ?_⟩
        have h := HSC0.out.keep ((Below.refl _ x5).alloc (Nat.le_refl _) (.cells #[.pointer none, .int .i64 0, .int .i64 0, .int .i64 0] 55))
        exact ⟨h.b, .inr ⟨_, rfl, alloc_cellr (c := #[.pointer none, .int .i64 0, .int .i64 0, .int .i64 0]) rfl⟩, h.et, h.h⟩
      · go_wp2_with fail
        go_meet
        exact ⟨_, rfl, HSC0⟩
    case rest =>
      obtain ⟨pq, rfl, HSC⟩ := hcut
      clear HB8 HO8
      have hq : ∀ (g : Fn) (a b : Array Value) (V : World), (binOp .eql 61 (.func g a b) .nilFunc).run Tryz.prog V = .ok (.bool false) V := fun _ _ _ _ => rfl
      go_wp2_with (first | (go_at_call 21; refine (lAppend_none pq _ _ HSC.out.et HSC.out.no).mono ?_; rintro e wa ⟨rfl, hb⟩; have HSCa := Lib.hid (HSC.out.keep hb); clear hb) | (go_at_call 22; refine (lRead_none pq 0 _ HSCa.out.et HSCa.out.no).mono ?_; rintro e wb ⟨rfl, hb⟩; have HSCb := Lib.hid (HSCa.out.keep hb); clear hb) | (go_at_call 8; refine (lOpen_nil 0 _ HSCb.out.et).mono ?_; rintro e we ⟨rfl, hb⟩; have HSCe := Lib.hid (HSCb.out.keep hb); clear hb) | (go_at_call 23; refine (Each_any pq 0 _).mono ?_; rintro e wd ⟨rfl, hc0, hc1, hb⟩; have HSCd := Lib.hid (HSCe.out.keep hb); have HC01 := Lib.hid (And.intro hc0 hc1); clear hb hc0 hc1))
      have HEN := Lib.hid (fun W (hW : Below wd.heap.size wd W) l => each_none pq (we.heap.size + 1) we.heap.size wd HSCd.out.no HC01.out.1 HC01.out.2 W hW l)
      clear HSC HSCa HSCb HSCe HC01
      refine (wpIn_wide (n := 8)).1 ?_
      refine wpIn_seqNone (by decide) (gf := 52) (fb := #[]) (lb := #[.pointer (some ⟨we.heap.size + 1, 0, none⟩), .pointer (some ⟨we.heap.size, 0, none⟩)]) rfl (enters_of Tryz.func52 (by kernel_rfl) rfl) (fun W y l e h => by subst e; exact HEN.out W h l) ?_
      intro Wa hbWa hDa
      have HD := Lib.hid hDa
      have HSC := Lib.hid (HSCd.out.keep hbWa)
      have hwlt : w.heap.size < wd.heap.size := (Array.getElem?_eq_some_iff.1 HSCd.out.h).1
      have hwd := hbWa.size
      clear hDa HSCd HEN hbWa
      obtain ⟨kc, kf⟩ := zcells HSC.out.h
      go_wp2_with (first | (go_at_call 9; refine (lnum10_any _ _).mono ?_; rintro e wx ⟨rfl, rfl⟩) | (go_at_call 24; refine (lEnd_none pq _ HSC.out.no).mono ?_; rintro e x1 ⟨rfl, hb⟩; have HS1 := Lib.hid (HSC.out.keep hb); have HD1 := Lib.hid ((hb.block _ (Array.getElem?_eq_some_iff.1 HD.out).1).trans HD.out); clear hb) | (go_at_call 25; refine (lTorn_none pq _ HS1.out.no).mono ?_; rintro e x2 ⟨rfl, hb⟩; have HS2 := Lib.hid (HS1.out.keep hb); have HD2 := Lib.hid ((hb.block _ (Array.getElem?_eq_some_iff.1 HD1.out).1).trans HD1.out); clear hb) | (go_at_call 6; refine (works_trueL _ HS2.out.et).mono ?_; rintro e x3 ⟨rfl, hb⟩; have HS3 := Lib.hid (HS2.out.keep hb); have HD3 := Lib.hid ((hb.block _ (Array.getElem?_eq_some_iff.1 HD2.out).1).trans HD2.out); obtain ⟨kc3, kf3⟩ := zcells HS3.out.h; clear hb))
      have hF := HS3.out.done HE0.out true
      have hD' : (x3.setCell ⟨w.heap.size, 0, none⟩ (.bool true)).heap[wd.heap.size]? = some (.deferred (some [])) := (Below.heap_setCell _ _ _ _ (by show wd.heap.size ≠ w.heap.size; omega)).trans HD3.out
      have kcf := cell_putL hF.c hD' (.deferred none)
      refine ⟨by simp, .inl ⟨_, _, rfl, run_takeDeferred hD', ?_⟩⟩
      exact ⟨.bool true, by simp [results, Tryz.results4, go_sem, kcf], rfl, below_putL hF.b (by omega) _⟩
end Go.Proofs.YtbhgcioeibhjeaaGreatDoor
namespace Go.Proofs.YtbhgcioeibhjeaaGreatDoor
open Go.RowKit Go.Shelf

set_option maxRecDepth 100000 in
set_option maxHeartbeats 4000000 in
theorem lawReads_far (v : Value) (l : List UInt8) (w : World) (hv : BytesOf w v l) (hET : HasET w) (hl : l.length ≤ 9223372036854775807) (h : 2000 < l.length) :
    Calls Tryz.prog 4 #[v] w fun e w' => e = .returned (.bool true) ∧ Below w.heap.size w w' := by
  obtain ⟨ob, cb, rfl⟩ := hv.form
  have HE0 := Lib.hid hET
  clear hv hET
  generalize l.length = n at *
  refine (callsIn_wide (n := 8)).1 ?_
  refine callsIn_of_wp_marks Tryz.func4 rfl trivial ?_ rfl
  simp only [Tryz.ntmps4, List.size_toArray, List.length_cons, List.length_nil, Nat.reduceAdd, Nat.reduceSub, Array.replicate_succ, Array.replicate_zero, List.push_toArray, List.append_toArray, List.nil_append, List.cons_append]
  refine wpIn_wide.2 ?_
  go_upto_region 1 with fail
  obtain ⟨W1, hW1⟩ : ∃ W1, w.alloc (.cells #[.bool false] 4) = W1 := ⟨_, rfl⟩
  have hb1 : Below w.heap.size w W1 := by rw [← hW1]; exact (Below.refl _ _).alloc (Nat.le_refl _) _
  have hob : W1.heap[w.heap.size]? = some (.cells #[.bool false] 4 (0, 0)) := by rw [← hW1]; exact heap_alloc_at w _
  have HSC : Hid (SC w none false W1) := Lib.hid ⟨hb1, .inl rfl, HE0.out.below hb1 HE0.out.lt, hob⟩
  rw [hW1]
  clear hW1 hb1 hob
  go_wp2_with (first | (go_at_call 6; refine (works_trueL _ HSC.out.et).mono ?_; rintro e x3 ⟨rfl, hb⟩; have HS3 := Lib.hid (HSC.out.keep hb); obtain ⟨kc3, kf3⟩ := zcells HS3.out.h; clear hb))
  have hF := HS3.out.done HE0.out true
  have kcf := hF.c
  exact ⟨.bool true, by simp [results, Tryz.results4, go_sem, kcf], rfl, hF.b⟩
theorem lawReads_true (v : Value) (l : List UInt8) (w : World) (hv : BytesOf w v l) (hET : HasET w) (hl : l.length ≤ 9223372036854775807) :
    Calls Tryz.prog 4 #[v] w fun e w' => e = .returned (.bool true) ∧ Below w.heap.size w w' := by
  by_cases h : 2000 < l.length
  · exact lawReads_far v l w hv hET hl h
  · exact lawReads_in v l w hv hET (by omega)
end Go.Proofs.YtbhgcioeibhjeaaGreatDoor
