/-
  disk: set, put, cut, first: what they do to a map of slices.
-/
import Derived.Test.YtlnemefegkjjiaaDoorDRow
namespace Go.Proofs.YtlnemefegkjjiaaDoor
open Go.RowKit

section
variable {P : Program} {w : World} {ops : Array Oper} {rest : List Oper} {o : Oper} {a : Act} {Q : Exit → Act → World → Prop}
theorem wpList_app (hgd : o.guard = none) (sl x : Operand) (t u : TypeId) (ho : o.op = .call { callee := .builtin .append, args := #[sl, x], argTypes := #[t, u] })
    (vs vx : Value) (hs : a.eval sl = vs) (hx : a.eval x = vx) (v' : Value) (w' : World) (hr : (Builtin.append_ #[t, u] o.type #[vs, vx]).run P w = .ok v' w') (h : wpList P ops Q rest (a.put o.dst v') w') : wpList P ops Q (o :: rest) a w := by
  refine wpList_plain hgd fun K hK => ?_
  unfold Oper.wp execOp
  simp only [ho, resolve, invoke, builtin, Sem.run_bind, Sem.run_pure, Result.andThen_ok, List.map_toArray, List.map_cons, List.map_nil, hs, hx, hr]
  exact hK _ _ h
theorem wpList_del (hgd : o.guard = none) (sl x : Operand) (t u : TypeId) (ho : o.op = .call { callee := .builtin .delete, args := #[sl, x], argTypes := #[t, u] })
    (vs vx : Value) (hs : a.eval sl = vs) (hx : a.eval x = vx) (v' : Value) (w' : World) (hr : (Builtin.delete_ #[t, u] o.type #[vs, vx]).run P w = .ok v' w') (h : wpList P ops Q rest (a.put o.dst v') w') : wpList P ops Q (o :: rest) a w := by
  refine wpList_plain hgd fun K hK => ?_
  unfold Oper.wp execOp
  simp only [ho, resolve, invoke, builtin, Sem.run_bind, Sem.run_pure, Result.andThen_ok, List.map_toArray, List.map_cons, List.map_nil, hs, hx, hr]
  exact hK _ _ h
end
theorem zeroB (w : World) : (zeroValue 31).run Tryd.prog w = .ok nilS w := by kernel_rfl

/-- what a stored slice is: none at all, where it holds nothing -/
def stV (oa : Option Addr) (n cap : Nat) : Value := if n = 0 then nilS else .slice oa n cap
set_option maxHeartbeats 1000000 in
theorem set_any (r f : Nat) (V : Nat → Value) (oa : Option Addr) (n cap : Nat) (w : World) (h : FMap w r V) (hf : f < 64) :
    Calls Tryd.prog 58 #[.map (some r), .int .i64 f, .slice oa n cap] w fun e w' => e = .returned (.tuple #[]) ∧ FMap w' r (updV V f (stV oa n cap)) ∧ w.grownBy w' (some r) := by
  by_cases hn : n = 0
  · subst hn
    obtain ⟨w', hr, h1, h2⟩ := h.delete (P := Tryd.prog) Tryd.underlying48 Tryd.underlying3 f 0
    have H := Lib.hid (And.intro h1 h2)
    clear h h1 h2
    go_enter Tryd.func58, Tryd.ntmps58
    go_wp2_with (at_builtin; refine wpList_del rfl _ _ _ _ rfl _ _ rfl rfl _ w' hr ?_)
    refine bodyPost_ret (results_none rfl _ _ _) rfl ?_
    exact ⟨rfl, H.out⟩
  · have hne : Value.slice oa n cap ≠ nilS := fun e => by simp at e; exact hn e.2.1
    obtain ⟨w', hr, h1, h2⟩ := h.store (P := Tryd.prog) Tryd.underlying48 Tryd.underlying3 f hf (.slice oa n cap) hne
    have H := Lib.hid (And.intro h1 h2)
    have hst : stV oa n cap = .slice oa n cap := if_neg hn
    have HST := Lib.hid hst
    clear h h1 h2 hst
    have hn2 : ((n : Int) == 0) = false := by simp; omega
    go_enter Tryd.func58, Tryd.ntmps58
    go_wp2_with fail
    go_end0
    rw [HST.out]
    exact ⟨rfl, H.out⟩

/-- the bytes of files that lie in a map's slices; no two files share memory -/
structure Fs (w : World) (r : Nat) (V : Nat → Value) (F : Nat → List UInt8) : Prop where
  map : FMap w r V
  row : ∀ f, SlAt w (V f) (F f)
  apart : ∀ f f' g, f ≠ f' → (V f).ownBlock = some g → (V f').ownBlock ≠ some g
def updF (F : Nat → List UInt8) (f : Nat) (l : List UInt8) : Nat → List UInt8 := fun g => if g = f then l else F g
theorem updF_same (F : Nat → List UInt8) (f : Nat) (l : List UInt8) : updF F f l f = l := by simp [updF]
theorem updF_other {F : Nat → List UInt8} {f g : Nat} {l : List UInt8} (h : g ≠ f) : updF F f l g = F g := by simp [updF, h]
/-- a slice's block is no map's -/
theorem SlAt.noMap {w : World} {v : Value} {l : List UInt8} {r : Nat} {V : Nat → Value} (h : SlAt w v l) (hm : FMap w r V) : v.ownBlock ≠ some r := fun e => by
  obtain ⟨cur, hc⟩ := h.elem r e
  obtain ⟨es, c, h1, _⟩ := hm
  rw [h1] at hc
  cases hc
/-- a slice that lies elsewhere, or in front of what is put, abides -/
theorem SlAt.went {w w' : World} {v v' u : Value} {n m : Nat} {l : List UInt8} (h : SlAt w u l) (hw : Went w w' v v' n m) (hs : u.ownBlock = v.ownBlock → l.length ≤ n ∨ capOf v = n) : SlAt w' u l := by
  rcases hw with ⟨h6, _, _⟩ | ⟨g, cap, cur, cur', rfl, rfl, hr, h1, h2, h3, h4, h5, h6, _⟩ | ⟨_, h6⟩
  · exact h.keep (fun g' hg' => h6.block g' (h.lt g' hg') (by simp))
  · by_cases hg : u.ownBlock = some g
    · rcases h with ⟨rfl, _⟩ | ⟨hl, g', cap', c0, rfl, k1, k2, k3, k4, k5⟩
      · cases hg
      · simp [Value.ownBlock] at hg
        subst hg
        rw [k1] at h1
        cases h1
        have hln : l.length ≤ n ∨ cur' = cur := by
          rcases hs rfl with h | h
          · exact .inl h
          · simp only [capOf] at h
            exact .inr (h5 (by omega))
        refine .inr ⟨hl, g', cap', cur', rfl, h2, k2, by omega, k4, ?_⟩
        rcases hln with hln | rfl
        · rw [← k5, ← Nat.min_eq_left hln, ← List.take_take, h4, List.take_take]
        · exact k5
    · exact h.keep (fun g' hg' => h6.block g' (h.lt g' hg') (fun e => hg (by rw [hg', e])))
  · exact h.keep (fun g' hg' => h6.block g' (h.lt g' hg') (by simp))
theorem Went.size {w w' : World} {v v' : Value} {n m : Nat} (h : Went w w' v v' n m) : w.heap.size ≤ w'.heap.size := by
  rcases h with ⟨h6, _⟩ | ⟨g, cap, cur, cur', _, _, _, _, _, _, _, _, h6, _⟩ | ⟨_, h6⟩
  · exact h6.size
  · exact h6.size
  · exact h6.size
/-- what no slice of the file lies in abides -/
theorem Went.block {w w' : World} {v v' : Value} {n m : Nat} (h : Went w w' v v' n m) {k : Nat} (hk : k < w.heap.size) (hv : v.ownBlock ≠ some k) : w'.heap[k]? = w.heap[k]? := by
  rcases h with ⟨h6, _⟩ | ⟨g, cap, cur, cur', rfl, _, _, _, _, _, _, _, h6, _⟩ | ⟨_, h6⟩
  · exact h6.block k hk (by simp)
  · exact h6.block k hk (fun e => hv (by rw [e]; rfl))
  · exact h6.block k hk (by simp)
theorem Went.own {w w' : World} {v v' : Value} {n m : Nat} (h : Went w w' v v' n m) : v'.ownBlock = v.ownBlock ∨ v'.ownBlock = some w.heap.size := by
  rcases h with ⟨_, rfl, _⟩ | ⟨g, cap, cur, cur', rfl, rfl, _⟩ | ⟨h6, _⟩
  · exact .inl rfl
  · exact .inl rfl
  · exact .inr h6
theorem Went.os {w w' : World} {v v' : Value} {n m : Nat} (h : Went w w' v v' n m) : w'.os = w.os ∧ w'.tape = w.tape ∧ w'.output = w.output := by
  rcases h with ⟨h6, _⟩ | ⟨g, cap, cur, cur', _, _, _, _, _, _, _, _, h6, _⟩ | ⟨_, h6⟩
  · exact ⟨h6.os, h6.tape, h6.output⟩
  · exact ⟨h6.os, h6.tape, h6.output⟩
  · exact ⟨h6.os, h6.tape, h6.output⟩
/-- a map behind an append and a store of what came of it -/
theorem Fs.put {w w1 w' : World} {r f : Nat} {V : Nat → Value} {F : Nat → List UInt8} {v' : Value} {l' : List UInt8} {n m : Nat} (h : Fs w r V F) (h1 : SlAt w1 v' l') (hw : Went w w1 (V f) v' n m) (hm : FMap w' r (updV V f v')) (hg : w1.grownBy w' (some r)) (hn : n = (F f).length) : Fs w' r (updV V f v') (updF F f l') := by
  have hm1 : FMap w1 r V := h.map.keep (hw.block h.map.lt ((h.row f).noMap h.map))
  have keep1 : ∀ g, g ≠ f → SlAt w1 (V g) (F g) := fun g hgf => (h.row g).went hw (fun e => by
    rcases h.row g with ⟨e0, e1⟩ | ⟨_, gg, cap, cur, e0, _⟩
    · exact .inl (by rw [e1]; simp)
    · exact absurd (by rw [← e, e0]; rfl) (h.apart g f gg hgf (by rw [e0]; rfl)))
  have keep2 : ∀ v l, SlAt w1 v l → SlAt w' v l := fun v l hs => hs.keep (fun g hgo => hg.block g (hs.lt g hgo) (fun e => (hs.noMap hm1) (by rw [hgo, e])))
  refine ⟨hm, fun g => ?_, fun a b g hab ha hb => ?_⟩
  · by_cases hgf : g = f
    · subst hgf
      rw [updV_same, updF_same]
      exact keep2 _ _ h1
    · rw [updV_other hgf, updF_other hgf]
      exact keep2 _ _ (keep1 g hgf)
  · have own := hw.own
    by_cases haf : a = f
    · subst haf
      rw [updV_same] at ha
      rw [updV_other (fun e => hab e.symm)] at hb
      rcases own with e | e
      · rw [e] at ha
        exact h.apart a b g hab ha hb
      · rw [e] at ha
        have := (h.row b).lt g hb
        cases ha
        omega
    · rw [updV_other haf] at ha
      by_cases hbf : b = f
      · subst hbf
        rw [updV_same] at hb
        rcases own with e | e
        · rw [e] at hb
          exact h.apart a b g hab ha hb
        · rw [e] at hb
          have := (h.row a).lt g ha
          cases hb
          omega
      · rw [updV_other hbf] at hb
        exact h.apart a b g hab ha hb
theorem stV_of {w : World} {v : Value} {l : List UInt8} (h : SlAt w v l) : ∃ oa cap, v = .slice oa l.length cap ∧ stV oa l.length cap = v := by
  rcases h with ⟨rfl, rfl⟩ | ⟨hl, g, cap, cur, rfl, _⟩
  · exact ⟨none, 0, rfl, rfl⟩
  · exact ⟨_, _, rfl, if_neg (fun e => hl (List.eq_nil_of_length_eq_zero e))⟩
/-- what put does to a map of files -/
def PutE (w w' : World) (r f : Nat) (V : Nat → Value) (n m : Nat) (v' : Value) : Prop := ∃ w1, Went w w1 (V f) v' n m ∧ w1.grownBy w' (some r)
set_option maxHeartbeats 1000000 in
theorem put_any (r f : Nat) (V : Nat → Value) (F : Nat → List UInt8) (s : ByteArray) (w : World) (h : Fs w r V F) (hf : f < 64) (hl : (F f).length ≤ 100000000) (hs : s.size ≤ 100000000) :
    Calls Tryd.prog 44 #[.map (some r), .int .i64 f, .string s] w fun e w' => e = .returned (.tuple #[]) ∧ ∃ v', Fs w' r (updV V f v') (updF F f (F f ++ s.data.toList)) ∧ PutE w w' r f V (F f).length s.size v' := by
  obtain ⟨i0, hi0, hz0, hz1, hz2⟩ := info_parts infoB
  have hlk := h.map.lookup (P := Tryd.prog) Tryd.underlying48 Tryd.underlying3 (zeroB w) f
  obtain ⟨v', w1, hr, h1, hw⟩ := run_append_str (P := Tryd.prog) w 31 9 31 5 rfl i0 Tryd.underlying31 Tryd.underlying9 hi0 hz0 hz1 hz2 (V f) (F f) (h.row f) s hl hs
  have hm1 : FMap w1 r V := h.map.keep (hw.block h.map.lt ((h.row f).noMap h.map))
  obtain ⟨oa, cap, e0, e1⟩ := stV_of h1
  have HS := Lib.hid (set_any r f V oa (F f ++ s.data.toList).length cap w1 hm1 hf)
  rw [← e0, e1] at HS
  have HP := Lib.hid (fun w' (hm : FMap w' r (updV V f v')) (hg : w1.grownBy w' (some r)) => And.intro (h.put h1 hw hm hg rfl) (show PutE w w' r f V (F f).length s.size v' from ⟨w1, hw, hg⟩))
  clear h h1 hw hm1 e0 e1 hl hs hi0 hz0 hz1 hz2
  generalize V f = vf at *
  go_enter Tryd.func44, Tryd.ntmps44
  go_wp2_with (first | (at_builtin; refine wpList_app rfl _ _ _ _ rfl _ _ rfl rfl _ w1 hr ?_) | (go_at_call 58; refine HS.out.mono ?_; rintro e w' ⟨rfl, hm, hg⟩))
  go_end0
  exact ⟨rfl, v', HP.out _ hm hg⟩
theorem Went.drew {w w' : World} {v v' : Value} {n m : Nat} (h : Went w.drew w' v v' n m) : Went w w' v v' n m := by
  rcases h with ⟨h6, h⟩ | ⟨g, cap, cur, cur', e1, e2, h1, h2, h3, h4, h5, h7, h6, h8⟩ | ⟨h1, h6⟩
  · exact .inl ⟨⟨h6.os, h6.tape, h6.output, h6.size, h6.block⟩, h⟩
  · exact .inr (.inl ⟨g, cap, cur, cur', e1, e2, h1, h2, h3, h4, h5, h7, ⟨h6.os, h6.tape, h6.output, h6.size, h6.block⟩, h8⟩)
  · exact .inr (.inr ⟨h1, ⟨h6.os, h6.tape, h6.output, h6.size, h6.block⟩⟩)
theorem Fs.drew {w : World} {r : Nat} {V : Nat → Value} {F : Nat → List UInt8} (h : Fs w r V F) : Fs w.drew r V F := ⟨h.map, h.row, h.apart⟩
theorem PutE.drew {w w' : World} {r f : Nat} {V : Nat → Value} {n m : Nat} {v' : Value} (h : PutE w.drew w' r f V n m v') : PutE w w' r f V n m v' := by
  obtain ⟨w1, h1, h2⟩ := h
  exact ⟨w1, h1.drew, h2⟩
/-- what is no row of bytes, and not the map, abides -/
theorem PutE.keep {w w' : World} {r f : Nat} {V : Nat → Value} {F : Nat → List UInt8} {n m : Nat} {v' : Value} (h : PutE w w' r f V n m v') (hs : SlAt w (V f) (F f)) {k : Nat} {o : Obj} (hk : w.heap[k]? = some o) (hne : k ≠ r) (ho : ∀ cur, o ≠ .cells cur 5 (0, 0)) : w'.heap[k]? = some o := by
  obtain ⟨w1, h1, h2⟩ := h
  have hlt := (Array.getElem?_eq_some_iff.1 hk).1
  have e1 := h1.block hlt (fun e => by
    obtain ⟨cur, hc⟩ := hs.elem k e
    rw [hk] at hc
    cases hc
    exact ho cur rfl)
  rw [h2.block k (Nat.lt_of_lt_of_le hlt h1.size) (fun e => hne (by cases e; rfl)), e1, hk]
theorem PutE.size {w w' : World} {r f : Nat} {V : Nat → Value} {n m : Nat} {v' : Value} (h : PutE w w' r f V n m v') : w.heap.size ≤ w'.heap.size := by
  obtain ⟨w1, h1, h2⟩ := h
  exact Nat.le_trans h1.size h2.size
theorem PutE.os {w w' : World} {r f : Nat} {V : Nat → Value} {n m : Nat} {v' : Value} (h : PutE w w' r f V n m v') : w'.os = w.os ∧ w'.tape = w.tape ∧ w'.output = w.output := by
  obtain ⟨w1, h1, h2⟩ := h
  exact ⟨h2.os.trans h1.os.1, h2.tape.trans h1.os.2.1, h2.output.trans h1.os.2.2⟩
/-- what is neither the map nor the file's slice abides -/
theorem PutE.block {w w' : World} {r f : Nat} {V : Nat → Value} {n m : Nat} {v' : Value} (h : PutE w w' r f V n m v') {k : Nat} (hk : k < w.heap.size) (hr : k ≠ r) (hv : (V f).ownBlock ≠ some k) : w'.heap[k]? = w.heap[k]? := by
  obtain ⟨w1, h1, h2⟩ := h
  exact (h2.block k (Nat.lt_of_lt_of_le hk h1.size) (fun e => hr (by cases e; rfl))).trans (h1.block hk hv)
theorem PutE.own {w w' : World} {r f : Nat} {V : Nat → Value} {n m : Nat} {v' : Value} (h : PutE w w' r f V n m v') : v'.ownBlock = (V f).ownBlock ∨ v'.ownBlock = some w.heap.size := by
  obtain ⟨w1, h1, _⟩ := h
  exact h1.own
end Go.Proofs.YtlnemefegkjjiaaDoor
