/-
  disk: a thing is done, and is loose then; settle; New.
-/
import Derived.Test.YtlnemefegkjjiaaDoorDMay
import Derived.Deep.RegionLaw
import Derived.Maps.AppendAt
namespace Go.Proofs.YtlnemefegkjjiaaDoor
open Go.RowKit

theorem step_append_rowD {P : Program} {ops : Array Oper} {o : Oper} {a : Act} {w : World} {K : Act → World → Prop} {Q : Exit → Act → World → Prop} {E : Prop}
    (hg : o.guard = none) (s x : Operand) (t : TypeId) (hop : o.op = Op.call { callee := Callee.builtin Builtin.append, args := #[s, x], argTypes := #[t, t] })
    (base : Nat) (e : TypeId) (i : TypeInfo) (z : Value) (size bytes : Nat) (h1 : P.underlying t = some (.slice e)) (h2 : P.info? e = some i) (h3 : i.zero = some z) (h4 : i.size = size) (h5 : i.bytes = bytes) (h6 : z.cells.size = size) (h7 : 0 < size)
    (v : Value) (n : Nat) (olds : List Value) (hs : a.eval s = v) (hown : w.ownsRow base e size v n olds)
    (ad : Addr) (m c : Nat) (news : List Value) (hx : a.eval x = .slice (some ad) m c) (hn : news.length = m * size) (hc : ∀ j u, news[j]? = some u → w.cell? (ad.add j) = some u) (h1c : ∀ u ∈ news, u.oneCell' = true)
    (b1 : n + m ≤ maxLen) (b2 : (n + m) * bytes ≤ 140737488355328) (hb : base ≤ w.heap.size)
    (hK : ∀ v' w', w'.ownsRow base e size v' (n + m) (olds ++ news) → w.grownBy w' v.ownBlock → (v'.ownBlock = v.ownBlock ∨ v'.ownBlock = some w.heap.size) → K (a.put o.dst v') w') :
    if Region.wanted o (yielded ops a.tmps) = true then Oper.wp P o a w K Q else E := by
  have hw : Region.wanted o (yielded ops a.tmps) = true := by simp [Region.wanted, hg]
  rw [if_pos hw]
  obtain ⟨v', w', hrun, r1, r2, _, r3⟩ := run_append_own_at (P := P) w base t o.type e i z size bytes h1 h2 h3 h4 h5 h6 h7 v n olds hown ad m c news hn hc h1c b1 b2 hb
  unfold Oper.wp
  simp [execOp, hop, resolve, invoke, builtin, hs, hx, hrun, Result.andThen]
  exact hK v' w' r1 r2 r3
theorem infoT : (Tryd.prog.info? 68).map (fun i => (i.zero, i.size, i.bytes)) = some (some (.agg #[.int .i64 0, .bool false, .int .i64 0, .string ⟨#[]⟩, .nilFunc, .nilFunc]), 6, 56) := by kernel_rfl
theorem grownBy_setCellD (w : World) (q o : Nat) (u : Value) : w.grownBy (w.setCell ⟨q, o, none⟩ u) (some q) :=
  ⟨rfl, rfl, rfl, by simp [World.setCell], fun k _ hk => Below.heap_setCell _ _ _ _ (fun e => hk (congrArg some e))⟩
theorem DkW.mapObj {N : Nat} {w : World} {Φ : Nat → Prop} {p mf ms : Nat} {V U : Nat → Value} {lv : Value} {B : List (Th × Nat × Nat)} {D : Dk} (h : DkW N w Φ p mf ms V U lv B D) : (∃ es c, w.heap[mf]? = some (.map es c)) ∧ ∃ es c, w.heap[ms]? = some (.map es c) := by
  obtain ⟨es, c, h1, _⟩ := h.ff.map
  obtain ⟨es2, c2, h2, _⟩ := h.gg.map
  exact ⟨⟨es, c, h1⟩, ⟨es2, c2, h2⟩⟩
/-- what is neither the files' map nor a row of bytes abides while a thing is done -/
theorem DoneE.keep {w w' : World} {r : Nat} {V V' : Nat → Value} {F : Nat → List UInt8} {t : Th} (h : DoneE w w' r V F V' t) (hfs : Fs w r V F) {k : Nat} {o : Obj} (hk : w.heap[k]? = some o) (hne : k ≠ r) (ho : ∀ cur, o ≠ Obj.cells cur 5 (0, 0)) : w'.heap[k]? = some o := by
  cases t with
  | put f s =>
    obtain ⟨v', _, h⟩ := h
    exact h.keep (hfs.row f) hk hne ho
  | cut f m =>
    rw [h.2.block k (Array.getElem?_eq_some_iff.1 hk).1 (fun e => hne (by cases e; rfl)), hk]
theorem DoneE.size {w w' : World} {r : Nat} {V V' : Nat → Value} {F : Nat → List UInt8} {t : Th} (h : DoneE w w' r V F V' t) : w.heap.size ≤ w'.heap.size := by
  cases t with
  | put f s =>
    obtain ⟨v', _, h⟩ := h
    exact h.size
  | cut f m => exact h.2.size
theorem DoneE.os {w w' : World} {r : Nat} {V V' : Nat → Value} {F : Nat → List UInt8} {t : Th} (h : DoneE w w' r V F V' t) : w'.os = w.os ∧ w'.tape = w.tape ∧ w'.output = w.output := by
  cases t with
  | put f s =>
    obtain ⟨v', _, h⟩ := h
    exact h.os
  | cut f m => exact ⟨h.2.os, h.2.tape, h.2.output⟩
theorem DoneE.block {w w' : World} {r : Nat} {V V' : Nat → Value} {F : Nat → List UInt8} {t : Th} (h : DoneE w w' r V F V' t) {k : Nat} (hk : k < w.heap.size) (hr : k ≠ r) (hv : ∀ f, (V f).ownBlock ≠ some k) : w'.heap[k]? = w.heap[k]? := by
  cases t with
  | put f s =>
    obtain ⟨v', _, h⟩ := h
    exact h.block hk hr (hv f)
  | cut f m => exact h.2.block k hk (fun e => hr (by cases e; rfl))
theorem DoneE.own {w w' : World} {r : Nat} {V V' : Nat → Value} {F : Nat → List UInt8} {t : Th} (h : DoneE w w' r V F V' t) (f g : Nat) (hg : (V' f).ownBlock = some g) : (V f).ownBlock = some g ∨ g = w.heap.size := by
  cases t with
  | put q s =>
    obtain ⟨v', rfl, h⟩ := h
    by_cases hf : f = q
    · subst hf
      rw [updV_same] at hg
      rcases h.own with e | e
      · exact .inl (by rw [← e]; exact hg)
      · rw [e] at hg
        cases hg
        exact .inr rfl
    · rw [updV_other hf] at hg
      exact .inl hg
  | cut q m =>
    rw [h.1] at hg
    by_cases hf : f = q
    · subst hf
      rw [updV_same] at hg
      exact .inl (cutV_own hg)
    · rw [updV_other hf] at hg
      exact .inl hg
/-- the other map's files abide -/
theorem DoneE.other {w w' : World} {r q : Nat} {V V' U : Nat → Value} {F G : Nat → List UInt8} {t : Th} (h : DoneE w w' r V F V' t) (hfs : Fs w r V F) (hgs : Fs w q U G) (hne : q ≠ r)
    (cross : ∀ f f' g, f ≠ f' → (V f).ownBlock = some g → (U f').ownBlock ≠ some g) (share : ∀ f g, (V f).ownBlock = some g → (U f).ownBlock = some g → (G f).length ≤ (F f).length ∨ capOf (V f) = (F f).length) : Fs w' q U G := by
  obtain ⟨es, c, hm, hE⟩ := hgs.map
  refine ⟨⟨es, c, h.keep hfs hm hne (fun _ e => by cases e), hE⟩, fun g => ?_, hgs.apart⟩
  cases t with
  | put f s =>
    obtain ⟨v', _, w1, hw, hg⟩ := h
    have hm1 : FMap w1 r V := hfs.map.keep (hw.block hfs.map.lt ((hfs.row f).noMap hfs.map))
    have h1 : SlAt w1 (U g) (G g) := (hgs.row g).went hw (fun e => by
      cases ho : (U g).ownBlock with
      | none =>
        rcases hgs.row g with ⟨_, e1⟩ | ⟨_, gg, cap, cur, e0, _⟩
        · exact .inl (by rw [e1]; simp)
        · rw [e0] at ho; cases ho
      | some b =>
        by_cases hgf : f = g
        · subst hgf
          exact share f b (by rw [← e]; exact ho) ho
        · exact absurd ho (cross f g b hgf (by rw [← e]; exact ho)))
    exact h1.keep (fun b hb => hg.block b (h1.lt b hb) (fun e => (h1.noMap hm1) (by rw [hb, e])))
  | cut f m =>
    exact (hgs.row g).keep (fun b hb => h.2.block b ((hgs.row g).lt b hb) (fun e => ((hgs.row g).noMap hfs.map) (by rw [hb, e])))
theorem doneF_other {F : Nat → List UInt8} {t : Th} {f : Nat} (h : f ≠ t.file) : doneF F t f = F f := by
  cases t <;> exact updF_other h
theorem DoneE.share {w w' : World} {r : Nat} {V V' U : Nat → Value} {F G : Nat → List UInt8} {t : Th} (h : DoneE w w' r V F V' t) (hk : ThOk F t) (hu : ∀ f g, (U f).ownBlock = some g → g < w.heap.size)
    (share : ∀ f g, (V f).ownBlock = some g → (U f).ownBlock = some g → (G f).length ≤ (F f).length ∨ capOf (V f) = (F f).length) : ∀ f g, (V' f).ownBlock = some g → (U f).ownBlock = some g → (G f).length ≤ (doneF F t f).length ∨ capOf (V' f) = (doneF F t f).length := by
  intro f g hv hub
  cases t with
  | put q s =>
    obtain ⟨v', rfl, w1, hw, hg⟩ := h
    by_cases hf : f = q
    · subst hf
      rw [updV_same] at hv ⊢
      have hlen : (doneF F (.put f s) f).length = (F f).length + s.size := by
        show (updF F f (F f ++ s.data.toList) f).length = _
        rw [updF_same, List.length_append]
        simp
      rw [hlen]
      rcases hw with ⟨_, e, hm⟩ | ⟨b, cap, cur, cur', e1, e2, hroom, _⟩ | ⟨e, _⟩
      · subst e
        have := share f g hv hub
        omega
      · rw [e2] at hv
        have := share f g (by rw [e1]; exact hv) hub
        rw [e1] at this
        rw [e2]
        simp only [capOf] at this ⊢
        omega
      · rw [e] at hv
        have := hu f g hub
        cases hv
        omega
    · rw [updV_other hf] at hv ⊢
      rw [doneF_other (t := .put q s) hf]
      exact share f g hv hub
  | cut q m =>
    obtain ⟨rfl, hg⟩ := h
    by_cases hf : f = q
    · subst hf
      rw [updV_same] at hv ⊢
      right
      have hlen : (doneF F (.cut f m) f).length = m := by
        show (updF F f ((F f).take m) f).length = _
        rw [updF_same, List.length_take]
        have := hk.2
        omega
      rw [hlen]
      unfold cutV at hv ⊢
      split at hv
      · unfold stV at hv ⊢
        split at hv
        · cases hv
        · rename_i h0
          simp [h0, capOf]
      · cases hv
    · rw [updV_other hf] at hv ⊢
      rw [doneF_other (t := .cut q m) hf]
      exact share f g hv hub
def grewΦ (w w' : World) (Φ : Nat → Prop) : Nat → Prop := fun k => Φ k ∨ (w.heap.size ≤ k ∧ k < w'.heap.size)
/-- a disk whose files have turned by a thing -/
theorem DkW.done {N : Nat} {w w' : World} {Φ : Nat → Prop} {p mf ms : Nat} {V U V' : Nat → Value} {lv : Value} {B : List (Th × Nat × Nat)} {D : Dk} {t : Th} (h : DkW N w Φ p mf ms V U lv B D) (hs : N ≤ w.heap.size) (hk : ThOk D.F t) (hd : DoneE w w' mf V D.F V' t) (hfs : Fs w' mf V' (doneF D.F t)) :
    DkW N w' (grewΦ w w' Φ) p mf ms V' U lv B { D with F := doneF D.F t } ∧ TurnD w w' Φ (grewΦ w w' Φ) := by
  obtain ⟨⟨es, c, hm⟩, ⟨es2, c2, hm2⟩⟩ := h.mapObj
  have hus : ∀ f g, (U f).ownBlock = some g → g < w.heap.size := fun f g hg => (h.gg.row f).lt g hg
  have ne : ∀ (b : Nat) (cs : Array Value) (ty : TypeId) (fz : Nat × Nat), w.heap[b]? = some (.cells cs ty fz) → b ≠ mf := fun b cs ty fz hb e => by rw [e, hm] at hb; cases hb
  have hbx : ∀ x ∈ B, BoxIn w' x.1 x.2.1 x.2.2 := fun x hx => (h.bx x hx).keep (fun k o hko ho hno => hd.keep h.ff hko (fun e => hno es c (by rw [e, hm] at hko; cases hko; rfl)) ho)
  refine ⟨⟨hd.keep h.ff h.p0 (ne _ _ _ _ h.p0) (fun _ e => by cases e), hfs, hd.other h.ff h.gg h.ne.symm h.cross h.share, h.ne, ?_, hd.share hk hus h.share, ?_, hbx, h.lb, .inl h.fp, .inl h.fmf, .inl h.fms, ?_, fun f g hg => .inl (h.fu f g hg), fun g hg => .inl (h.fl g hg), fun x hx => ⟨.inl (h.fb x hx).1, .inl (h.fb x hx).2⟩, ?_⟩, ⟨hd.os.1, hd.os.2.1, hd.os.2.2, hd.size, fun k hk hn => hd.block hk (fun e => hn (by rw [e]; exact h.fmf)) (fun f e => hn (h.fv f k e)), ?_⟩⟩
  · intro f f' g hff hg hg2
    rcases hd.own f g hg with e | e
    · exact h.cross f f' g hff e hg2
    · have := hus f' g hg2
      omega
  · refine ownsRow_same h.row (fun g hg => ?_)
    rcases h.row.2 with ⟨e0, _⟩ | ⟨b, cap, cur, e0, _, h2, _⟩
    · rw [e0] at hg; cases hg
    · rw [e0] at hg
      cases hg
      rw [h2]
      exact hd.keep h.ff h2 (ne _ _ _ _ h2) (fun _ e => by cases e)
  · intro f g hg
    rcases hd.own f g hg with e | e
    · exact .inl (h.fv f g e)
    · exact .inr ⟨by omega, (hfs.row f).lt g hg⟩
  · intro k hk
    rcases hk with hk | hk
    · exact ⟨(h.lt k hk).1, Nat.lt_of_lt_of_le (h.lt k hk).2 hd.size⟩
    · exact ⟨by omega, hk.2⟩
  · intro k hk
    rcases hk with hk | hk
    · exact .inl hk
    · exact .inr hk.1
end Go.Proofs.YtlnemefegkjjiaaDoor
