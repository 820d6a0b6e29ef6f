/-
  disk: first, cut; things: what they are made of, and what they do to a map of files.
-/
import Derived.Test.YtbhgcioeibhjeaaGreatDoorDSts
import Derived.Lib.MinMax
namespace Go.Proofs.YtbhgcioeibhjeaaGreatDoor
open Go.RowKit

set_option maxHeartbeats 1000000 in
theorem first_any (oa : Option Addr) (n cap : Nat) (m : Nat) (w : World) (hm : m ≤ n) (hn : n ≤ cap) :
    Calls Tryz.prog 101 #[.slice oa n cap, .int .i64 m] w fun e w' => e = .returned (.slice oa m m) ∧ w = w' := by
  go_enter Tryz.func101, Tryz.ntmps101
  go_wp2_with fail
  go_ret
  exact ⟨rfl, rfl⟩
/-- the first bytes of a file, with no spare room -/
def cutV (v : Value) (m : Nat) : Value := match v with
  | .slice oa _ _ => stV oa m m
  | _ => nilS
theorem SlAt.cut {w : World} {v : Value} {l : List UInt8} {m : Nat} (h : SlAt w v l) (hm : m ≤ l.length) : SlAt w (cutV v m) (l.take m) := by
  rcases h with ⟨rfl, rfl⟩ | ⟨hl, g, cap, cur, rfl, h1, h2, h3, h4, h5⟩
  · have : m = 0 := by simpa using hm
    subst this
    exact .inl ⟨rfl, rfl⟩
  · by_cases h0 : m = 0
    · subst h0
      exact .inl ⟨rfl, rfl⟩
    · rw [show cutV (.slice (some ⟨g, 0, none⟩) l.length cap) m = .slice (some ⟨g, 0, none⟩) m m from if_neg h0]
      have hlen : (l.take m).length = m := by rw [List.length_take]; omega
      refine .inr ⟨fun e => by rw [e] at hlen; exact h0 hlen.symm, g, m, cur, by rw [hlen], h1, by omega, by omega, by omega, ?_⟩
      rw [hlen, ← cB_take, ← h5, List.take_take, Nat.min_eq_left hm]
theorem cutV_own {v : Value} {m g : Nat} (h : (cutV v m).ownBlock = some g) : v.ownBlock = some g := by
  unfold cutV at h
  split at h
  · unfold stV at h
    split at h
    · cases h
    · rename_i oa _ _ _
      cases oa with
      | none => cases h
      | some a => exact h
  · cases h
/-- a map behind a cut -/
theorem Fs.cut {w w' : World} {r f m : Nat} {V : Nat → Value} {F : Nat → List UInt8} (h : Fs w r V F) (hm : m ≤ (F f).length) (hmap : FMap w' r (updV V f (cutV (V f) m))) (hg : w.grownBy w' (some r)) : Fs w' r (updV V f (cutV (V f) m)) (updF F f ((F f).take m)) := by
  have keep : ∀ v l, SlAt w v l → SlAt w' v l := fun v l hs => hs.keep (fun g hgo => hg.block g (hs.lt g hgo) (fun e => (hs.noMap h.map) (by rw [hgo, e])))
  refine ⟨hmap, fun g => ?_, fun a b g hab ha hb => ?_⟩
  · by_cases hgf : g = f
    · subst hgf
      rw [updV_same, updF_same]
      exact keep _ _ ((h.row g).cut hm)
    · rw [updV_other hgf, updF_other hgf]
      exact keep _ _ (h.row g)
  · have e : ∀ x, (updV V f (cutV (V f) m) x).ownBlock = some g → (V x).ownBlock = some g := fun x hx => by
      by_cases hxf : x = f
      · subst hxf
        rw [updV_same] at hx
        exact cutV_own hx
      · rwa [updV_other hxf] at hx
    exact h.apart a b g hab (e a ha) (e b hb)
set_option maxHeartbeats 1000000 in
theorem cut_any (r f m : Nat) (V : Nat → Value) (F : Nat → List UInt8) (w : World) (h : Fs w r V F) (hf : f < 64) (hm : m ≤ (F f).length) :
    Calls Tryz.prog 86 #[.map (some r), .int .i64 f, .int .i64 m] w fun e w' => e = .returned (.tuple #[]) ∧ Fs w' r (updV V f (cutV (V f) m)) (updF F f ((F f).take m)) ∧ w.grownBy w' (some r) := by
  have hlk := h.map.lookup (P := Tryz.prog) Tryz.underlying69 Tryz.underlying3 (zeroB w) f
  obtain ⟨oa, cap, e0, hcap⟩ : ∃ oa cap, V f = .slice oa (F f).length cap ∧ (F f).length ≤ cap := by
    rcases h.row f with ⟨e, e'⟩ | ⟨_, g, cap, cur, e, _, hc, _⟩
    · exact ⟨none, 0, by rw [e, e']; rfl, by rw [e']; exact Nat.le_refl _⟩
    · exact ⟨_, _, e, hc⟩
  have hfirst := Lib.hid (first_any oa (F f).length cap m w hm hcap)
  have hset := Lib.hid (set_any r f V oa m m w h.map hf)
  have e1 : stV oa m m = cutV (V f) m := by rw [e0]; rfl
  rw [e1] at hset
  have HP := Lib.hid (fun w' (hmap : FMap w' r (updV V f (cutV (V f) m))) (hg : w.grownBy w' (some r)) => And.intro (h.cut hm hmap hg) hg)
  rw [e0] at hlk
  clear h e0 e1 hm hf hcap
  generalize (F f).length = n at hlk hfirst
  go_enter Tryz.func86, Tryz.ntmps86
  go_wp2_with (first | (go_at_call 101; refine hfirst.out.mono ?_; rintro e w' ⟨rfl, rfl⟩) | (go_at_call 93; refine hset.out.mono ?_; rintro e w' ⟨rfl, hmap, hg⟩))
  go_end0
  exact ⟨rfl, HP.out _ hmap hg⟩

/-- what is done to a file -/
inductive Th where
  | put (f : Nat) (s : ByteArray)
  | cut (f m : Nat)
def Th.file : Th → Nat
  | .put f _ => f
  | .cut f _ => f
/-- a thing's cells, and where its closures' boxes lie -/
def thC (t : Th) (b1 b2 : Nat) : List Value := match t with
  | .put f s => [.int .i64 f, .bool false, .int .i64 0, .string s, .func (.func 69) #[] #[.pointer (some ⟨b1, 0, none⟩), .pointer (some ⟨b2, 0, none⟩)], .func (.func 71) #[] #[.pointer (some ⟨b1, 0, none⟩), .pointer (some ⟨b2, 0, none⟩)]]
  | .cut f m => [.int .i64 f, .bool true, .int .i64 m, .string ⟨#[]⟩, .func (.func 85) #[] #[.pointer (some ⟨b1, 0, none⟩), .pointer (some ⟨b2, 0, none⟩)], .func (.func 87) #[] #[]]
def BoxIn (w : World) (t : Th) (b1 b2 : Nat) : Prop := match t with
  | .put f s => w.heap[b1]? = some (.cells #[.int .i64 f] 3 (0, 0)) ∧ w.heap[b2]? = some (.cells #[.string s] 9 (0, 0))
  | .cut f m => w.heap[b1]? = some (.cells #[.int .i64 f] 3 (0, 0)) ∧ w.heap[b2]? = some (.cells #[.int .i64 m] 3 (0, 0))
theorem cell_of_heap {w : World} {b : Nat} {v : Value} {t : TypeId} {fz : Nat × Nat} (h : w.heap[b]? = some (.cells #[v] t fz)) : w.cell? ⟨b, 0, none⟩ = some v := by
  simp [World.cell?, h]
theorem thC_length (t : Th) (b1 b2 : Nat) : (thC t b1 b2).length = 6 := by cases t <;> rfl
set_option maxHeartbeats 1000000 in
theorem putting_any (f : Nat) (s : ByteArray) (w : World) : Calls Tryz.prog 42 #[.int .i64 f, .string s] w fun e w' =>
    e = .returned (.agg (thC (.put f s) w.heap.size (w.heap.size + 1)).toArray) ∧ BoxIn w' (.put f s) w.heap.size (w.heap.size + 1) ∧ Below w.heap.size w w' := by
  have hmf : ∀ (fn : Fn) (first cap : Array Value) (w : World), (Instr.makeFunc fn first cap).run Tryz.prog w = .ok (.func fn first cap) w := fun _ _ _ _ => rfl
  go_enter Tryz.func42, Tryz.ntmps42
  go_wp2_with fail
  refine bodyPost_ret (v := .agg (thC (.put f s) w.heap.size (w.heap.size + 1)).toArray) (by simp [results, Tryz.results42, go_sem, thC]) rfl ?_
  refine ⟨rfl, ⟨?_, ?_⟩, (((Below.refl _ _).alloc (Nat.le_refl _) _).alloc (by simp) _).alloc (by simp; omega) _⟩
  · rw [Below.heap_alloc _ _ _ (by simp; omega), Below.heap_alloc _ _ _ (by simp)]
    exact heap_alloc_at w _
  · rw [Below.heap_alloc _ _ _ (by simp)]
    have h := heap_alloc_at (w.alloc (.cells #[.int .i64 (f : Int)] 3)) (.cells #[.string s] 9)
    rwa [World.size_alloc] at h
set_option maxHeartbeats 1000000 in
theorem cutting_any (f m : Nat) (w : World) : Calls Tryz.prog 63 #[.int .i64 f, .int .i64 m] w fun e w' =>
    e = .returned (.agg (thC (.cut f m) w.heap.size (w.heap.size + 1)).toArray) ∧ BoxIn w' (.cut f m) w.heap.size (w.heap.size + 1) ∧ Below w.heap.size w w' := by
  have hmf : ∀ (fn : Fn) (first cap : Array Value) (w : World), (Instr.makeFunc fn first cap).run Tryz.prog w = .ok (.func fn first cap) w := fun _ _ _ _ => rfl
  go_enter Tryz.func63, Tryz.ntmps63
  go_wp2_with fail
  refine bodyPost_ret (v := .agg (thC (.cut f m) w.heap.size (w.heap.size + 1)).toArray) (by simp [results, Tryz.results63, go_sem, thC]) rfl ?_
  refine ⟨rfl, ⟨?_, ?_⟩, (((Below.refl _ _).alloc (Nat.le_refl _) _).alloc (by simp) _).alloc (by simp; omega) _⟩
  · rw [Below.heap_alloc _ _ _ (by simp; omega), Below.heap_alloc _ _ _ (by simp)]
    exact heap_alloc_at w _
  · rw [Below.heap_alloc _ _ _ (by simp)]
    have h := heap_alloc_at (w.alloc (.cells #[.int .i64 (f : Int)] 3)) (.cells #[.int .i64 (m : Int)] 3)
    rwa [World.size_alloc] at h
/-- how a thing is done to a map of files: what lies in the slices then -/
def DoneE (w w' : World) (r : Nat) (V : Nat → Value) (F : Nat → List UInt8) (V' : Nat → Value) (t : Th) : Prop := match t with
  | .put f s => ∃ v', V' = updV V f v' ∧ PutE w w' r f V (F f).length s.size v'
  | .cut f m => V' = updV V f (cutV (V f) m) ∧ w.grownBy w' (some r)
def doneF (F : Nat → List UInt8) : Th → Nat → List UInt8
  | .put f s => updF F f (F f ++ s.data.toList)
  | .cut f m => updF F f ((F f).take m)
def ThOk (F : Nat → List UInt8) : Th → Prop
  | .put f s => f < 64 ∧ (F f).length ≤ 100000000 ∧ s.size ≤ 100000000
  | .cut f m => f < 64 ∧ m ≤ (F f).length
set_option maxHeartbeats 1000000 in
theorem putting1_any (r f b1 b2 : Nat) (s : ByteArray) (V : Nat → Value) (F : Nat → List UInt8) (w : World) (h : Fs w r V F) (hb : BoxIn w (.put f s) b1 b2) (hk : ThOk F (.put f s)) :
    Calls Tryz.prog 69 #[.map (some r), .pointer (some ⟨b1, 0, none⟩), .pointer (some ⟨b2, 0, none⟩)] w fun e w' => e = .returned (.tuple #[]) ∧ ∃ V', Fs w' r V' (doneF F (.put f s)) ∧ DoneE w w' r V F V' (.put f s) := by
  have h1 := cell_of_heap hb.1
  have h2 := cell_of_heap hb.2
  have HC := Lib.hid (put_any r f V F s w h hk.1 hk.2.1 hk.2.2)
  clear h hb hk
  go_enter Tryz.func69, Tryz.ntmps69
  go_wp2_with (go_at_call 70; refine HC.out.mono ?_; rintro e w' ⟨rfl, v', hfs, hpe⟩)
  go_end0
  exact ⟨rfl, _, hfs, v', rfl, hpe⟩
set_option maxHeartbeats 1000000 in
theorem cutting1_any (r f m b1 b2 : Nat) (V : Nat → Value) (F : Nat → List UInt8) (w : World) (h : Fs w r V F) (hb : BoxIn w (.cut f m) b1 b2) (hk : ThOk F (.cut f m)) :
    Calls Tryz.prog 85 #[.map (some r), .pointer (some ⟨b1, 0, none⟩), .pointer (some ⟨b2, 0, none⟩)] w fun e w' => e = .returned (.tuple #[]) ∧ ∃ V', Fs w' r V' (doneF F (.cut f m)) ∧ DoneE w w' r V F V' (.cut f m) := by
  have h1 := cell_of_heap hb.1
  have h2 := cell_of_heap hb.2
  have HC := Lib.hid (cut_any r f m V F w h hk.1 hk.2)
  clear h hb hk
  go_enter Tryz.func85, Tryz.ntmps85
  go_wp2_with (go_at_call 86; refine HC.out.mono ?_; rintro e w' ⟨rfl, hfs, hpe⟩)
  go_end0
  exact ⟨rfl, _, hfs, rfl, hpe⟩
/-- the part of a thing that a crash leaves -/
def tornT (n : Nat) : Th → Th
  | .put f s => .put f (s.extract 0 (min n s.size))
  | .cut f m => .cut f m
theorem cutting2_any (r : Nat) (n : Int) (w : World) : Calls Tryz.prog 87 #[.map (some r), .int .i64 n] w fun e w' => e = .returned (.tuple #[]) ∧ w = w' := by
  go_enter Tryz.func87, Tryz.ntmps87
  go_wp2_with fail
  go_end0
  exact ⟨rfl, rfl⟩
theorem BoxIn.keep {w w' : World} {t : Th} {b1 b2 : Nat} (h : BoxIn w t b1 b2) (hk : ∀ (k : Nat) (o : Obj), w.heap[k]? = some o → (∀ cur, o ≠ Obj.cells cur 5 (0, 0)) → (∀ es c, o ≠ Obj.map es c) → w'.heap[k]? = some o) : BoxIn w' t b1 b2 := by
  cases t <;> exact ⟨hk _ _ h.1 (fun _ e => by cases e) (fun _ _ e => by cases e), hk _ _ h.2 (fun _ e => by cases e) (fun _ _ e => by cases e)⟩
set_option maxHeartbeats 2000000 in
theorem putting2_any (r f b1 b2 : Nat) (s : ByteArray) (n : Int) (V : Nat → Value) (F : Nat → List UInt8) (w : World) (h : Fs w r V F) (hb : BoxIn w (.put f s) b1 b2) (hk : ThOk F (.put f s)) (hn : 0 ≤ n) (hn2 : n ≤ 9223372036854775807) :
    Calls Tryz.prog 71 #[.map (some r), .int .i64 n, .pointer (some ⟨b1, 0, none⟩), .pointer (some ⟨b2, 0, none⟩)] w fun e w' => e = .returned (.tuple #[]) ∧ ∃ V', Fs w' r V' (doneF F (tornT n.toNat (.put f s))) ∧ DoneE w w' r V F V' (tornT n.toNat (.put f s)) := by
  obtain ⟨k, hkk⟩ : ∃ k : Nat, min n.toNat s.size = k := ⟨_, rfl⟩
  have hks : k ≤ s.size := by omega
  have hki0 : (0 : Int) ≤ (k : Int) := by omega
  have hki1 : (k : Int) ≤ (s.size : Int) := by omega
  have hmin : min n (s.size : Int) = (k : Int) := by omega
  have hT : tornT n.toNat (.put f s) = .put f (s.extract 0 k) := by
    show Th.put f (s.extract 0 (min n.toNat s.size)) = _
    rw [hkk]
  rw [hT]
  have hsz : (s.extract 0 k).size ≤ 100000000 := by
    have := hk.2.2
    have h1 : (s.extract 0 k).size = min k s.size - 0 := by simp
    omega
  have hsl : ∀ W, (Instr.sliceAt 9 (.string s) none (some (.int .i64 (k : Int))) none).run Tryz.prog W = .ok (.string (s.extract 0 k)) W := fun W => by
    go_simp
  have h1 := cell_of_heap hb.1
  have h2 := cell_of_heap hb.2
  have HR := Lib.hid h
  have HC : Hid (Calls Tryz.prog 70 #[.map (some r), .int .i64 f, .string (s.extract 0 k)] w.drew fun e w' => e = .returned (.tuple #[]) ∧ (w'.cell? ⟨b1, 0, none⟩ = some (.int .i64 f) ∧ w'.cell? ⟨b2, 0, none⟩ = some (.string s)) ∧ ∃ v', Fs w' r (updV V f v') (updF F f (F f ++ (s.extract 0 k).data.toList)) ∧ PutE w w' r f V (F f).length (s.extract 0 k).size v') := Lib.hid ((put_any r f V F (s.extract 0 k) w.drew h.drew hk.1 hk.2.1 hsz).mono (fun e w' ⟨h0, v', h3, h4⟩ => by
    obtain ⟨es, c, hm, _⟩ := HR.out.map
    have ne : ∀ (b : Nat) (cs : Array Value) (t : TypeId), w.heap[b]? = some (.cells cs t (0, 0)) → b ≠ r := fun b cs t hb e => by rw [e, hm] at hb; cases hb
    exact ⟨h0, ⟨cell_of_heap (h4.drew.keep (HR.out.row f) hb.1 (ne _ _ _ hb.1) (fun _ e => by cases e)), cell_of_heap (h4.drew.keep (HR.out.row f) hb.2 (ne _ _ _ hb.2) (fun _ e => by cases e))⟩, v', h3, h4.drew⟩))
  clear h hb hk HR hsz hT hkk
  go_enter Tryz.func71, Tryz.ntmps71
  go_region_held3 (fun W => W.cell? ⟨b1, 0, none⟩ = some (.int .i64 f) ∧ W.cell? ⟨b2, 0, none⟩ = some (.string s)) (first | assumption | (simp [*]; done))
    (first | (go_at_call 70; refine HC.out.mono ?_; rintro e w' ⟨rfl, hcc, v', hfs, hpe⟩))
  go_wp2_with fail
  go_end0
  exact ⟨rfl, _, hfs, v', rfl, hpe⟩
end Go.Proofs.YtbhgcioeibhjeaaGreatDoor
