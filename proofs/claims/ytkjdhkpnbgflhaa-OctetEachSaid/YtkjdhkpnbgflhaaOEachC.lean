/-
  slices.Clone at bytes; octet.Each.
-/
import Derived.Test.YtkjdhkpnbgflhaaOCut
import Derived.Test.YtkjdhkpnbgflhaaOEachP
import Derived.Lib.SliceRun
namespace Go.Proofs.Ytkjdhkpnbgflhaa
open Go.RowKit

/-- bytes of the call's own -/
structure NewB (w w' : World) (oa : Option Addr) (cap : Nat) (l : List UInt8) : Prop where
  bytes : BytesOf w' (.slice oa l.length cap) l
  new : ∀ a, oa = some a → w.heap.size ≤ a.block ∧ a.block < w'.heap.size
  below : Below w.heap.size w w'

set_option maxRecDepth 100000 in
set_option maxHeartbeats 1000000 in
theorem Clone_any (v : Value) (l : List UInt8) (w : World) (hv : BytesOf w v l) (hl : l.length ≤ 900000) :
    Calls Try.prog 14 #[v] w fun e w' => ∃ oa cap, e = .returned (.slice oa l.length cap) ∧ NewB w w' oa cap l := by
  have q23 : ∀ (w : World) (a : Option Addr) (n c n' c' : Nat), (binOp .eql 22 (.slice a n c) (.slice none n' c')).run Try.prog w = .ok (.bool a.isNone) w := fun w a n c n' c' => Lib.run_eql_slice_nil w _ _ a n c n' c' Try.underlying22
  rcases hv with ⟨rfl, rfl⟩ | ⟨ad, cap, rfl, hcap, hc⟩
  · go_enter Try.func14, Try.ntmps14
    go_wp2
    go_ret
    exact ⟨none, 0, rfl, ⟨.inl ⟨rfl, rfl⟩, (fun _ h => by cases h), Below.refl _ _⟩⟩
  · have HV := Lib.hid (show BytesOf w (.slice (some ad) l.length cap) l from .inr ⟨ad, cap, rfl, hcap, hc⟩)
    clear hc
    go_enter Try.func14, Try.ntmps14
    go_wp2_with (first | (at_builtin; refine wpList_append_bytes rfl _ _ rfl w.heap.size _ (.slice (some ad) l.length cap) 0 [] l rfl rfl (own_none w w.heap.size (Nat.le_refl _)) rfl (HV.out.keep ((Below.refl _ _).alloc (Nat.le_refl _) _) (Nat.le_refl _)) ?c1 ?c2 ?_))
    case c1 => omega
    case c2 => simp
    intro v2 w2 hown2 hg2
    have hb2 : Below w.heap.size w w2 := ((Below.refl _ _).alloc (Nat.le_refl _) (.cells #[] 5)).grown hg2 (by simp) (fun x hx => by cases hx; exact Nat.le_refl _)
    have hs := BytesOf.own hown2
    have hlt := hown2.lt
    obtain ⟨ob, cap2, rfl, _, _⟩ := hs.at
    have HR := Lib.hid (show NewB w w2 ob cap2 l from ⟨hs, fun a ha => by subst ha; exact hlt a.block rfl, hb2⟩)
    clear hs hlt hown2 hg2 hb2
    go_wp2
    go_ret
    exact ⟨_, _, rfl, HR.out⟩

set_option maxRecDepth 100000 in
set_option maxHeartbeats 1000000 in
theorem Each_any (v : Value) (l : List UInt8) (w : World) (hv : BytesOf w v l) (hl : l.length ≤ 900000) :
    Calls Try.prog 6 #[v] w fun e w' => ∃ cb oa cap, e = .returned (.func (.func 15) #[] #[.pointer (some ⟨cb, 0, none⟩)]) ∧ w'.cell? ⟨cb, 0, none⟩ = some (.slice oa l.length cap) ∧ NewB w w' oa cap l := by
  have HC := Lib.hid (Clone_any v l w hv hl)
  clear hv
  go_enter Try.func6, Try.ntmps6
  go_wp2_with fail
  refine HC.out.mono ?_
  rintro e w1 ⟨oa, cap, rfl, hn⟩
  have HN := Lib.hid hn
  clear hn HC
  go_wp2
  go_ret
  refine ⟨_, oa, cap, rfl, by simp [go_sem], ?_⟩
  obtain ⟨h1, h2, h3⟩ := HN.out
  have hb := (Below.refl w1.heap.size w1).alloc (Nat.le_refl _) (.cells #[.slice oa l.length cap] 22)
  exact ⟨h1.keep hb (Nat.le_refl _), fun a ha => by have := h2 a ha; simp; omega, held_transO h3 hb⟩
end Go.Proofs.Ytkjdhkpnbgflhaa
