/-
  What a walk of convert's wants of a world: errors.errorType, the table of tens, strconv's errors. strconv.ParseInt, strconv.ParseUint.
-/
import Derived.Test.YtmgeefhacnadcaaGreatDoorTell
import Derived.Test.YtmgeefhacnadcaaGreatDoorVErrno
import Derived.Test.YtmgeefhacnadcaaGreatDoorVNum
import Derived.Test.YtmgeefhacnadcaaGreatDoorVVl
namespace Go.Proofs.YtmgeefhacnadcaaGreatDoor
open Go.RowKit

structure Env (w : World) : Prop where
  et : HasET w
  tab : HasTab w
  syn : ∃ te pe, w.cell? ⟨2, 0, none⟩ = some (.iface te pe)
  rng : ∃ te pe, w.cell? ⟨3, 0, none⟩ = some (.iface te pe)
theorem Env.keep {w w' : World} (h : Env w) (hb : Below w.heap.size w w') : Env w' := by
  refine ⟨h.et.below hb h.et.lt, h.tab.below hb h.tab.lt, ?_, ?_⟩
  · obtain ⟨te, pe, hc⟩ := h.syn
    exact ⟨te, pe, by rw [hb.cell (World.block_lt_of_cell? w _ hc)]; exact hc⟩
  · obtain ⟨te, pe, hc⟩ := h.rng
    exact ⟨te, pe, by rw [hb.cell (World.block_lt_of_cell? w _ hc)]; exact hc⟩
theorem bytes_below (w : World) (T : TypeId) (t : ByteArray) : Below w.heap.size w (Lib.bytesWorld w T t) := Lib.bytesWorld_below w T t

/-- a number, and no error; or an error -/
def NumPost (r : Option Value) (w : World) (e : Ending) (w' : World) : Prop :=
  (match r with
    | some v => e = .returned (.tuple #[v, .nilIface])
    | none => ∃ v t p, e = .returned (.tuple #[v, .iface t p])) ∧ Below w.heap.size w w'
def okI (l : List UInt8) : Option Value := match Lib.parseIntB 64 l with
  | .ok v => some (.int .i64 v)
  | _ => none
def okU (l : List UInt8) : Option Value := match Lib.parseUintB 64 l with
  | .ok u => some (.int .u64 (u : Int))
  | _ => none
theorem ParseInt_any (s : ByteArray) (w : World) (hE : Env w) (hs : s.size ≤ 1000) : Calls Tryz.prog 107 #[.string s, .int .i64 10, .int .i64 64] w (NumPost (okI s.data.toList) w) := by
  unfold okI
  cases h : Lib.parseIntB 64 s.data.toList
  case ok v =>
    refine (Tryz.strconv_ParseInt_10_at64_ok s (by omega) v h w).mono ?_
    rintro e w' ⟨rfl, rfl | ⟨t, rfl⟩⟩
    · exact ⟨rfl, Below.refl _ _⟩
    · exact ⟨rfl, bytes_below _ _ _⟩
  case range =>
    obtain ⟨te, pe, hc⟩ := hE.rng
    refine (Tryz.strconv_ParseInt_10_at64_range s (by omega) h _ w hc (.inr ⟨te, pe, rfl⟩)).mono ?_
    rintro e w' ⟨n, rfl, _, _, hb⟩
    exact ⟨⟨_, _, _, rfl⟩, hb⟩
  ·
    obtain ⟨te, pe, hc⟩ := hE.syn
    refine (Tryz.strconv_ParseInt_10_at64_syntax s (by omega) h _ w hc (.inr ⟨te, pe, rfl⟩)).mono ?_
    rintro e w' ⟨n, rfl, _, _, hb⟩
    exact ⟨⟨_, _, _, rfl⟩, hb⟩
theorem ParseUint_any (s : ByteArray) (w : World) (hE : Env w) (hs : s.size ≤ 1000) : Calls Tryz.prog 108 #[.string s, .int .i64 10, .int .i64 64] w (NumPost (okU s.data.toList) w) := by
  unfold okU
  cases h : Lib.parseUintB 64 s.data.toList
  case ok v =>
    refine (Tryz.strconv_ParseUint_10_at64_ok s (by omega) v h w).mono ?_
    rintro e w' ⟨rfl, rfl | rfl⟩
    · exact ⟨rfl, Below.refl _ _⟩
    · exact ⟨rfl, bytes_below _ _ _⟩
  case range =>
    obtain ⟨te, pe, hc⟩ := hE.rng
    refine (Tryz.strconv_ParseUint_10_at64_range s (by omega) h _ w hc (.inr ⟨te, pe, rfl⟩)).mono ?_
    rintro e w' ⟨n, rfl, _, _, hb⟩
    exact ⟨⟨_, _, _, rfl⟩, hb⟩
  ·
    obtain ⟨te, pe, hc⟩ := hE.syn
    refine (Tryz.strconv_ParseUint_10_at64_syntax s (by omega) h _ w hc (.inr ⟨te, pe, rfl⟩)).mono ?_
    rintro e w' ⟨n, rfl, _, _, hb⟩
    exact ⟨⟨_, _, _, rfl⟩, hb⟩
end Go.Proofs.YtmgeefhacnadcaaGreatDoor
