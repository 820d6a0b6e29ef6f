/-
  value.parse and value.Parse of any text.
-/
import Derived.Test.YtifmfcaaofiboaaGreatDoorParse0
import Derived.Test.YtifmfcaaofiboaaGreatDoorParse1
import Derived.Test.YtifmfcaaofiboaaGreatDoorParse2
import Derived.Test.YtifmfcaaofiboaaGreatDoorParse3
import Derived.Test.YtifmfcaaofiboaaGreatDoorParse4
namespace Go.Proofs.YtifmfcaaofiboaaGreatDoor
open Go.RowKit

theorem readNull_null (w : World) :
    Calls Tryz.prog 69 #[.string ⟨#[110, 117, 108, 108]⟩] w fun e w' => e = .returned (.tuple #[.agg #[.int .i64 0, .int .i64 0, .int .u64 0, .string ⟨#[]⟩], .bool true]) ∧ Below w.heap.size w w' := by
  go_enter Tryz.func69, Tryz.ntmps69
  go_wp2
  go_returns
  exact ⟨rfl, by go_grown⟩

/-- a value that a text was read as, and whether it is one -/
structure Rd where
  k : Int
  i : Int
  u : Int
  v : ByteArray
  ok : Bool
def readOf (l : List UInt8) : Rd :=
  if l = [110, 117, 108, 108] then ⟨0, 0, 0, ⟨#[]⟩, true⟩
  else if l = [102, 97, 108, 115, 101] then ⟨3, 0, 0, ⟨#[]⟩, true⟩
  else if l = [116, 114, 117, 101] then ⟨3, 1, 0, ⟨#[]⟩, true⟩
  else if Lib.hasPrefix l [120, 39] = true then ⟨4, 0, 0, ⟨((prsGo (innerOf l) []).getD []).toArray⟩, bytesOk l⟩
  else if Lib.hasSuffix l [117] = true then
    match numOf 18446744073709551615 (Lib.trimSuffix l [117]) with
    | some n => ⟨2, 0, n, ⟨#[]⟩, true⟩
    | none => ⟨2, 0, 0, ⟨#[]⟩, false⟩
  else if Lib.hasPrefix l [45] = true then
    match numOf 9223372036854775808 (Lib.trimPrefix l [45]) with
    | some n => ⟨1, -n, 0, ⟨#[]⟩, decide (1 ≤ n)⟩
    | none => ⟨1, 0, 0, ⟨#[]⟩, false⟩
  else
    match numOf 9223372036854775807 l with
    | some n => ⟨1, n, 0, ⟨#[]⟩, true⟩
    | none => ⟨1, 0, 0, ⟨#[]⟩, false⟩
/-- what value.parse says: none (110), refused (the number), or the value -/
def ParsePost (r : Rd) (w : World) (e : Ending) (w' : World) : Prop :=
  if r.ok = false then IsErr2 110 zeroV w e w' else if chk r.k r.i r.u r.v = 0 then e = .returned (.tuple #[.agg #[.int .i64 r.k, .int .i64 r.i, .int .u64 r.u, .string r.v], .nilIface]) ∧ Below w.heap.size w w' else IsErr2 (chk r.k r.i r.u r.v) zeroV w e w'

theorem post_of {s : ByteArray} {r : Rd} {w : World}
    (h0 : r.ok = false → Calls Tryz.prog 40 #[.string s] w (IsErr2 110 zeroV w))
    (h1 : r.ok = true → chk r.k r.i r.u r.v = 0 → Calls Tryz.prog 40 #[.string s] w (fun e w' => e = .returned (.tuple #[.agg #[.int .i64 r.k, .int .i64 r.i, .int .u64 r.u, .string r.v], .nilIface]) ∧ Below w.heap.size w w'))
    (h2 : r.ok = true → ∀ n, chk r.k r.i r.u r.v = n → n ≠ 0 → Calls Tryz.prog 40 #[.string s] w (IsErr2 n zeroV w)) :
    Calls Tryz.prog 40 #[.string s] w (ParsePost r w) := by
  unfold ParsePost
  cases hok : r.ok
  · exact h0 hok
  · by_cases hc : chk r.k r.i r.u r.v = 0
    · simp only [Bool.true_eq_false, if_false, hc, if_true]
      exact h1 hok hc
    · simp only [Bool.true_eq_false, if_false, hc]
      exact h2 hok _ rfl hc

theorem parse_any (s : ByteArray) (w : World) (hz : s.size ≤ 800) :
    Calls Tryz.prog 40 #[.string s] w (ParsePost (readOf s.data.toList) w) := by
  have eS : ∀ l : List UInt8, s.data.toList = l → s = ⟨l.toArray⟩ := fun l h => by
    obtain ⟨⟨x⟩⟩ := s
    simp at h
    rw [h]
  have eT : s.toList = s.data.toList := ByteArray.toList_eq s
  unfold readOf
  split
  · rename_i h
    obtain rfl := eS _ h
    have hk := fun W => kindOf_null W
    refine post_of (fun h => by cases h) (fun _ hc => ?_) (fun _ n hc hn => ?_)
    · exact parseNull_ok _ _ _ _ _ w hk (fun W => readNull_null W) hc
    · exact parseNull_bad _ _ _ _ _ w hk (fun W => readNull_null W) n hc hn
  · rename_i hn0
    split
    · rename_i h
      obtain rfl := eS _ h
      refine post_of (fun h => by cases h) (fun _ hc => ?_) (fun _ n hc hn => ?_)
      · exact parseBool_ok _ _ _ _ _ w (fun W => kindOf_false W) (fun W => readBool_false W) hc
      · exact parseBool_bad _ _ _ _ _ w (fun W => kindOf_false W) (fun W => readBool_false W) n hc hn
    · rename_i hf0
      split
      · rename_i h
        obtain rfl := eS _ h
        refine post_of (fun h => by cases h) (fun _ hc => ?_) (fun _ n hc hn => ?_)
        · exact parseBool_ok _ _ _ _ _ w (fun W => kindOf_true W) (fun W => readBool_true W) hc
        · exact parseBool_bad _ _ _ _ _ w (fun W => kindOf_true W) (fun W => readBool_true W) n hc hn
      · rename_i ht0
        have hw : NoWord s := ⟨by rw [eT]; simpa using hn0, by rw [eT]; simpa using hf0, by rw [eT]; simpa using ht0⟩
        split
        · rename_i hp
          have hk := fun W => kindOf_bytes s W hw hp
          have hr := fun W => readBytes_any s W hp hz
          refine post_of (fun h => ?_) (fun h hc => ?_) (fun h n hc hn => ?_)
          · dsimp only at h; rw [h] at hr; exact parseBytes_no _ _ _ _ _ w hk hr
          · dsimp only at h hc ⊢; rw [h] at hr; exact parseBytes_ok _ _ _ _ _ w hk hr hc
          · dsimp only at h hc; rw [h] at hr; exact parseBytes_bad _ _ _ _ _ w hk hr n hc hn
        · rename_i hp
          have hp' : Lib.hasPrefix s.data.toList [120, 39] = false := by simpa using hp
          split
          · rename_i hs
            have hk := fun W => kindOf_uint s W hw hp' hs (by omega)
            split
            · rename_i n hn
              have hr := fun W => readUint_yes s n W hs (by omega) hn
              refine post_of (fun h => by cases h) (fun _ hc => ?_) (fun _ n hc hn => ?_)
              · exact parseUint_ok _ _ _ _ _ w hk hr hc
              · exact parseUint_bad _ _ _ _ _ w hk hr n hc hn
            · rename_i hn
              have hr := fun W => readUint_no s W hs (by omega) hn
              refine post_of (fun _ => ?_) (fun h => by cases h) (fun h => by cases h)
              exact parseUint_no _ _ _ _ _ w hk hr
          · rename_i hs
            have hs' : Lib.hasSuffix s.data.toList [117] = false := by simpa using hs
            have hk := fun W => kindOf_int s W hw hp' hs' (by omega)
            split
            · rename_i hm
              split
              · rename_i n hn
                have hr := fun W => readInt_minus s n W hm (by omega) hn
                refine post_of (fun h => ?_) (fun h hc => ?_) (fun h n hc hn => ?_)
                · dsimp only at h; rw [h] at hr; exact parseInt_no _ _ _ _ _ w hk hr
                · dsimp only at h hc ⊢; rw [h] at hr; exact parseInt_ok _ _ _ _ _ w hk hr hc
                · dsimp only at h hc; rw [h] at hr; exact parseInt_bad _ _ _ _ _ w hk hr n hc hn
              · rename_i hn
                have hr := fun W => readInt_minus_no s W hm (by omega) hn
                refine post_of (fun _ => ?_) (fun h => by cases h) (fun h => by cases h)
                exact parseInt_no _ _ _ _ _ w hk hr
            · rename_i hm
              have hm' : Lib.hasPrefix s.data.toList [45] = false := by simpa using hm
              split
              · rename_i n hn
                have hr := fun W => readInt_plus s n W hm' (by omega) hn
                refine post_of (fun h => by cases h) (fun _ hc => ?_) (fun _ n hc hn => ?_)
                · exact parseInt_ok _ _ _ _ _ w hk hr hc
                · exact parseInt_bad _ _ _ _ _ w hk hr n hc hn
              · rename_i hn
                have hr := fun W => readInt_plus_no s W hm' (by omega) hn
                refine post_of (fun _ => ?_) (fun h => by cases h) (fun h => by cases h)
                exact parseInt_no _ _ _ _ _ w hk hr

/-- a value and 0, or none and an error's number, as value.Parse gives them -/
def parseRes (l : List UInt8) : Value :=
  if (readOf l).ok = false then .tuple #[zeroV, .int .i64 110]
  else if chk (readOf l).k (readOf l).i (readOf l).u (readOf l).v = 0 then .tuple #[.agg #[.int .i64 (readOf l).k, .int .i64 (readOf l).i, .int .u64 (readOf l).u, .string (readOf l).v], .int .i64 0]
  else .tuple #[zeroV, .int .i64 (chk (readOf l).k (readOf l).i (readOf l).u (readOf l).v)]

set_option maxRecDepth 100000 in
set_option maxHeartbeats 1600000 in
theorem Parse_err (s : ByteArray) (n : Int) (w : World) (hg : HasET w) (hC : ∀ W, Calls Tryz.prog 40 #[.string s] W (IsErr2 n zeroV W)) :
    Calls Tryz.prog 19 #[.string s] w fun e w' => e = .returned (.tuple #[.agg #[.int .i64 0, .int .i64 0, .int .u64 0, .string ⟨#[]⟩], .int .i64 n]) ∧ Below w.heap.size w w' := by
  have HC := Lib.hid hC
  clear hC
  go_enter Tryz.func19, Tryz.ntmps19
  go_wp2_with (go_at_call 48; refine (Of_any _ _ _).mono ?_; rintro e w' ⟨rfl, rfl⟩)
  refine (HC.out _).mono ?_
  rintro e w1 ⟨b, rfl, hcb, hb1⟩
  obtain ⟨hc, hf, hsz⟩ := box_after hb1
  have c0 : w1.cell? ⟨w.heap.size, 0, none⟩ = some (.int .i64 0) := hc 0
  have c1 : w1.cell? ⟨w.heap.size, 1, none⟩ = some (.int .i64 0) := hc 1
  have c2 : w1.cell? ⟨w.heap.size, 2, none⟩ = some (.int .u64 0) := hc 2
  have c3 : w1.cell? ⟨w.heap.size, 3, none⟩ = some (.string ⟨#[]⟩) := hc 3
  have f0 := hf 0
  have f1 := hf 1
  have f2 := hf 2
  have f3 := hf 3
  have hbw := below_box hb1
  have hgg : HasET (w1.alloc (.cells #[.int .i64 0, .int .i64 0, .int .u64 0, .string ⟨#[]⟩] 25)).drew := (hg.below hbw hg.lt).below ((Below.refl _ w1).alloc (Nat.le_refl _) _).drew (hg.below hbw hg.lt).lt
  have hcbb : (w1.alloc (.cells #[.int .i64 0, .int .i64 0, .int .u64 0, .string ⟨#[]⟩] 25)).drew.cell? ⟨b, 1, none⟩ = some (.int .i64 n) := (World.cell?_alloc_lt _ _ _ (cell_lt hcb)).trans hcb
  have HG := Lib.hid hgg
  have HCB := Lib.hid hcbb
  clear hg hgg hcbb hcb
  have HBW := Lib.hid hbw
  clear hc hf hb1 hbw
  unfold zeroV
  go_wp2_with (go_at_call 48; refine (Of_any _ _ _).mono ?_; rintro e w' ⟨rfl, rfl⟩)
  go_region_held3 (fun w' => w'.cell? ⟨w1.heap.size, 0, none⟩ = some (.int .i64 0) ∧ w'.cell? ⟨w1.heap.size, 1, none⟩ = some (.int .i64 0) ∧ w'.cell? ⟨w1.heap.size, 2, none⟩ = some (.int .u64 0) ∧ w'.cell? ⟨w1.heap.size, 3, none⟩ = some (.string ⟨#[]⟩)) (first | (go_keep; done) | (simp [*, go_sem]; done) | (refine ⟨?_, ?_, ?_, ?_⟩ <;> (rw [hb3.cell (by simp)]; simp [go_sem]; done)) | (refine ⟨?_, ?_, ?_, ?_⟩ <;> (simp [go_sem, Nat.ne_of_gt hsz]; rw [hb3.cell (by simp)]; simp [go_sem]; done)))
    (first | (go_at_call 48; refine (Of_any _ _ _).mono ?_; rintro e w' ⟨rfl, rfl⟩) | (go_at_call 28; refine (errno_err b n _ ?_ ?_).mono ?_; exact HG.out; exact HCB.out; rintro e w3 ⟨rfl, hb3⟩; have d0 : w3.cell? ⟨w.heap.size, 0, none⟩ = some (.int .i64 0) := (hb3.cell (p := ⟨w.heap.size, 0, none⟩) (by simp; omega)).trans ((World.cell?_alloc_lt _ _ _ hsz).trans c0); have d1 : w3.cell? ⟨w.heap.size, 1, none⟩ = some (.int .i64 0) := (hb3.cell (p := ⟨w.heap.size, 1, none⟩) (by simp; omega)).trans ((World.cell?_alloc_lt _ _ _ hsz).trans c1); have d2 : w3.cell? ⟨w.heap.size, 2, none⟩ = some (.int .u64 0) := (hb3.cell (p := ⟨w.heap.size, 2, none⟩) (by simp; omega)).trans ((World.cell?_alloc_lt _ _ _ hsz).trans c2); have d3 : w3.cell? ⟨w.heap.size, 3, none⟩ = some (.string ⟨#[]⟩) := (hb3.cell (p := ⟨w.heap.size, 3, none⟩) (by simp; omega)).trans ((World.cell?_alloc_lt _ _ _ hsz).trans c3); have g0 : w3.frozen? ⟨w.heap.size, 0, none⟩ = false := (hb3.frozen (p := ⟨w.heap.size, 0, none⟩) (by simp; omega)).trans ((World.frozen?_alloc_old _ _ _ (Nat.ne_of_lt hsz)).trans f0); have g1 : w3.frozen? ⟨w.heap.size, 1, none⟩ = false := (hb3.frozen (p := ⟨w.heap.size, 1, none⟩) (by simp; omega)).trans ((World.frozen?_alloc_old _ _ _ (Nat.ne_of_lt hsz)).trans f1); have g2 : w3.frozen? ⟨w.heap.size, 2, none⟩ = false := (hb3.frozen (p := ⟨w.heap.size, 2, none⟩) (by simp; omega)).trans ((World.frozen?_alloc_old _ _ _ (Nat.ne_of_lt hsz)).trans f2); have g3 : w3.frozen? ⟨w.heap.size, 3, none⟩ = false := (hb3.frozen (p := ⟨w.heap.size, 3, none⟩) (by simp; omega)).trans ((World.frozen?_alloc_old _ _ _ (Nat.ne_of_lt hsz)).trans f3); have hb4 := hb3.mono (show w1.heap.size ≤ _ by simp)))
  all_goals go_wp2_with (go_at_call 48; refine (Of_any _ _ _).mono ?_; rintro e w' ⟨rfl, rfl⟩)
  all_goals refine bodyPost_ret (v := .tuple #[.agg #[.int .i64 0, .int .i64 0, .int .u64 0, .string ⟨#[]⟩], .int .i64 n]) (by simp [results, Tryz.results19, go_sem, d0, d1, d2, d3]) rfl ⟨rfl, ?_⟩
  all_goals repeat' first | exact ((HBW.out.alloc (Nat.le_of_lt hsz) _).drew).trans (hb4.mono (Nat.le_of_lt hsz)) | (refine Below.setCell ?_ (by simp) _)

set_option maxRecDepth 100000 in
set_option maxHeartbeats 1600000 in
theorem Parse_ok (s : ByteArray) (k i u : Int) (v : ByteArray) (w : World) (hC : ∀ W, Calls Tryz.prog 40 #[.string s] W (fun e w' => e = .returned (.tuple #[.agg #[.int .i64 k, .int .i64 i, .int .u64 u, .string v], .nilIface]) ∧ Below W.heap.size W w')) :
    Calls Tryz.prog 19 #[.string s] w fun e w' => e = .returned (.tuple #[.agg #[.int .i64 k, .int .i64 i, .int .u64 u, .string v], .int .i64 0]) ∧ Below w.heap.size w w' := by
  have HC := Lib.hid hC
  clear hC
  go_enter Tryz.func19, Tryz.ntmps19
  go_wp2_with (go_at_call 48; refine (Of_any _ _ _).mono ?_; rintro e w' ⟨rfl, rfl⟩)
  refine (HC.out _).mono ?_
  rintro e w1 ⟨rfl, hb1⟩
  obtain ⟨hc, hf, hsz⟩ := box_after hb1
  have c0 : w1.cell? ⟨w.heap.size, 0, none⟩ = some (.int .i64 0) := hc 0
  have c1 : w1.cell? ⟨w.heap.size, 1, none⟩ = some (.int .i64 0) := hc 1
  have c2 : w1.cell? ⟨w.heap.size, 2, none⟩ = some (.int .u64 0) := hc 2
  have c3 : w1.cell? ⟨w.heap.size, 3, none⟩ = some (.string ⟨#[]⟩) := hc 3
  have f0 := hf 0
  have f1 := hf 1
  have f2 := hf 2
  have f3 := hf 3
  have hbw := below_box hb1
  have HBW := Lib.hid hbw
  clear hc hf hb1 hbw
  go_wp2_with (go_at_call 48; refine (Of_any _ _ _).mono ?_; rintro e w' ⟨rfl, rfl⟩)
  go_region_held3 (fun w' => w'.cell? ⟨w1.heap.size, 0, none⟩ = some (.int .i64 k) ∧ w'.cell? ⟨w1.heap.size, 1, none⟩ = some (.int .i64 i) ∧ w'.cell? ⟨w1.heap.size, 2, none⟩ = some (.int .u64 u) ∧ w'.cell? ⟨w1.heap.size, 3, none⟩ = some (.string v)) (first | (go_keep; done) | (simp [*, go_sem]; done) | (refine ⟨?_, ?_, ?_, ?_⟩ <;> (rw [hb3.cell (by simp)]; simp [go_sem]; done)) | (refine ⟨?_, ?_, ?_, ?_⟩ <;> (simp [go_sem, Nat.ne_of_gt hsz]; rw [hb3.cell (by simp)]; simp [go_sem]; done)))
    (first | (go_at_call 48; refine (Of_any _ _ _).mono ?_; rintro e w' ⟨rfl, rfl⟩) | (go_at_call 28; refine (errno_nil _).mono ?_; rintro e w3 ⟨rfl, hb3⟩; have d0 : w3.cell? ⟨w.heap.size, 0, none⟩ = some (.int .i64 0) := (hb3.cell (p := ⟨w.heap.size, 0, none⟩) (by simp; omega)).trans ((World.cell?_alloc_lt _ _ _ hsz).trans c0); have d1 : w3.cell? ⟨w.heap.size, 1, none⟩ = some (.int .i64 0) := (hb3.cell (p := ⟨w.heap.size, 1, none⟩) (by simp; omega)).trans ((World.cell?_alloc_lt _ _ _ hsz).trans c1); have d2 : w3.cell? ⟨w.heap.size, 2, none⟩ = some (.int .u64 0) := (hb3.cell (p := ⟨w.heap.size, 2, none⟩) (by simp; omega)).trans ((World.cell?_alloc_lt _ _ _ hsz).trans c2); have d3 : w3.cell? ⟨w.heap.size, 3, none⟩ = some (.string ⟨#[]⟩) := (hb3.cell (p := ⟨w.heap.size, 3, none⟩) (by simp; omega)).trans ((World.cell?_alloc_lt _ _ _ hsz).trans c3); have g0 : w3.frozen? ⟨w.heap.size, 0, none⟩ = false := (hb3.frozen (p := ⟨w.heap.size, 0, none⟩) (by simp; omega)).trans ((World.frozen?_alloc_old _ _ _ (Nat.ne_of_lt hsz)).trans f0); have g1 : w3.frozen? ⟨w.heap.size, 1, none⟩ = false := (hb3.frozen (p := ⟨w.heap.size, 1, none⟩) (by simp; omega)).trans ((World.frozen?_alloc_old _ _ _ (Nat.ne_of_lt hsz)).trans f1); have g2 : w3.frozen? ⟨w.heap.size, 2, none⟩ = false := (hb3.frozen (p := ⟨w.heap.size, 2, none⟩) (by simp; omega)).trans ((World.frozen?_alloc_old _ _ _ (Nat.ne_of_lt hsz)).trans f2); have g3 : w3.frozen? ⟨w.heap.size, 3, none⟩ = false := (hb3.frozen (p := ⟨w.heap.size, 3, none⟩) (by simp; omega)).trans ((World.frozen?_alloc_old _ _ _ (Nat.ne_of_lt hsz)).trans f3); have hb4 := hb3.mono (show w1.heap.size ≤ _ by simp)))
  all_goals go_wp2_with (go_at_call 48; refine (Of_any _ _ _).mono ?_; rintro e w' ⟨rfl, rfl⟩)
  all_goals refine bodyPost_ret (v := .tuple #[.agg #[.int .i64 k, .int .i64 i, .int .u64 u, .string v], .int .i64 0]) (by simp [results, Tryz.results19, go_sem, d0, d1, d2, d3]) rfl ⟨rfl, ?_⟩
  all_goals repeat' first | exact ((HBW.out.alloc (Nat.le_of_lt hsz) _).drew).trans (hb4.mono (Nat.le_of_lt hsz)) | (refine Below.setCell ?_ (by simp) _)

theorem Parse_any (s : ByteArray) (w : World) (hz : s.size ≤ 800) (hg : HasET w) :
    Calls Tryz.prog 19 #[.string s] w fun e w' => e = .returned (parseRes s.data.toList) ∧ Below w.heap.size w w' := by
  have hC := fun W => parse_any s W hz
  unfold ParsePost at hC
  unfold parseRes
  generalize readOf s.data.toList = r at *
  cases hok : r.ok
  · simp only [hok, if_true] at hC ⊢
    exact Parse_err s 110 w hg hC
  · by_cases hc : chk r.k r.i r.u r.v = 0
    · simp only [hok, Bool.true_eq_false, if_false, hc, if_true] at hC ⊢
      exact Parse_ok s _ _ _ _ w hC
    · simp only [hok, Bool.true_eq_false, if_false, hc] at hC ⊢
      exact Parse_err s _ w hg hC
end Go.Proofs.YtifmfcaaofiboaaGreatDoor
