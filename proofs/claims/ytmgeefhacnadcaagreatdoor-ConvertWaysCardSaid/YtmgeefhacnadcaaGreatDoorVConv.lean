/-
  (convert.ways).convert and convert.Convert: 'cvO'.
-/
import Derived.Test.YtmgeefhacnadcaaGreatDoorVTurns
import Derived.Test.YtmgeefhacnadcaaGreatDoorVBets
import Derived.Test.YtmgeefhacnadcaaGreatDoorVCc
import Derived.Test.YtmgeefhacnadcaaGreatDoorVWc
namespace Go.Proofs.YtmgeefhacnadcaaGreatDoor
open Go.RowKit

/-- a value and no error; or none, and an error that wraps the number -/
def CvPost (p : Int × Vl) (w : World) (e : Ending) (w' : World) : Prop :=
  (p.1 = 0 ∧ e = .returned (.tuple #[.agg #[.int .i64 p.2.k, .int .i64 p.2.i, .int .u64 p.2.u, .string p.2.s], .nilIface]) ∧ Below w.heap.size w w') ∨
  (p.1 ≠ 0 ∧ p.2 = v0N ∧ ∃ b, e = .returned (.tuple #[.agg #[.int .i64 0, .int .i64 0, .int .u64 0, .string ⟨#[]⟩], .iface 147 (.pointer (some ⟨b, 0, none⟩))]) ∧ w.heap.size ≤ b ∧ w'.cell? ⟨b, 1, none⟩ = some (.int .i64 p.1) ∧ Below w.heap.size w w')
theorem ways_in {a b : Int} (ha : a = 1 ∨ a = 2 ∨ a = 3 ∨ a = 4) (hb : b = 1 ∨ b = 2 ∨ b = 3 ∨ b = 4) (h : wayB a b = true) : ∃ f g, (a, b, f, g) ∈ waysL := by
  rcases ha with rfl | rfl | rfl | rfl <;> rcases hb with rfl | rfl | rfl | rfl <;> first | (cases h; done) | exact ⟨_, _, by simp only [waysL, List.mem_cons, Prod.mk.injEq]; simp; exact ⟨rfl, rfl⟩⟩
theorem ways_out {a b : Int} (h : wayB a b = false) : ∀ x ∈ waysL, ¬ (a = x.1 ∧ b = x.2.1) := by
  intro x hx hab
  have key : ∀ x ∈ waysL, wayB x.1 x.2.1 = true := by decide +kernel
  have := key x hx
  rw [← hab.1, ← hab.2, h] at this
  cases this
theorem fits_ok {c : Col} (v : Vl) (h : colOk c = true) : fitsN c v = fitN c v := by unfold fitsN; rw [if_pos h]
theorem wconvert_any (c d : Col) (v : Vl) (r : Nat) (es : Array MapEntry) (cl : Nat) (w : World) (hE : Env w) (hm : w.heap[r]? = some (.map es cl)) (hw : IsWays es) (n1 : c.n.size ≤ 9223372036854775807) (n2 : d.n.size ≤ 9223372036854775807) (hv : v.ok) :
    Calls Tryz.prog 27 #[.map (some r), .agg #[.string c.n, .int .i64 c.t, .int .i64 c.z, .bool c.u], .agg #[.string d.n, .int .i64 d.t, .int .i64 d.z, .bool d.u], .agg #[.int .i64 v.k, .int .i64 v.i, .int .u64 v.u, .string v.s]] w (CvPost (cvO c d v) w) := by
  have hEE : ∀ W, Below w.heap.size w W → Env W := fun W hb => hE.keep hb
  have hMM : ∀ W, Below w.heap.size w W → W.heap[r]? = some (.map es cl) := fun W hb => heap_keep hm hb
  have bad : ∀ n : Int, n ≠ 0 → cvO c d v = (n, v0N) → (∀ e w', (∃ b, e = .returned (.tuple #[.agg #[.int .i64 0, .int .i64 0, .int .u64 0, .string ⟨#[]⟩], .iface 147 (.pointer (some ⟨b, 0, none⟩))]) ∧ w.heap.size ≤ b ∧ w'.cell? ⟨b, 1, none⟩ = some (.int .i64 n) ∧ Below w.heap.size w w') → CvPost (cvO c d v) w e w') := fun n h0 h e w' hp => .inr ⟨by rw [h]; exact h0, by rw [h], by rw [h]; exact hp⟩
  have good : ∀ x : Vl, cvO c d v = (0, x) → (∀ e w', (e = .returned (.tuple #[.agg #[.int .i64 x.k, .int .i64 x.i, .int .u64 x.u, .string x.s], .nilIface]) ∧ Below w.heap.size w w') → CvPost (cvO c d v) w e w') := fun x h e w' hp => .inl ⟨by rw [h], by rw [h]; exact hp.1, hp.2⟩
  cases h1 : colOk c
  · exact (wconv_bad c d v r w 2 (fun W hb => between_bad1 c d r W (hEE W hb) n1 h1)).mono (bad 2 (by omega) (by unfold cvO; rw [if_pos (.inl h1)]))
  cases h2 : colOk d
  · exact (wconv_bad c d v r w 2 (fun W hb => between_bad2 c d r W (hEE W hb) n1 n2 h1 h2)).mono (bad 2 (by omega) (by unfold cvO; rw [if_pos (.inr h2)]))
  have hc0 : ¬ (colOk c = false ∨ colOk d = false) := by rw [h1, h2]; simp
  have e1 := fits_ok v h1
  cases hwy : wayB c.t d.t
  · have hB : ∀ W, Below w.heap.size w W → _ := fun W hb => between_ok_none c d r W (hEE W hb) n1 n2 h1 h2 es cl (hMM W hb) (fun W' hm' => ways_none (ways_out hwy) hm' hw)
    by_cases hf : fitN c v = 0
    · exact (wconv_errB c d v r w hB 160 (fun W hb => cconv_noway c d v W (hEE W hb) n1 (by rw [e1]; exact hf))).mono (bad 160 (by omega) (by unfold cvO; rw [if_neg hc0, if_neg (by rw [hf]; simp), if_pos hwy]))
    · exact (wconv_errB c d v r w hB (fitN c v) (fun W hb => cconv_unfitA c d v W (hEE W hb) n1 _ e1 hf)).mono (bad _ hf (by unfold cvO; rw [if_neg hc0, if_pos hf]))
  · obtain ⟨f, g, hx⟩ := ways_in (col_types h1) (col_types h2) hwy
    have hB : ∀ W, Below w.heap.size w W → _ := fun W hb => between_ok_found c d r W (hEE W hb) n1 n2 h1 h2 f g es cl (hMM W hb) (fun W' hm' => ways_found hx hm' hw)
    have hwn : ¬ wayB c.t d.t = false := by rw [hwy]; simp
    by_cases hf : fitN c v = 0
    · have hf' : fitsN c v = 0 := by rw [e1]; exact hf
      have hcv : cvO c d v = if v.k = 0 then (if fitN d v = 0 then ((0 : Int), v) else ((161 : Int), v0N)) else match turnO c.t d.t v with
          | none => ((161 : Int), v0N)
          | some x => if fitN d x = 0 then ((0 : Int), x) else ((161 : Int), v0N) := by
        unfold cvO
        rw [if_neg hc0, if_neg (by rw [hf]; simp), if_neg hwn]
        rfl
      by_cases hk : v.k = 0
      · rw [if_pos hk] at hcv
        have e2 := fits_ok v h2
        by_cases hg : fitN d v = 0
        · rw [if_pos hg] at hcv
          exact (wconv_goodC c d v r w f g hB v (fun W hb => cconv_nullgood c d v W (hEE W hb) n1 n2 f g hf' hk _ e2 hg)).mono (good v hcv)
        · rw [if_neg hg] at hcv
          exact (wconv_errC c d v r w f g hB 161 (fun W hb => cconv_nullbad c d v W (hEE W hb) n1 n2 f g hf' hk _ e2 hg)).mono (bad 161 (by omega) hcv)
      · rw [if_neg hk] at hcv
        have hcf := call_in _ _ f g hx
        rcases turn_any c.t d.t f g hx v (fit_kind hf hk) hv (fit_chk0 hf) w hE with ⟨x, ht, hT⟩ | ⟨ht, x, hT⟩
        · rw [ht] at hcv
          have e2 := fits_ok x h2
          by_cases hg : fitN d x = 0
          · have hcv' : cvO c d v = (0, x) := by rw [hcv]; exact if_pos hg
            exact (wconv_goodC c d v r w f g hB x (fun W hb => cconv_turned c d v W (hEE W hb) n1 n2 f g hf' hk x _ e2 hg hcf (fun W' hb' => hT W' (hb.trans (hb'.mono hb.size))))).mono (good x hcv')
          · have hcv' : cvO c d v = (161, v0N) := by rw [hcv]; exact if_neg hg
            exact (wconv_errC c d v r w f g hB 161 (fun W hb => cconv_unfit2 c d v W (hEE W hb) n1 n2 f g hf' hk x _ e2 hg hcf (fun W' hb' => hT W' (hb.trans (hb'.mono hb.size))))).mono (bad 161 (by omega) hcv')
        · rw [ht] at hcv
          exact (wconv_errC c d v r w f g hB 161 (fun W hb => cconv_turnbad c d v W (hEE W hb) n1 f g hf' hk x hcf (fun W' hb' => hT W' (hb.trans (hb'.mono hb.size))))).mono (bad 161 (by omega) hcv)
    · exact (wconv_errC c d v r w f g hB (fitN c v) (fun W hb => cconv_unfitB c d v W (hEE W hb) n1 f g _ e1 hf)).mono (bad _ hf (by unfold cvO; rw [if_neg hc0, if_pos hf]))
end Go.Proofs.YtmgeefhacnadcaaGreatDoor
