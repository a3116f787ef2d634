/-
  The walk of the statement TreeBack: it answers true, and writes nothing that was there.
-/
import Derived.Test.YtampldoimpfjgaaDoorTAlive2
namespace Go.Proofs.YtampldoimpfjgaaDoor
open Go.RowKit PM Go.Sort
set_option linter.unusedVariables false

theorem put_ok {t : List Ent} {e : Ent} (h : putErr t e = 0) : Right false t ∧ wrongE e false = 0 ∧ Right false (putL t e) := by
  have ha : putAsk t e = 0 := by
    by_cases ha : putAsk t e = 0
    · exact ha
    · rw [putErr_asked ha] at h; exact absurd h ha
  obtain ⟨h1, h2, h3⟩ := putAsk_zero ha
  refine ⟨h1, h2, h1.put h2 h3 (fun x hx hp => ?_) (fun hn => ?_)⟩
  · rw [putErr_there ha hx hp] at h
    split at h
    · rename_i hk
      rw [Bool.eq_iff_iff] at hk
      simpa using hk
    · cases h
  · rw [putErr_not ha hn] at h
    split at h
    · cases h
    · have := h1.len; omega
theorem rem_ok {t : List Ent} {q : List UInt8} (hr : Right false t) (he : ∃ x ∈ t, x.p = q) (hf : ∀ x ∈ t, under x.p q = false) : remErr t q = 0 := by
  unfold remErr
  rw [faultL_right hr, missL, if_pos he, fullL, if_neg]
  · rfl
  · intro h
    obtain ⟨x, hx, hu⟩ := List.any_eq_true.1 h
    rw [hf x hx] at hu; cases hu
theorem back_math {t : List Ent} {e : Ent} (h : putErr t e = 0) (hg : getL t e.p = none) : remErr (putL t e) e.p = 0 ∧ remL (putL t e) e.p = t := by
  obtain ⟨h1, h2, h3⟩ := put_ok h
  have hne : e.p ≠ [] := clean_ne (wrongE_clean h2)
  have hno := (getL_none hg).2
  refine ⟨rem_ok h3 ⟨e, mem_putL.2 (.inl rfl), rfl⟩ fun x hx => ?_, put_rem h1.sorted hno⟩
  rcases mem_putL.1 hx with rfl | ⟨hx, _⟩
  · exact under_self _ hne
  · cases hu : under x.p e.p with
    | false => rfl
    | true =>
      obtain ⟨d, hd, hdp, _⟩ := h1.below hne x.p.length (Nat.le_refl _) hx hu
      exact absurd hdp (hno d hd)
theorem fits_put {t : List Ent} {e : Ent} (hF : Fits t) (he : e.path.size ≤ maxLen) (ht : e.text.size ≤ maxLen) : Fits (putL t e) := fun x hx => by
  rcases mem_putL.1 hx with rfl | ⟨hx, _⟩
  · exact ⟨he, ht⟩
  · exact hF x hx

set_option maxHeartbeats 4000000 in
set_option maxRecDepth 100000 in
theorem back_walk (t : List Ent) (e : Ent) (m : Int) (p : Option Addr) (cap : Nat) (w : World) (hL : Lies w p t) (hF : Fits t) (hn : t.length < 4611686018427387904) (hcap : t.length ≤ cap) (hnil : p = none → cap = 0)
    (he : e.path.size ≤ maxLen) (he62 : e.path.size < 4611686018427387904) (het : e.text.size ≤ maxLen) (hm : w.cell? ⟨0, 0, none⟩ = some (.int .i64 m)) :
    Calls Tryd.prog 8 #[.slice p t.length cap, .agg #[.string e.path, .int .i64 e.kind, .string e.text, .bool e.opq]] w fun r w' => r = .returned (.bool true) ∧ Below w.heap.size w w' := by
  have hal := fun W (hB : Below w.heap.size w W) => treeAlive_any m W (held hB hm)
  have hge := fun W (hB : Below w.heap.size w W) => get_any t e.path p cap W (hL.kept hB) hF hn he
  have hpu := fun W (hB : Below w.heap.size w W) => put_any t e m p cap W (hL.kept hB) hF hn hcap hnil he he62 het (held hB hm)
  have hB1 : Below (w.heap.size + 1) (w.alloc (.cells #[.string e.path, .int .i64 e.kind, .string e.text, .bool e.opq] 38)) (w.alloc (.cells #[.string e.path, .int .i64 e.kind, .string e.text, .bool e.opq] 38)) := Below.refl _ _
  by_cases h0 : putErr t e = 0
  · obtain ⟨hr1, hr2, hr3⟩ := put_ok h0
    have hrm := fun W (hB : Below w.heap.size w W) (p' : Option Addr) (c' : Nat) (hL' : Lies W p' (putL t e)) (hc' : (putL t e).length ≤ c') (hn' : p' = none → c' = 0) => remove_any (putL t e) e.path m p' c' W hL' (fits_put hF he het) (by have := hr3.len; omega) hc' hn' he (held hB hm)
    have hsa := fun W (hB : Below w.heap.size w W) (p' : Option Addr) (c' : Nat) (hL' : Lies W p' t) => same_any t p p' cap c' W (hL.kept hB) hL' hn
    have HM : Aside (getL t e.p = none → remErr (putL t e) e.p = 0 ∧ remL (putL t e) e.p = t) := back_math h0
    have HS : Aside (Sorted t) := hr1.sorted
    simp only [h0, if_true] at hpu
    rw [show e.path.data.toList = e.p from rfl] at hge
    simp only [show e.path.data.toList = e.p from rfl] at hrm
    obtain ⟨n, hnl⟩ : ∃ n, n = t.length := ⟨_, rfl⟩
    have HN : Aside (n = t.length) := hnl
    obtain ⟨lp, hlp⟩ : ∃ lp, lp = putL t e := ⟨_, rfl⟩
    rw [← hnl] at hge hpu hsa ⊢
    rw [← hlp] at hpu hrm HM
    clear hnl hlp hL hF hn hcap hr1 hr2 hr3
    unfold TreePost at hpu hrm
    generalize hlpl : lp.length = npl at hpu hrm
    clear hlpl
    go_enter Tryd.func8, Tryd.ntmps8
    go_wp2_with (first
      | (go_at_call 42; refine (hal _ (base1 hB1)).mono ?_; clear hal; rintro rr w1 ⟨rfl, hN⟩; replace hB1 := up1 hB1 hN; clear hN; obtain ⟨⟨c0, c1, c2, c3⟩, _⟩ := new4 (Nat.lt_succ_self _) hB1)
      | (go_at_call 31; refine (hge _ (base1 hB1)).mono ?_; clear hge; rintro rr w2 ⟨x, b, rfl, hg, hz, hx, hN⟩; have HG : Aside (getL t e.p = if b then some x else none) := hg HS.out; clear hg hz hx; replace hB1 := up1 hB1 hN; clear hN; replace hB1 := Below.alloc hB1 (by have := hB1.size; simpa using this) (.cells #[.string x.path, .int .i64 x.kind, .string x.text, .bool x.opq] 38); obtain ⟨⟨d0, d1, d2, d3⟩, _⟩ := new4 (Nat.lt_succ_self _) hB1)
      | (go_at_call 35; refine (hpu _ (base1 hB1)).mono ?_; clear hpu; rintro rr w3 ⟨p', c', rfl, hl', hc', hn', hN⟩; replace hB1 := up1 hB1 hN; clear hN; obtain ⟨⟨e0, e1, e2, e3⟩, _⟩ := new4 (Nat.lt_succ_self _) hB1; cases b))
    · obtain ⟨hm1, hm2⟩ := HM.out HG.out
      have hrm' := hrm _ (base1 hB1) p' c' hl' hc' hn'
      simp only [hm1, hm2, if_true] at hrm'
      rw [← HN.out] at hrm'
      clear hrm hm1 hm2
      refine hrm'.mono ?_
      clear hrm'
      rintro rr w4 ⟨p4, c4, rfl, hl4, hc4, hn4, hN⟩
      replace hB1 := up1 hB1 hN
      clear hN
      have hsa' := hsa _ (base1 hB1) p4 c4 hl4
      clear hsa
      go_wp2_with (go_at_call 37; refine hsa'.mono ?_; clear hsa'; rintro rr w5 ⟨rfl, hN⟩; replace hB1 := up1 hB1 hN; clear hN)
      go_ret
      exact ⟨rfl, base1 hB1⟩
    · go_ret
      exact ⟨rfl, base1 hB1⟩
  · unfold TreePost at hpu
    generalize hll : (if putErr t e = 0 then putL t e else []) = ll at hpu
    generalize ll.length = nll at hpu
    obtain ⟨n, hnl⟩ : ∃ n, n = t.length := ⟨_, rfl⟩
    rw [← hnl] at hge hpu ⊢
    generalize putErr t e = er at h0 hpu
    clear hnl hll hL hF hn hcap
    go_enter Tryd.func8, Tryd.ntmps8
    go_wp2_with (first
      | (go_at_call 42; refine (hal _ (base1 hB1)).mono ?_; clear hal; rintro rr w1 ⟨rfl, hN⟩; replace hB1 := up1 hB1 hN; clear hN; obtain ⟨⟨c0, c1, c2, c3⟩, _⟩ := new4 (Nat.lt_succ_self _) hB1)
      | (go_at_call 31; refine (hge _ (base1 hB1)).mono ?_; clear hge; rintro rr w2 ⟨x, b, rfl, hg, hz, hx, hN⟩; clear hg hz hx; replace hB1 := up1 hB1 hN; clear hN; replace hB1 := Below.alloc hB1 (by have := hB1.size; simpa using this) (.cells #[.string x.path, .int .i64 x.kind, .string x.text, .bool x.opq] 38); obtain ⟨⟨d0, d1, d2, d3⟩, _⟩ := new4 (Nat.lt_succ_self _) hB1)
      | (go_at_call 35; refine (hpu _ (base1 hB1)).mono ?_; clear hpu; rintro rr w3 ⟨p', c', rfl, hl', hc', hn', hN⟩; replace hB1 := up1 hB1 hN; clear hN; cases b))
    all_goals go_ret
    all_goals exact ⟨rfl, base1 hB1⟩
end Go.Proofs.YtampldoimpfjgaaDoor
