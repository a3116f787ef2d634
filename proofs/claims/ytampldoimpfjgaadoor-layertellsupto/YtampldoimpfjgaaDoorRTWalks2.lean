/-
  What the document's own answer traceref1.WrongEntry answers.
-/
import Derived.Test.YtampldoimpfjgaaDoorRTWalks1
namespace Go.Proofs.YtampldoimpfjgaaDoor
open Go.RowKit PM Go.Sort
set_option linter.unusedVariables false

set_option maxHeartbeats 4000000 in
theorem refWrongEntry_any (e : Ent) (layer : Bool) (w : World) (he : e.path.size ≤ 4294967296) (ht : e.text.size ≤ maxLen) :
    Calls Tryd.prog 57 #[.agg #[.string e.path, .int .i64 e.kind, .string e.text, .bool e.opq], .bool layer] w fun r w' => r = .returned (.int .i64 (wrongE e layer)) ∧ Below w.heap.size w w' := by
  obtain ⟨p, k, t, o⟩ := e
  have hcl' := fun W => refClean_any p W he
  have hB1 : Below (w.heap.size + 1) (w.alloc (.cells #[.string p, .int .i64 k, .string t, .bool o] 38)) (w.alloc (.cells #[.string p, .int .i64 k, .string t, .bool o] 38)) := Below.refl _ _
  unfold maxLen at ht
  have hways := ways ⟨p, k, t, o⟩ layer
  unfold Ways at hways
  generalize wrongE ⟨p, k, t, o⟩ layer = r at hways ⊢
  simp only [Ent.p] at hways
  generalize clean p.data.toList = cl at hways hcl'
  show Calls Tryd.prog 57 #[.agg #[.string p, .int .i64 k, .string t, .bool o], .bool layer] w _
  rcases hways with ⟨hr, ⟨k1, k2, k3, k4, hl | hl⟩ | ⟨hk, hl⟩⟩ | ⟨hk | hk | hk | ⟨hk, hl⟩, ⟨hr, hc⟩ | ⟨hr, hc, hs⟩ | ⟨hc, hs, ⟨hr, h0, hkk⟩ | ⟨hr, h0, hkk⟩ | ⟨⟨h0, hkk⟩ | ⟨h0, hkk⟩, ⟨hr, ho⟩ | ⟨hr, ho, hl'⟩ | ⟨hr, ho, hl', hk2⟩ | ⟨hr, ho, hl', hk2⟩⟩⟩⟩
  all_goals try (exfalso; omega)
  all_goals (try subst hk)
  all_goals (try subst hl)
  all_goals try contradiction
  all_goals (try subst hl')
  all_goals (try subst ho)
  all_goals (try subst hc)
  all_goals (try clear hkk)
  all_goals (try clear hk2)
  all_goals try have h0' := nil_of h0
  all_goals try have h0' := not_nil_of h0
  all_goals have HR : Aside (_ = _) := hr
  all_goals clear hr
  all_goals try (
    have kk : k < 1 ∨ 4 < k := by
      have g1 := beq_eq_false_iff_ne.1 k1
      have g2 := beq_eq_false_iff_ne.1 k2
      have g3 := beq_eq_false_iff_ne.1 k3
      have g4 := beq_eq_false_iff_ne.1 k4
      omega
    clear k1 k2 k3 k4
    rcases kk with kk | kk)
  all_goals
    go_enter Tryd.func57, Tryd.ntmps57
    go_wp2_with (go_at_call 17; refine (hcl' _).mono ?_; rintro rr w3 ⟨rfl, hN⟩; replace hB1 := up1 hB1 hN; clear hN; obtain ⟨⟨c0, c1, c2, c3⟩, _⟩ := new4 (Nat.lt_succ_self _) hB1)
    go_ret
    exact ⟨ret_int HR.out.symm, base1 hB1⟩
end Go.Proofs.YtampldoimpfjgaaDoor
