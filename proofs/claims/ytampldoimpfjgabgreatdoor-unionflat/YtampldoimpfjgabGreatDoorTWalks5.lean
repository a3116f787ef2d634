/-
  What tree.wrongEntry, tree.wrongPlace, tree.firstFault and tree.Wrong answer.
-/
import Derived.Test.YtampldoimpfjgabGreatDoorTWalks4
namespace Go.Proofs.YtampldoimpfjgabGreatDoor
open Go.RowKit PM Go.Sort
set_option linter.unusedVariables false

theorem nil_of {b : ByteArray} (h : b.toList.isEmpty = true) : b.toList = [] := by simpa using h
theorem not_nil_of {b : ByteArray} (h : b.toList.isEmpty = false) : ¬ b.toList = [] := by simpa using h
set_option maxHeartbeats 4000000 in
theorem wrongEntry_cells (p : ByteArray) (k : Int) (t : ByteArray) (o : Bool) (layer : Bool) (m : Int) (w : World) (he : p.size ≤ maxLen) (ht : t.size ≤ maxLen) (hm : w.cell? ⟨0, 0, none⟩ = some (.int .i64 m)) :
    Calls Tryz.prog 39 #[.agg #[.string p, .int .i64 k, .string t, .bool o], .bool layer] w fun r w' => r = .returned (.int .i64 (wrongE ⟨p, k, t, o⟩ layer)) ∧ Below w.heap.size w w' := by
  have hcl' := fun W (hB : Below w.heap.size w W) => clean_any p m W he (held hB hm)
  have hB1 : Below (w.heap.size + 1) (w.alloc (.cells #[.string p, .int .i64 k, .string t, .bool o] 28)) (w.alloc (.cells #[.string p, .int .i64 k, .string t, .bool o] 28)) := Below.refl _ _
  unfold maxLen at ht
  have hways := ways ⟨p, k, t, o⟩ layer
  unfold Ways at hways
  generalize wrongE ⟨p, k, t, o⟩ layer = r at hways ⊢
  simp only [Ent.p] at hways
  generalize clean p.data.toList = cl at hways hcl'
  rcases hways with ⟨hr, ⟨k1, k2, k3, k4, hl | hl⟩ | ⟨hk, hl⟩⟩ | ⟨hk | hk | hk | ⟨hk, hl⟩, ⟨hr, hc⟩ | ⟨hr, hc, hs⟩ | ⟨hc, hs, ⟨hr, h0, hkk⟩ | ⟨hr, h0, hkk⟩ | ⟨⟨h0, hkk⟩ | ⟨h0, hkk⟩, ⟨hr, ho⟩ | ⟨hr, ho, hl'⟩ | ⟨hr, ho, hl', hk2⟩ | ⟨hr, ho, hl', hk2⟩⟩⟩⟩
  all_goals try (exfalso; omega)
  all_goals (try subst hk)
  all_goals (try subst hl)
  all_goals try contradiction
  all_goals (try subst hl')
  all_goals (try subst ho)
  all_goals (try subst hc)
  all_goals (try clear hkk)
  all_goals (try clear hk2)
  all_goals try have h0' := nil_of h0
  all_goals try have h0' := not_nil_of h0
  all_goals have HR : Aside (_ = _) := hr
  all_goals clear hr
  all_goals
    go_enter Tryz.func39, Tryz.ntmps39
    go_wp2_with (first
      | (go_at_call 42; refine (isDir_cells _ _ _ _ _).mono ?_; rintro rr w2 ⟨rfl, hG⟩; replace hB1 := up1 hB1 hG.below; clear hG; obtain ⟨⟨c0, c1, c2, c3⟩, _⟩ := new4 (Nat.lt_succ_self _) hB1)
      | (go_at_call 53; refine (hcl' _ (base1 hB1)).mono ?_; rintro rr w3 ⟨rfl, hN⟩; replace hB1 := up1 hB1 hN; clear hN; obtain ⟨⟨c0, c1, c2, c3⟩, _⟩ := new4 (Nat.lt_succ_self _) hB1))
    go_ret
    exact ⟨ret_int HR.out.symm, base1 hB1⟩
theorem wrongEntry_any (e : Ent) (layer : Bool) (m : Int) (w : World) (he : e.path.size ≤ maxLen) (ht : e.text.size ≤ maxLen) (hm : w.cell? ⟨0, 0, none⟩ = some (.int .i64 m)) :
    Calls Tryz.prog 39 #[.agg #[.string e.path, .int .i64 e.kind, .string e.text, .bool e.opq], .bool layer] w fun r w' => r = .returned (.int .i64 (wrongE e layer)) ∧ Below w.heap.size w w' := wrongEntry_cells e.path e.kind e.text e.opq layer m w he ht hm
end Go.Proofs.YtampldoimpfjgabGreatDoor
