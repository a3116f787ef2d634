/-
  The document's own Runs: bytes as locks.
-/
import Derived.Test.YtampldoimpfjgabRK2
namespace Go.Proofs.Ytampldoimpfjgab
open Go.RowKit Go.Sort KM
set_option linter.unusedVariables false

theorem runs_len {o : Int} {F : Nat → Int} {k e : Nat} {out : List Lk} (h : RunsOf o F k out) (hl : out.length ≤ k) (hke : k < e) : (if 0 < F k then out ++ [⟨o, k, e, decide (F k = 2)⟩] else out).length ≤ e := by
  split
  · simp; omega
  · omega
def RunsPost (F : Nat → Int) (o : Int) (w : World) (e : Ending) (w' : World) : Prop :=
  ∃ v out, e = .returned v ∧ Rows w' w.heap.size v out ∧ RunsOf o F 1000 out ∧ out.length ≤ 1000 ∧ Below w.heap.size w w'
set_option maxRecDepth 100000 in
set_option maxHeartbeats 800000 in
theorem refRuns_any (F : Nat → Int) (g : Nat) (o : Int) (w : World) (hI : Ints w g F) (hF : ∀ k, k < 1001 → F k = 0 ∨ F k = 1 ∨ F k = 2) :
    Calls Try.prog 28 #[.slice (some ⟨g, 0, none⟩) 1001 1001, .int .i64 o] w (RunsPost F o w) := by
  have HI : Aside (Ints w g F) := hI
  have HF : Aside (∀ k, k < 1001 → F k = 0 ∨ F k = 1 ∨ F k = 2) := hF
  have hgl := hI.lt
  clear hI hF
  go_enter Try.func28, Try.ntmps28
  go_wp2
  go_loopg [5, 6] 1001 (fun gg s5 s6 wr => ∃ (k : Nat) (out : List Lk), k ≤ 1000 ∧ 1001 - k ≤ gg ∧ s6 = .int .i64 k ∧ Aside (Rows wr w.heap.size s5 out ∧ RunsOf o F k out ∧ out.length ≤ k ∧ Below w.heap.size w wr ∧ (0 < k → k < 1000 → F (k - 1) ≠ F k)))
  case atStart => exact ⟨0, [], by omega, by omega, rfl, (⟨Rows.nil _ _, runs_nil _ _, by simp, Below.refl _ _, fun h => by omega⟩ : _ ∧ _ ∧ _ ∧ _ ∧ _)⟩
  case round =>
    obtain ⟨k, out, hk, hg, rfl, I⟩ := hrel
    by_cases hlt : k < 1000
    · have hltz : (k : Int) < 1000 := by omega
      have hkz : (k : Int) < 1001 := by omega
      obtain ⟨pv, cv, rfl, _, _, _⟩ := I.out.1.form
      generalize hno : out.length = no at I
      have HNO : Aside (out.length = no) := hno
      clear hno
      have HIr : Aside (Ints wr g F) := HI.out.kept I.out.2.2.2.1
      obtain ⟨W1, rfl⟩ : ∃ W1, W1 = wr := ⟨_, rfl⟩
      go_wp2
      go_loopg [7] 1001 (fun gg s7 wr2 => ∃ e : Nat, k < e ∧ e ≤ 1000 ∧ 1001 - e ≤ gg ∧ s7 = .int .i64 e ∧ Aside (Below W1.heap.size W1 wr2 ∧ ∀ i, k ≤ i → i < e → F i = F k))
      case atStart => exact ⟨k + 1, by omega, by omega, by omega, by go_num, (⟨Below.refl _ _, fun i h1 h2 => by rw [show i = k by omega]⟩ : _ ∧ _)⟩
      case round =>
        obtain ⟨e, he1, he2, hg2, rfl, Q⟩ := hrel
        by_cases he : e < 1000
        · have hez : (e : Int) < 1000 := by omega
          have hez1 : (e : Int) < 1001 := by omega
          obtain ⟨e0, e1⟩ := (HIr.out.kept Q.out.1).cell (show e < 1001 by omega)
          by_cases heq : F e = F k
          · obtain ⟨k0, k1⟩ := (HIr.out.kept Q.out.1).cell (show k < 1001 by omega)
            have HQ : Aside (Below W1.heap.size W1 wr ∧ ∀ i, k ≤ i → i < e + 1 → F i = F k) := ⟨Q.out.1, fun i h1 h2 => by
              by_cases h : i < e
              · exact Q.out.2 i h1 h
              · rw [show i = e by omega]; exact heq⟩
            have hbe : (F e == F k) = true := by rw [heq]; simp
            clear heq
            go_wp2
            go_quiet (fail)
            go_wp2
            go_roundg (1001 - (e + 1))
            case measure => omega
            case rel => exact ⟨e + 1, by omega, by omega, by omega, by go_num, (⟨below_drewN HQ.out.1 _, HQ.out.2⟩ : _ ∧ _)⟩
          · have hbe : (F e == F k) = false := beq_eq_false_iff_ne.2 heq
            have HX2 : Aside (Below W1.heap.size W1 wr) := Q.out.1
            have HI2 : Aside (Ints wr g F) := HIr.out.kept HX2.out
            obtain ⟨k0, k1⟩ := HI2.out.cell (show k < 1001 by omega)
            have HR2 : Aside (Rows wr w.heap.size (.slice pv no cv) out) := I.out.1.below HX2.out
            have hsw : w.heap.size ≤ wr.heap.size := Nat.le_trans I.out.2.2.2.1.size HX2.out.size
            have HST : Aside (RunsOf o F e (if 0 < F k then out ++ [⟨o, k, e, decide (F k = 2)⟩] else out) ∧ (if 0 < F k then out ++ [⟨o, k, e, decide (F k = 2)⟩] else out).length ≤ e) := ⟨runs_step I.out.2.1 he1 Q.out.2 (HF.out k (by omega)) (fun h => I.out.2.2.2.2 h (by omega)), runs_len I.out.2.1 (by rw [HNO.out]; exact I.out.2.2.1) he1⟩
            have HNX : Aside (0 < e → e < 1000 → F (e - 1) ≠ F e) := fun h1 h2 h3 => heq (by rw [← h3]; exact Q.out.2 (e - 1) (by omega) (by omega))
            by_cases hp : 0 < F k
            · go_wp2
              go_quiet (fail)
              go_wp2_with (at_builtin; refine append_row _ ⟨o, k, e, F k == 2⟩ rfl _ _ rfl w.heap.size (.slice pv no cv) out rfl (HR2.out.below (below_drewN (Below.refl _ _) _)) (by have := I.out.2.2.1; have := HNO.out; omega) (by first | exact hsw | (simp; omega)) wr.heap.size rfl rfl ?_)
              intro v' w3 hR3 hB3 _ hsz3
              have HR3 : Aside (Rows w3 w.heap.size v' (out ++ [⟨o, k, e, F k == 2⟩]) ∧ Below w.heap.size w w3) := ⟨hR3, (I.out.2.2.2.1.trans (HX2.out.mono I.out.2.2.2.1.size)).trans ((below_drewN (Below.refl _ _) _).trans hB3)⟩
              clear hR3 hB3 hsz3
              go_wp2
              go_roundg (1001 - e)
              case measure => omega
              case rel =>
                have h := HST.out
                rw [if_pos hp, show decide (F k = 2) = (F k == 2) by rw [Bool.eq_iff_iff]; simp] at h
                exact ⟨e, out ++ [(⟨o, k, e, F k == 2⟩ : Lk)], by omega, by omega, rfl, (⟨HR3.out.1, h.1, h.2, HR3.out.2, HNX.out⟩ : _ ∧ _ ∧ _ ∧ _ ∧ _)⟩
            · go_wp2
              go_quiet (fail)
              go_wp2
              go_roundg (1001 - e)
              case measure => omega
              case rel =>
                have h := HST.out
                rw [if_neg (by omega)] at h
                exact ⟨e, out, by omega, by omega, rfl, (⟨HR2.out.below (below_drewN (Below.refl _ _) _), h.1, h.2, (I.out.2.2.2.1.trans (HX2.out.mono I.out.2.2.2.1.size)).trans (below_drewN (Below.refl _ _) _), HNX.out⟩ : _ ∧ _ ∧ _ ∧ _ ∧ _)⟩
        · obtain rfl : e = 1000 := by omega
          clear he hg2 he2
          have HX2 : Aside (Below W1.heap.size W1 wr) := Q.out.1
          have HI2 : Aside (Ints wr g F) := HIr.out.kept HX2.out
          obtain ⟨k0, k1⟩ := HI2.out.cell (show k < 1001 by omega)
          have HR2 : Aside (Rows wr w.heap.size (.slice pv no cv) out) := I.out.1.below HX2.out
          have hsw : w.heap.size ≤ wr.heap.size := Nat.le_trans I.out.2.2.2.1.size HX2.out.size
          have HST : Aside (RunsOf o F 1000 (if 0 < F k then out ++ [⟨o, k, 1000, decide (F k = 2)⟩] else out) ∧ (if 0 < F k then out ++ [⟨o, k, 1000, decide (F k = 2)⟩] else out).length ≤ 1000) := ⟨runs_step I.out.2.1 he1 Q.out.2 (HF.out k (by omega)) (fun h => I.out.2.2.2.2 h (by omega)), runs_len I.out.2.1 (by rw [HNO.out]; exact I.out.2.2.1) he1⟩
          have HNX : Aside (0 < 1000 → 1000 < 1000 → F (1000 - 1) ≠ F 1000) := fun h1 h2 => by omega
          by_cases hp : 0 < F k
          · go_wp2
            go_quiet (fail)
            go_wp2_with (at_builtin; refine append_row _ ⟨o, k, 1000, F k == 2⟩ rfl _ _ rfl w.heap.size (.slice pv no cv) out rfl (HR2.out.below (below_drewN (Below.refl _ _) _)) (by have := I.out.2.2.1; have := HNO.out; omega) (by first | exact hsw | (simp; omega)) wr.heap.size rfl rfl ?_)
            intro v' w3 hR3 hB3 _ hsz3
            have HR3 : Aside (Rows w3 w.heap.size v' (out ++ [⟨o, k, 1000, F k == 2⟩]) ∧ Below w.heap.size w w3) := ⟨hR3, (I.out.2.2.2.1.trans (HX2.out.mono I.out.2.2.2.1.size)).trans ((below_drewN (Below.refl _ _) _).trans hB3)⟩
            clear hR3 hB3 hsz3
            go_wp2
            go_roundg (1001 - 1000)
            case measure => omega
            case rel =>
              have h := HST.out
              rw [if_pos hp, show decide (F k = 2) = (F k == 2) by rw [Bool.eq_iff_iff]; simp] at h
              exact ⟨1000, out ++ [(⟨o, k, 1000, F k == 2⟩ : Lk)], by omega, by omega, rfl, (⟨HR3.out.1, h.1, h.2, HR3.out.2, HNX.out⟩ : _ ∧ _ ∧ _ ∧ _ ∧ _)⟩
          · go_wp2
            go_quiet (fail)
            go_wp2
            go_roundg (1001 - 1000)
            case measure => omega
            case rel =>
              have h := HST.out
              rw [if_neg (by omega)] at h
              exact ⟨1000, out, by omega, by omega, rfl, (⟨HR2.out.below (below_drewN (Below.refl _ _) _), h.1, h.2, (I.out.2.2.2.1.trans (HX2.out.mono I.out.2.2.2.1.size)).trans (below_drewN (Below.refl _ _) _), HNX.out⟩ : _ ∧ _ ∧ _ ∧ _ ∧ _)⟩
    · have hltz : ¬ (k : Int) < 1000 := by omega
      have HJ : Aside _ := I.out
      obtain rfl : k = 1000 := by omega
      clear I
      go_wp2
      go_ret
      exact ⟨_, out, rfl, HJ.out.1, HJ.out.2.1, HJ.out.2.2.1, HJ.out.2.2.2.1⟩
end Go.Proofs.Ytampldoimpfjgab
