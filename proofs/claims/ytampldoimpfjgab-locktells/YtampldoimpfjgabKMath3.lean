/-
  Plain mathematics of locks, on: bytes in a row, and the locks that they are.
-/
import Derived.Test.YtampldoimpfjgabKMath2
namespace Go.Proofs.Ytampldoimpfjgab.KM

/-- The runs of an owner's bytes: right, and their bytes are those. -/
structure RunsOf (o : Int) (F : Nat → Int) (k : Nat) (out : List Lk) : Prop where
  own : ∀ x ∈ out, x.o = o
  ok : ∀ x ∈ out, 0 ≤ x.f ∧ x.f < x.t ∧ x.t ≤ k
  rises : out.Pairwise R
  has : ∀ (i : Nat) b, Has out o i b ↔ i < k ∧ F i = howB b
  last : ∀ x ∈ out, x.t = k → ∀ i : Nat, (i : Int) + 1 = x.t → F i = howB x.a
theorem runs_nil (o : Int) (F : Nat → Int) : RunsOf o F 0 [] :=
  ⟨by simp, by simp, by simp, fun i b => ⟨fun ⟨y, hy, _⟩ => by simp at hy, fun h => by omega⟩, by simp⟩
/-- The next run: all alike from k on, and what follows is not. -/
theorem runs_step {o : Int} {F : Nat → Int} {k e : Nat} {out : List Lk} (h : RunsOf o F k out) (hke : k < e) (hall : ∀ i, k ≤ i → i < e → F i = F k) (hF : F k = 0 ∨ F k = 1 ∨ F k = 2) (hprev : 0 < k → F (k - 1) ≠ F k) :
    RunsOf o F e (if 0 < F k then out ++ [⟨o, k, e, decide (F k = 2)⟩] else out) := by
  by_cases hp : 0 < F k
  · rw [if_pos hp]
    have hb : howB (decide (F k = 2)) = F k := by
      rcases hF with h0 | h0 | h0 <;> rw [h0] at hp ⊢ <;> simp [howB] at hp ⊢
    refine ⟨?_, ?_, ?_, ?_, ?_⟩
    · intro x hx
      rcases List.mem_append.1 hx with hx | hx
      · exact h.own x hx
      · simp at hx; rw [hx]
    · intro x hx
      rcases List.mem_append.1 hx with hx | hx
      · obtain ⟨a, b, c⟩ := h.ok x hx; exact ⟨a, b, by omega⟩
      · simp at hx; rw [hx]; simp only; omega
    · refine List.pairwise_append.2 ⟨h.rises, by simp, fun a ha b hb' => ?_⟩
      simp at hb'; subst hb'
      obtain ⟨a1, a2, a3⟩ := h.ok a ha
      refine .inr ⟨h.own a ha, ?_⟩
      simp only
      by_cases he : a.t = k
      · refine .inr ⟨he, fun e' => ?_⟩
        have hk0 : 0 < k := by omega
        have := h.last a ha he (k - 1) (by omega)
        rw [e', hb] at this
        exact hprev hk0 this
      · exact .inl (by omega)
    · intro i b
      rw [has_append, h.has, has_one]
      simp only
      constructor
      · rintro (⟨h1, h2⟩ | ⟨_, h1, h2, h3⟩)
        · exact ⟨by omega, h2⟩
        · refine ⟨by omega, ?_⟩
          rw [hall i (by omega) (by omega), ← hb, h3]
      · rintro ⟨h1, h2⟩
        by_cases hi : i < k
        · exact .inl ⟨hi, h2⟩
        · refine .inr ⟨trivial, by omega, by omega, ?_⟩
          rw [hall i (by omega) h1, ← hb] at h2
          revert h2
          cases decide (F k = 2) <;> cases b <;> simp [howB]
    · intro x hx ht i hi
      rcases List.mem_append.1 hx with hx | hx
      · obtain ⟨_, _, a3⟩ := h.ok x hx; omega
      · simp at hx; rw [hx] at hi ⊢; simp only at hi ⊢
        rw [hb]; exact hall i (by omega) (by omega)
  · rw [if_neg hp]
    have h0 : F k = 0 := by omega
    refine ⟨h.own, fun x hx => ?_, h.rises, fun i b => ?_, fun x hx ht i hi => ?_⟩
    · obtain ⟨a, b, c⟩ := h.ok x hx; exact ⟨a, b, by omega⟩
    · rw [h.has]
      constructor
      · rintro ⟨h1, h2⟩; exact ⟨by omega, h2⟩
      · rintro ⟨h1, h2⟩
        by_cases hi : i < k
        · exact ⟨hi, h2⟩
        · rw [hall i (by omega) h1, h0] at h2
          cases b <;> simp [howB] at h2
    · obtain ⟨_, _, a3⟩ := h.ok x hx; omega
end Go.Proofs.Ytampldoimpfjgab.KM
