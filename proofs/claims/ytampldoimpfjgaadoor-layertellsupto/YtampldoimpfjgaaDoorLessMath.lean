/-
  Plain mathematics: paths compared part by part, byte by byte, come as 'cmp' says.
-/
import Derived.Test.YtampldoimpfjgaaDoorRefWalks2
namespace Go.Proofs.YtampldoimpfjgaaDoor.PM
open Go.RowKit

theorem bl_irrefl (x : List UInt8) : Op.bytesLess x x = false := by
  induction x with
  | nil => rfl
  | cons c x ih => simp [Op.bytesLess, ih]
/-- Lists of parts, part by part. -/
def lessP : List (List UInt8) → List (List UInt8) → Bool
  | [], [] => false
  | [], _ :: _ => true
  | _ :: _, [] => false
  | p :: x, q :: y => if p = q then lessP x y else Op.bytesLess p q
/-- What stands behind a part: nothing, or a slash. -/
def Tail (A : List UInt8) : Prop := A = [] ∨ ∃ r, A = 47 :: r
theorem rk_other {c : UInt8} (h : c ≠ 47) : rk c = 2 + (c.toNat : Int) := by rw [rk, if_neg h]
theorem cmp_parts : ∀ (x y A B : List UInt8), (∀ c ∈ x, c ≠ 47) → (∀ c ∈ y, c ≠ 47) → Tail A → Tail B → x ≠ y → decide (cmp (x ++ A) (y ++ B) < 0) = Op.bytesLess x y
  | [], [], _, _, _, _, _, _, h => absurd rfl h
  | [], d :: y, A, B, _, hy, hA, _, _ => by
    have hd := hy d (by simp)
    have := d.toNat_lt
    rcases hA with rfl | ⟨r, rfl⟩
    · have := rk_pos d
      simp [Op.bytesLess, cmp]; omega
    · have hd' : ¬ (47 : UInt8) = d := fun e => hd e.symm
      simp only [List.nil_append, List.cons_append, cmp, if_neg hd', rk_other hd, Op.bytesLess, decide_eq_true_eq]
      simp only [rk, if_true]; omega
  | c :: x, [], A, B, hx, _, _, hB, _ => by
    have hc := hx c (by simp)
    have := c.toNat_lt
    rcases hB with rfl | ⟨r, rfl⟩
    · have := rk_pos c
      simp [Op.bytesLess, cmp]; omega
    · simp only [List.nil_append, List.cons_append, cmp, if_neg hc, rk_other hc, Op.bytesLess, decide_eq_false_iff_not]
      simp only [rk, if_true]; omega
  | c :: x, d :: y, A, B, hx, hy, hA, hB, hne => by
    by_cases e : c = d
    · subst e
      have ih := cmp_parts x y A B (fun k hk => hx k (by simp [hk])) (fun k hk => hy k (by simp [hk])) hA hB (fun e => hne (by rw [e]))
      simp only [List.cons_append, cmp, if_true, Op.bytesLess]
      rw [ih]; simp
    · have hc := hx c (by simp)
      have hd := hy d (by simp)
      simp only [List.cons_append, cmp, if_neg e, Op.bytesLess, rk_other hc, rk_other hd]
      rw [Bool.eq_iff_iff]
      simp only [decide_eq_true_eq, Bool.or_eq_true, Bool.and_eq_true, beq_iff_eq, e, false_and, or_false, UInt8.lt_iff_toNat_lt]
      omega
theorem cmp_same : ∀ (x A B : List UInt8), cmp (x ++ A) (x ++ B) = cmp A B
  | [], _, _ => rfl
  | c :: x, A, B => by simp only [List.cons_append, cmp, if_true]; exact cmp_same x A B
theorem lessP_parts (a b : List UInt8) : lessP (parts a) (parts b) = decide (cmp a b < 0) := by
  have key : ∀ (n : Nat) (a b : List UInt8), a.length ≤ n → lessP (parts a) (parts b) = decide (cmp a b < 0) := by
    intro n
    induction n with
    | zero =>
      intro a b ha
      obtain rfl : a = [] := List.length_eq_zero_iff.1 (by omega)
      rw [parts_free [] (by simp)]
      rcases cases_slash b with hf | ⟨y, b', rfl, hy⟩
      · rw [parts_free b hf, lessP]
        split
        · rename_i e; rw [← e]; rfl
        · rename_i e
          have := cmp_parts [] b [] [] (by simp) hf (.inl rfl) (.inl rfl) e
          simpa using this.symm
      · rw [parts_slash y b' hy, lessP]
        split
        · rename_i e
          rw [← e]
          cases hp : parts b' with
          | nil => exact absurd hp (pa_ne b' [])
          | cons q r => simp [lessP, cmp, rk]
        · rename_i e
          have := cmp_parts [] y [] (47 :: b') (by simp) hy (.inl rfl) (.inr ⟨_, rfl⟩) e
          simpa using this.symm
    | succ n ih =>
      intro a b ha
      rcases cases_slash a with hf | ⟨x, a', rfl, hx⟩
      · rw [parts_free a hf]
        rcases cases_slash b with hg | ⟨y, b', rfl, hy⟩
        · rw [parts_free b hg, lessP]
          split
          · rename_i e; rw [← e, (cmp_zero a a).2 rfl]; rfl
          · rename_i e
            have := cmp_parts a b [] [] hf hg (.inl rfl) (.inl rfl) e
            simpa using this.symm
        · rw [parts_slash y b' hy, lessP]
          split
          · rename_i e
            have := cmp_under a b'
            subst e
            cases hp : parts b' with
            | nil => exact absurd hp (pa_ne b' [])
            | cons q r => simp [lessP, this]
          · rename_i e
            have := cmp_parts a y [] (47 :: b') hf hy (.inl rfl) (.inr ⟨_, rfl⟩) e
            simpa using this.symm
      · rw [parts_slash x a' hx]
        rcases cases_slash b with hg | ⟨y, b', rfl, hy⟩
        · rw [parts_free b hg, lessP]
          split
          · rename_i e
            have h1 := cmp_under x a'
            have h2 := cmp_anti (x ++ 47 :: a') x
            subst e
            cases hp : parts a' with
            | nil => exact absurd hp (pa_ne a' [])
            | cons q r => simp [lessP]; omega
          · rename_i e
            have := cmp_parts x b (47 :: a') [] hx hg (.inr ⟨_, rfl⟩) (.inl rfl) e
            simpa using this.symm
        · rw [parts_slash y b' hy, lessP]
          split
          · rename_i e
            subst e
            rw [ih a' b' (by simp at ha; omega), cmp_same]
            simp [cmp]
          · rename_i e
            have := cmp_parts x y (47 :: a') (47 :: b') hx hy (.inr ⟨_, rfl⟩) (.inr ⟨_, rfl⟩) e
            exact this.symm
  exact key a.length a b (Nat.le_refl _)
/-- From the k-th part on. -/
theorem lessP_at {X Y : List (List UInt8)} {k : Nat} {p q : List UInt8} (hp : X[k]? = some p) (hq : Y[k]? = some q) : lessP (X.drop k) (Y.drop k) = if p = q then lessP (X.drop (k + 1)) (Y.drop (k + 1)) else Op.bytesLess p q := by
  obtain ⟨h1, rfl⟩ := List.getElem?_eq_some_iff.1 hp
  obtain ⟨h2, rfl⟩ := List.getElem?_eq_some_iff.1 hq
  rw [List.drop_eq_getElem_cons h1, List.drop_eq_getElem_cons h2, lessP]
theorem lessP_short {X Y : List (List UInt8)} {k : Nat} (h1 : k < X.length) (h2 : Y.length ≤ k) : lessP (X.drop k) (Y.drop k) = false := by
  rw [List.drop_eq_getElem_cons h1, List.drop_of_length_le h2, lessP]
theorem lessP_end {X Y : List (List UInt8)} {k : Nat} (h1 : X.length = k) (h2 : k ≤ Y.length) : lessP (X.drop k) (Y.drop k) = decide ((X.length : Int) < (Y.length : Int)) := by
  rw [List.drop_of_length_le (by omega)]
  by_cases h : k < Y.length
  · rw [List.drop_eq_getElem_cons h, lessP]; simp; omega
  · rw [List.drop_of_length_le (by omega), lessP]; simp; omega
end Go.Proofs.YtampldoimpfjgaaDoor.PM
