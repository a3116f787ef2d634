/-
  Plain facts on byte strings: the library's pieces of a text at a slash are its parts; the last slash.
-/
import Derived.Test.YtampldoimpfjgabGreatDoorMath
import Derived.WalkKit
namespace Go.Proofs.YtampldoimpfjgabGreatDoor.PM
open Go.Lib Go.RowKit

theorem index_free (l : List UInt8) (h : ∀ c ∈ l, c ≠ 47) : index l [47] = -1 := by
  induction l with
  | nil => rfl
  | cons c r ih =>
    have hc : (47 : UInt8) ≠ c := fun e => h c (by simp) e.symm
    have hr := ih (fun d hd => h d (by simp [hd]))
    simp [index, List.isPrefixOf, hc, hr]
theorem index_slash (a b : List UInt8) (h : ∀ c ∈ a, c ≠ 47) : index (a ++ 47 :: b) [47] = a.length := by
  induction a with
  | nil => simp [index, List.isPrefixOf]
  | cons c r ih =>
    have hc : (47 : UInt8) ≠ c := fun e => h c (by simp) e.symm
    have hr := ih (fun d hd => h d (by simp [hd]))
    have hne : ¬ ((r.length : Int) = -1) := by omega
    simp [index, List.isPrefixOf, hc, hr, hne]
theorem splitK_parts (l : List UInt8) : splitK [47] 0 (count l [47]) l = parts l := by
  have key : ∀ (n : Nat) (l : List UInt8), l.length ≤ n → splitK [47] 0 (count l [47]) l = parts l := by
    intro n
    induction n with
    | zero =>
      intro l hl
      obtain rfl : l = [] := List.length_eq_zero_iff.1 (by omega)
      rw [count_miss (index_free [] (by simp))]; rfl
    | succ n ih =>
      intro l hl
      rcases cases_slash l with hf | ⟨x, y, rfl, hx⟩
      · rw [count_miss (index_free l hf), parts_free l hf]; rfl
      · have hd : (x ++ 47 :: y).drop (x.length + 1) = y := by simp
        have hc := count_hit (by simp) (index_slash x y hx)
        rw [show ([47] : List UInt8).length = 1 from rfl, hd, Nat.add_comm] at hc
        rw [hc, splitK, index_slash x y hx, parts_slash x y hx]
        have hne : ¬ (((x.length : Nat) : Int) == -1) = true := by simp
        rw [if_neg hne, show ([47] : List UInt8).length = 1 from rfl, Int.toNat_natCast, hd, ih y (by simp at hl; omega)]
        simp
  exact key l.length l (Nat.le_refl _)
/-- The library's pieces, as lists of bytes, are the parts. -/
theorem split_parts (s : ByteArray) : (splitB ⟨#[47]⟩ 0 (countB s ⟨#[47]⟩) s).map (·.data.toList) = parts s.data.toList := by
  rw [splitB_data]; exact splitK_parts _
theorem split_len (s : ByteArray) : (splitB ⟨#[47]⟩ 0 (countB s ⟨#[47]⟩) s).length = countB s ⟨#[47]⟩ + 1 := splitB_all ⟨#[47]⟩ (by decide) 0 _ s rfl
theorem bytes_ext {a b : ByteArray} (h : a.data.toList = b.data.toList) : a = b := by
  cases a; cases b; congr; exact Array.toList_inj.1 h

/-! the last slash of a byte string -/
theorem szl (s : ByteArray) : s.data.toList.length = s.size := Array.length_toList
theorem get_bang (s : ByteArray) (j : Nat) (h : j < s.data.toList.length) : s.data[j]! = s.data.toList[j] := by
  rw [getElem!_pos s.data j (by rw [← Array.length_toList]; exact h), Array.getElem_toList]
theorem last_none (s : ByteArray) (h : lastIndexByte s 47 = -1) : ∀ c ∈ s.data.toList, c ≠ 47 := by
  rcases lastIndexByte_spec s 47 with ⟨_, hn⟩ | ⟨i, _, e, _⟩
  · intro c hc
    obtain ⟨j, hj, rfl⟩ := List.mem_iff_getElem.1 hc
    have := hn j (by rw [← szl]; exact hj)
    rw [get_bang s j hj] at this
    intro e
    rw [e] at this
    exact this (by decide)
  · omega
theorem last_some (s : ByteArray) (i : Nat) (h : lastIndexByte s 47 = i) : i < s.size ∧ s.data.toList = s.data.toList.take i ++ 47 :: s.data.toList.drop (i + 1) ∧ ∀ c ∈ s.data.toList.drop (i + 1), c ≠ 47 := by
  rcases lastIndexByte_spec s 47 with ⟨e, _⟩ | ⟨i', hi, e, hc, hn⟩
  · omega
  · obtain rfl : i' = i := by omega
    have hi' : i' < s.data.toList.length := by rw [szl]; exact hi
    refine ⟨hi, ?_, ?_⟩
    · have h47 : s.data.toList[i'] = 47 := by
        rw [get_bang s i' hi'] at hc
        exact UInt8.toNat_inj.1 (by have : (47 : UInt8).toNat = 47 := rfl; omega)
      conv => lhs; rw [← List.take_append_drop i' s.data.toList, List.drop_eq_getElem_cons hi', h47]
    · intro c hc'
      obtain ⟨j, hj, rfl⟩ := List.mem_iff_getElem.1 hc'
      have hjl : i' + 1 + j < s.data.toList.length := by simp only [List.length_drop] at hj; omega
      have := hn (i' + 1 + j) (by omega) (by rw [← szl]; exact hjl)
      rw [get_bang s (i' + 1 + j) hjl] at this
      rw [List.getElem_drop]
      intro e
      rw [e] at this
      exact this (by decide)
theorem last_cases (s : ByteArray) : lastIndexByte s 47 = -1 ∨ ∃ i : Nat, lastIndexByte s 47 = i := by
  rcases lastIndexByte_spec s 47 with ⟨e, _⟩ | ⟨i, _, e, _⟩
  · exact .inl e
  · exact .inr ⟨i, e⟩
theorem cutL_none (s : ByteArray) (h : lastIndexByte s 47 = -1) : cutL s.data.toList = ([], s.data.toList) := cutL_free _ (last_none s h)
theorem cutL_some (s : ByteArray) (i : Nat) (h : lastIndexByte s 47 = i) : cutL s.data.toList = (s.data.toList.take i, s.data.toList.drop (i + 1)) := by
  obtain ⟨_, h1, h2⟩ := last_some s i h
  conv => lhs; rw [h1]
  exact cutL_slash _ _ h2
end Go.Proofs.YtampldoimpfjgabGreatDoor.PM
