/-
  Plain mathematics of paths as lists of bytes: names, parts between slashes, the order; nothing of a program stands in it.
-/
import Derived.Lib.SplitLaws
import Derived.Lib.LastIndexByte
import Derived.WalkKit
namespace Go.Proofs.YtampldoimpfjgaaGreatDoor.PM
open Go.Lib

def okB (c : UInt8) : Bool := (decide (97 ≤ c) && decide (c ≤ 122)) || (decide (48 ≤ c) && decide (c ≤ 57))
def named (l : List UInt8) : Bool := !l.isEmpty && decide (l.length ≤ 12) && l.all okB

/-- What stands between the slashes; 'cur': what has been met of the first part. -/
def pa (cur : List UInt8) : List UInt8 → List (List UInt8)
  | [] => [cur]
  | c :: r => if c = 47 then cur :: pa [] r else pa (cur ++ [c]) r
def parts (l : List UInt8) : List (List UInt8) := pa [] l
def clean (l : List UInt8) : Bool := decide (l.length ≤ 80) && (parts l).all named

theorem pa_free (l : List UInt8) : ∀ cur, (∀ c ∈ l, c ≠ 47) → pa cur l = [cur ++ l] := by
  induction l with
  | nil => intro cur _; simp [pa]
  | cons c r ih =>
    intro cur h
    rw [pa, if_neg (h c (by simp)), ih _ (fun d hd => h d (by simp [hd]))]
    simp
theorem pa_slash (a : List UInt8) : ∀ (cur b : List UInt8), (∀ c ∈ a, c ≠ 47) → pa cur (a ++ 47 :: b) = (cur ++ a) :: pa [] b := by
  induction a with
  | nil => intro cur b _; simp [pa]
  | cons c r ih =>
    intro cur b h
    rw [List.cons_append, pa, if_neg (h c (by simp)), ih _ _ (fun d hd => h d (by simp [hd]))]
    simp
theorem parts_free (l : List UInt8) (h : ∀ c ∈ l, c ≠ 47) : parts l = [l] := by rw [parts, pa_free l [] h]; rfl
theorem parts_slash (a b : List UInt8) (h : ∀ c ∈ a, c ≠ 47) : parts (a ++ 47 :: b) = a :: parts b := by rw [parts, pa_slash a [] b h]; rfl
/-- Every text is free of slashes, or a part, a slash and the rest. -/
theorem cases_slash (l : List UInt8) : (∀ c ∈ l, c ≠ 47) ∨ ∃ a b, l = a ++ 47 :: b ∧ ∀ c ∈ a, c ≠ 47 := by
  induction l with
  | nil => exact .inl (by simp)
  | cons c r ih =>
    by_cases hc : c = 47
    · exact .inr ⟨[], r, by simp [hc], by simp⟩
    · rcases ih with h | ⟨a, b, e, h⟩
      · exact .inl (fun d hd => by rcases List.mem_cons.1 hd with rfl | hd; exact hc; exact h d hd)
      · exact .inr ⟨c :: a, b, by simp [e], fun d hd => by rcases List.mem_cons.1 hd with rfl | hd; exact hc; exact h d hd⟩
theorem pa_ne (l cur : List UInt8) : pa cur l ≠ [] := by
  induction l generalizing cur with
  | nil => simp [pa]
  | cons c r ih => rw [pa]; split <;> simp [ih]
theorem pa_length (l cur : List UInt8) : (pa cur l).length ≤ l.length + 1 := by
  induction l generalizing cur with
  | nil => simp [pa]
  | cons c r ih => rw [pa]; split <;> simp <;> have := ih [] <;> have := ih (cur ++ [c]) <;> omega
theorem parts_length (l : List UInt8) : (parts l).length ≤ l.length + 1 := pa_length l []
/-- No part is longer than the whole. -/
theorem pa_mem (l cur p : List UInt8) (h : p ∈ pa cur l) : p.length ≤ cur.length + l.length := by
  induction l generalizing cur with
  | nil => simp [pa] at h; subst h; simp
  | cons c r ih =>
    rw [pa] at h
    split at h
    · rcases List.mem_cons.1 h with rfl | h
      · simp
      · have := ih [] h; simp at this ⊢; omega
    · have := ih _ h; simp at this ⊢; omega
theorem parts_mem {l p : List UInt8} (h : p ∈ parts l) : p.length ≤ l.length := by have := pa_mem l [] p h; simpa using this

/-! the last slash -/
/-- Split at the last slash: what stands ahead of it and behind it; nothing, and all, without one. -/
def cutL (l : List UInt8) : List UInt8 × List UInt8 :=
  match (parts l).reverse with
  | [] => ([], l)
  | n :: r => (r.reverse.intersperse [47] |>.flatten, n)
theorem inter_cons (p : List UInt8) (r : List (List UInt8)) (h : r ≠ []) : ((p :: r).intersperse [47]).flatten = p ++ 47 :: (r.intersperse [47]).flatten := by
  cases r with
  | nil => exact absurd rfl h
  | cons q s => simp [List.intersperse]
/-- Cut by the last slash, said outright. -/
theorem cutL_free (l : List UInt8) (h : ∀ c ∈ l, c ≠ 47) : cutL l = ([], l) := by simp [cutL, parts_free l h]
theorem parts_last (a b : List UInt8) (h : ∀ c ∈ b, c ≠ 47) : parts (a ++ 47 :: b) = parts a ++ [b] := by
  have key : ∀ (n : Nat) (a : List UInt8), a.length ≤ n → parts (a ++ 47 :: b) = parts a ++ [b] := by
    intro n
    induction n with
    | zero =>
      intro a ha
      obtain rfl : a = [] := List.length_eq_zero_iff.1 (by omega)
      rw [parts_slash [] b (by simp), parts_free b h]; rfl
    | succ n ih =>
      intro a ha
      rcases cases_slash a with hf | ⟨x, y, rfl, hx⟩
      · rw [parts_slash a b hf, parts_free b h, parts_free a hf]; rfl
      · rw [List.append_assoc, List.cons_append, parts_slash x _ hx, parts_slash x y hx, ih y (by simp at ha; omega)]; rfl
  exact key a.length a (Nat.le_refl _)
theorem inter_parts (l : List UInt8) : ((parts l).intersperse [47]).flatten = l := by
  have key : ∀ (n : Nat) (l : List UInt8), l.length ≤ n → ((parts l).intersperse [47]).flatten = l := by
    intro n
    induction n with
    | zero =>
      intro l hl
      obtain rfl : l = [] := List.length_eq_zero_iff.1 (by omega)
      simp [parts, pa]
    | succ n ih =>
      intro l hl
      rcases cases_slash l with hf | ⟨x, y, rfl, hx⟩
      · rw [parts_free l hf]; simp
      · rw [parts_slash x y hx, inter_cons x (parts y) (pa_ne y []), ih y (by simp at hl; omega)]
  exact key l.length l (Nat.le_refl _)
theorem cutL_slash (a b : List UInt8) (h : ∀ c ∈ b, c ≠ 47) : cutL (a ++ 47 :: b) = (a, b) := by
  simp only [cutL, parts_last a b h, List.reverse_append, List.reverse_cons, List.reverse_nil, List.nil_append, List.singleton_append, List.reverse_reverse, inter_parts]
theorem cases_last (l : List UInt8) : (∀ c ∈ l, c ≠ 47) ∨ ∃ a b, l = a ++ 47 :: b ∧ ∀ c ∈ b, c ≠ 47 := by
  induction l with
  | nil => exact .inl (by simp)
  | cons c r ih =>
    rcases ih with h | ⟨a, b, e, h⟩
    · by_cases hc : c = 47
      · exact .inr ⟨[], r, by simp [hc], h⟩
      · exact .inl (fun d hd => by rcases List.mem_cons.1 hd with rfl | hd; exact hc; exact h d hd)
    · exact .inr ⟨c :: a, b, by simp [e], h⟩

def joinL (d n : List UInt8) : List UInt8 := if d.isEmpty then n else d ++ 47 :: n
def under (s d : List UInt8) : Bool := if d.isEmpty then !s.isEmpty else (d ++ [47]).isPrefixOf s
theorem under_iff (s d : List UInt8) (h : d ≠ []) : under s d = true ↔ ∃ r, s = d ++ 47 :: r := by
  cases d with
  | nil => exact absurd rfl h
  | cons c d =>
    simp only [under, List.isEmpty_cons, Bool.false_eq_true, if_false, List.isPrefixOf_iff_prefix]
    constructor
    · rintro ⟨r, e⟩; exact ⟨r, by rw [← e]; simp⟩
    · rintro ⟨r, e⟩; exact ⟨r, by rw [e]; simp⟩

/-! the order -/
def rk (c : UInt8) : Int := if c = 47 then 1 else 2 + (c.toNat : Int)
theorem rk_pos (c : UInt8) : 1 ≤ rk c ∧ rk c ≤ 257 := by unfold rk; have := c.toNat_lt; split <;> omega
theorem rk_inj {a b : UInt8} (h : rk a = rk b) : a = b := by
  unfold rk at h
  split at h <;> split at h
  · simp [*]
  · omega
  · omega
  · exact UInt8.toNat_inj.1 (by omega)
def cmp : List UInt8 → List UInt8 → Int
  | [], [] => 0
  | [], b :: _ => 0 - rk b
  | a :: _, [] => rk a
  | a :: x, b :: y => if a = b then cmp x y else rk a - rk b
theorem cmp_anti : ∀ a b, cmp a b = - cmp b a
  | [], [] => by simp [cmp]
  | [], b :: _ => by simp [cmp]
  | a :: _, [] => by simp [cmp]
  | a :: x, b :: y => by
    by_cases h : a = b
    · subst h; simp only [cmp, if_true]; exact cmp_anti x y
    · have h' : ¬ b = a := fun e => h e.symm
      simp only [cmp, if_neg h, if_neg h']; omega
theorem cmp_zero : ∀ a b, cmp a b = 0 ↔ a = b
  | [], [] => by simp [cmp]
  | [], b :: _ => by have := rk_pos b; simp [cmp]; omega
  | a :: _, [] => by have := rk_pos a; simp [cmp]; omega
  | a :: x, b :: y => by
    by_cases h : a = b
    · subst h; simp only [cmp, if_true, List.cons.injEq, true_and]; exact cmp_zero x y
    · have : rk a ≠ rk b := fun e => h (rk_inj e)
      rw [cmp, if_neg h]
      constructor
      · intro e; omega
      · intro e; exact absurd (List.cons.inj e).1 h
theorem cmp_trans : ∀ a b c, cmp a b < 0 → cmp b c < 0 → cmp a c < 0
  | [], [], _ => by simp [cmp]
  | [], _ :: _, [] => by rename_i b _; have := rk_pos b; simp [cmp]; omega
  | [], _ :: _, _ :: _ => by rename_i _ _ c _; have := rk_pos c; simp [cmp]; omega
  | a :: _, [], _ => by have := rk_pos a; simp [cmp]; omega
  | _ :: _, b :: _, [] => by have := rk_pos b; simp [cmp]; omega
  | a :: x, b :: y, c :: z => by
    by_cases h1 : a = b
    · subst h1
      by_cases h2 : a = c
      · subst h2; simp only [cmp, if_true]; exact cmp_trans x y z
      · simp only [cmp, if_true, if_neg h2]; intro _ h; exact h
    · by_cases h2 : b = c
      · subst h2; simp only [cmp, if_true, if_neg h1]; intro h _; exact h
      · simp only [cmp, if_neg h1, if_neg h2]
        intro h h'
        have h3 : ¬ a = c := by rintro rfl; omega
        rw [if_neg h3]; omega
theorem cmp_under (a r : List UInt8) : cmp a (a ++ 47 :: r) < 0 := by
  induction a with
  | nil => simp [cmp, rk]
  | cons c a ih => simpa [cmp] using ih
/-- What is not below a, and not ahead of it, is behind all that is below it. -/
theorem cmp_beyond : ∀ (a c r : List UInt8), c ≠ a → (∀ q, c ≠ a ++ 47 :: q) → 0 ≤ cmp c a → 0 < cmp c (a ++ 47 :: r)
  | [], [], _, h, _, _ => absurd rfl h
  | [], d :: c, r, _, hu, _ => by
    have hd : d ≠ 47 := fun e => hu c (by simp [e])
    have := d.toNat_lt
    simp only [List.nil_append, cmp, if_neg hd]
    simp only [rk, if_neg hd, if_true]; omega
  | x :: a, [], _, _, _, h => by have := rk_pos x; simp [cmp] at h; omega
  | x :: a, d :: c, r, h, hu, hc => by
    by_cases e : d = x
    · subst e
      simp only [cmp, if_true, List.cons_append] at hc ⊢
      exact cmp_beyond a c r (fun e => h (by rw [e])) (fun q e => hu q (by rw [e]; simp)) hc
    · have : rk d ≠ rk x := fun e' => e (rk_inj e')
      simp only [cmp, if_neg e, List.cons_append] at hc ⊢
      omega

/-! what a clean path's directory and name are -/
theorem clean_cut (l : List UInt8) (h : clean l = true) : joinL (cutL l).1 (cutL l).2 = l ∧ named (cutL l).2 = true ∧ ((cutL l).1 = [] ∨ clean (cutL l).1 = true) ∧ under l (cutL l).1 = true ∧ under (cutL l).1 l = false := by
  simp only [clean, Bool.and_eq_true, decide_eq_true_eq, List.all_eq_true] at h
  obtain ⟨hl, hn⟩ := h
  have hne : l ≠ [] := by
    rintro rfl
    have := hn [] (by simp [parts, pa])
    simp [named] at this
  have hsh : ∀ d : List UInt8, d.length < l.length → under d l = false := by
    intro d hd
    cases hu : under d l with
    | false => rfl
    | true =>
      obtain ⟨r, e⟩ := (under_iff d l hne).1 hu
      rw [e] at hd; simp at hd; omega
  rcases cases_last l with hf | ⟨a, b, rfl, hb⟩
  · rw [cutL_free l hf]
    rw [parts_free l hf] at hn
    refine ⟨by simp [joinL], hn l (by simp), .inl rfl, ?_, ?_⟩
    · simp [under, hne]
    · exact hsh [] (by cases l with | nil => exact absurd rfl hne | cons => simp)
  · rw [cutL_slash a b hb]
    rw [parts_last a b hb] at hn
    have hae : a ≠ [] := by
      rintro rfl
      have := hn [] (by simp [parts, pa])
      simp [named] at this
    have hae' : a.isEmpty = false := by cases a with | nil => exact absurd rfl hae | cons => rfl
    refine ⟨by simp [joinL, hae'], hn b (by simp), .inr ?_, (under_iff _ _ hae).2 ⟨b, rfl⟩, hsh a (by simp)⟩
    simp only [clean, Bool.and_eq_true, decide_eq_true_eq, List.all_eq_true]
    exact ⟨by simp at hl; omega, fun p hp => hn p (by simp [hp])⟩
theorem under_trans (t l : List UInt8) (h : clean l = true) (hu : under t l = true) : under t (cutL l).1 = true := by
  have hne : l ≠ [] := by
    rintro rfl
    simp [clean, parts, pa, named] at h
  obtain ⟨r, rfl⟩ := (under_iff t l hne).1 hu
  rcases cases_last l with hf | ⟨a, b, rfl, hb⟩
  · rw [cutL_free l hf]; simp [under]
  · rw [cutL_slash a b hb]
    by_cases hae : a = []
    · subst hae; simp [under]
    · exact (under_iff _ _ hae).2 ⟨b ++ 47 :: r, by simp⟩
end Go.Proofs.YtampldoimpfjgaaGreatDoor.PM
namespace Go.Proofs.YtampldoimpfjgaaGreatDoor.PM
open Go.Lib Go.RowKit

theorem index_free (l : List UInt8) (h : ∀ c ∈ l, c ≠ 47) : index l [47] = -1 := by
  induction l with
  | nil => rfl
  | cons c r ih =>
    have hc : (47 : UInt8) ≠ c := fun e => h c (by simp) e.symm
    have hr := ih (fun d hd => h d (by simp [hd]))
    simp [index, List.isPrefixOf, hc, hr]
theorem index_slash (a b : List UInt8) (h : ∀ c ∈ a, c ≠ 47) : index (a ++ 47 :: b) [47] = a.length := by
  induction a with
  | nil => simp [index, List.isPrefixOf]
  | cons c r ih =>
    have hc : (47 : UInt8) ≠ c := fun e => h c (by simp) e.symm
    have hr := ih (fun d hd => h d (by simp [hd]))
    have hne : ¬ ((r.length : Int) = -1) := by omega
    simp [index, List.isPrefixOf, hc, hr, hne]
theorem splitK_parts (l : List UInt8) : splitK [47] 0 (count l [47]) l = parts l := by
  have key : ∀ (n : Nat) (l : List UInt8), l.length ≤ n → splitK [47] 0 (count l [47]) l = parts l := by
    intro n
    induction n with
    | zero =>
      intro l hl
      obtain rfl : l = [] := List.length_eq_zero_iff.1 (by omega)
      rw [count_miss (index_free [] (by simp))]; rfl
    | succ n ih =>
      intro l hl
      rcases cases_slash l with hf | ⟨x, y, rfl, hx⟩
      · rw [count_miss (index_free l hf), parts_free l hf]; rfl
      · have hd : (x ++ 47 :: y).drop (x.length + 1) = y := by simp
        have hc := count_hit (by simp) (index_slash x y hx)
        rw [show ([47] : List UInt8).length = 1 from rfl, hd, Nat.add_comm] at hc
        rw [hc, splitK, index_slash x y hx, parts_slash x y hx]
        have hne : ¬ (((x.length : Nat) : Int) == -1) = true := by simp
        rw [if_neg hne, show ([47] : List UInt8).length = 1 from rfl, Int.toNat_natCast, hd, ih y (by simp at hl; omega)]
        simp
  exact key l.length l (Nat.le_refl _)
/-- The library's pieces, as lists of bytes, are the parts. -/
theorem split_parts (s : ByteArray) : (splitB ⟨#[47]⟩ 0 (countB s ⟨#[47]⟩) s).map (·.data.toList) = parts s.data.toList := by
  rw [splitB_data]; exact splitK_parts _
theorem split_len (s : ByteArray) : (splitB ⟨#[47]⟩ 0 (countB s ⟨#[47]⟩) s).length = countB s ⟨#[47]⟩ + 1 := splitB_all ⟨#[47]⟩ (by decide) 0 _ s rfl
theorem bytes_ext {a b : ByteArray} (h : a.data.toList = b.data.toList) : a = b := by
  cases a; cases b; congr; exact Array.toList_inj.1 h

/-! the last slash of a byte string -/
theorem szl (s : ByteArray) : s.data.toList.length = s.size := Array.length_toList
theorem get_bang (s : ByteArray) (j : Nat) (h : j < s.data.toList.length) : s.data[j]! = s.data.toList[j] := by
  rw [getElem!_pos s.data j (by rw [← Array.length_toList]; exact h), Array.getElem_toList]
theorem last_none (s : ByteArray) (h : lastIndexByte s 47 = -1) : ∀ c ∈ s.data.toList, c ≠ 47 := by
  rcases lastIndexByte_spec s 47 with ⟨_, hn⟩ | ⟨i, _, e, _⟩
  · intro c hc
    obtain ⟨j, hj, rfl⟩ := List.mem_iff_getElem.1 hc
    have := hn j (by rw [← szl]; exact hj)
    rw [get_bang s j hj] at this
    intro e
    rw [e] at this
    exact this (by decide)
  · omega
theorem last_some (s : ByteArray) (i : Nat) (h : lastIndexByte s 47 = i) : i < s.size ∧ s.data.toList = s.data.toList.take i ++ 47 :: s.data.toList.drop (i + 1) ∧ ∀ c ∈ s.data.toList.drop (i + 1), c ≠ 47 := by
  rcases lastIndexByte_spec s 47 with ⟨e, _⟩ | ⟨i', hi, e, hc, hn⟩
  · omega
  · obtain rfl : i' = i := by omega
    have hi' : i' < s.data.toList.length := by rw [szl]; exact hi
    refine ⟨hi, ?_, ?_⟩
    · have h47 : s.data.toList[i'] = 47 := by
        rw [get_bang s i' hi'] at hc
        exact UInt8.toNat_inj.1 (by have : (47 : UInt8).toNat = 47 := rfl; omega)
      conv => lhs; rw [← List.take_append_drop i' s.data.toList, List.drop_eq_getElem_cons hi', h47]
    · intro c hc'
      obtain ⟨j, hj, rfl⟩ := List.mem_iff_getElem.1 hc'
      have hjl : i' + 1 + j < s.data.toList.length := by simp only [List.length_drop] at hj; omega
      have := hn (i' + 1 + j) (by omega) (by rw [← szl]; exact hjl)
      rw [get_bang s (i' + 1 + j) hjl] at this
      rw [List.getElem_drop]
      intro e
      rw [e] at this
      exact this (by decide)
theorem last_cases (s : ByteArray) : lastIndexByte s 47 = -1 ∨ ∃ i : Nat, lastIndexByte s 47 = i := by
  rcases lastIndexByte_spec s 47 with ⟨e, _⟩ | ⟨i, _, e, _⟩
  · exact .inl e
  · exact .inr ⟨i, e⟩
theorem cutL_none (s : ByteArray) (h : lastIndexByte s 47 = -1) : cutL s.data.toList = ([], s.data.toList) := cutL_free _ (last_none s h)
theorem cutL_some (s : ByteArray) (i : Nat) (h : lastIndexByte s 47 = i) : cutL s.data.toList = (s.data.toList.take i, s.data.toList.drop (i + 1)) := by
  obtain ⟨_, h1, h2⟩ := last_some s i h
  conv => lhs; rw [h1]
  exact cutL_slash _ _ h2
end Go.Proofs.YtampldoimpfjgaaGreatDoor.PM
