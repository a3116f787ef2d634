/-
  What package path's functions that make no memory answer: ofName, Named, rank, Compare, Under, Cut, Join.
-/
import Derived.Test.YtampldoimpfjgabGreatDoorBytes
import Derived.Test.YtampldoimpfjgabGreatDoorShelf
import Derived.WalkKit
import Derived.WalkLawsBesides
import Derived.WalkSpells
import Derived.Outline
import Derived.Deep.QuietTactic
import Derived.BigQuiet
namespace Go.Proofs.YtampldoimpfjgabGreatDoor
open Go.RowKit PM
set_option linter.unusedVariables false

theorem ofName_any (c : UInt8) (w : World) : Calls Tryz.prog 121 #[.int .u8 (c.toNat : Int)] w fun e w' => e = .returned (.bool (okB c)) ∧ w' = w := by
  have e1 : okB c = decide (97 ≤ (c.toNat : Int) ∧ (c.toNat : Int) ≤ 122 ∨ 48 ≤ (c.toNat : Int) ∧ (c.toNat : Int) ≤ 57) := by
    rw [Bool.eq_iff_iff]; simp [okB, UInt8.le_iff_toNat_le]; omega
  have hc := c.toNat_lt
  by_cases h1 : 97 ≤ (c.toNat : Int) <;> by_cases h2 : (c.toNat : Int) ≤ 122 <;> by_cases h3 : 48 ≤ (c.toNat : Int) <;> by_cases h4 : (c.toNat : Int) ≤ 57 <;>
  first
  | omega
  | (have e2 : Hid (okB c = decide (97 ≤ (c.toNat : Int) ∧ (c.toNat : Int) ≤ 122 ∨ 48 ≤ (c.toNat : Int) ∧ (c.toNat : Int) ≤ 57)) := e1
     clear e1
     go_enter Tryz.func121, Tryz.ntmps121
     go_wp2
     go_ret
     refine ⟨?_, rfl⟩
     rw [e2.out]
     simp [*])

theorem rank_end (s : ByteArray) (w : World) (hs : s.size ≤ maxLen) : Calls Tryz.prog 116 #[.string s, .int .i64 s.size] w fun e w' => e = .returned (.int .i64 0) ∧ w' = w := by
  go_enter Tryz.func116, Tryz.ntmps116
  go_wp2
  go_ret
  exact ⟨rfl, rfl⟩
theorem ret_int {k : IntKind} {a b : Int} (h : a = b) : Ending.returned (.int k a) = .returned (.int k b) := by rw [h]
theorem ret_bool {a b : Bool} (h : a = b) : Ending.returned (.bool a) = .returned (.bool b) := by rw [h]
theorem rank_at (s : ByteArray) (i : Nat) (w : World) (hs : s.size ≤ maxLen) (hi : i < s.size) : Calls Tryz.prog 116 #[.string s, .int .i64 i] w fun e w' => e = .returned (.int .i64 (rk s[i])) ∧ w' = w := by
  unfold maxLen at hs
  have hc := (s[i]).toNat_lt
  by_cases h : s[i] = 47
  · have H : Hid (rk s[i] = 1) := by show _ = _; simp [rk, h]
    have h1 : ((s[i].toNat : Int) == 47) = true := by rw [h]; rfl
    clear h
    go_enter Tryz.func116, Tryz.ntmps116
    go_wp2
    go_ret
    exact ⟨ret_int H.out.symm, rfl⟩
  · have H : Hid (rk s[i] = 2 + (s[i].toNat : Int)) := by show _ = _; simp [rk, h]
    have h1 : ((s[i].toNat : Int) == 47) = false := by
      simp only [beq_eq_false_iff_ne, ne_eq]
      intro e
      exact h (UInt8.toNat_inj.1 (by have : (47 : UInt8).toNat = 47 := rfl; omega))
    clear h
    go_enter Tryz.func116, Tryz.ntmps116
    go_wp2
    go_ret
    exact ⟨ret_int H.out.symm, rfl⟩

def rkAt (s : ByteArray) (i : Nat) : Int := if h : i < s.size then rk s[i] else 0
theorem rkAt_bd (s : ByteArray) (i : Nat) : 0 ≤ rkAt s i ∧ rkAt s i ≤ 257 := by
  unfold rkAt; split
  · have := rk_pos (s[i]'(by assumption)); omega
  · omega
theorem rank_any (s : ByteArray) (i : Nat) (w : World) (hs : s.size ≤ maxLen) (hi : i ≤ s.size) : Calls Tryz.prog 116 #[.string s, .int .i64 i] w fun e w' => e = .returned (.int .i64 (rkAt s i)) ∧ w' = w := by
  by_cases h : i < s.size
  · rw [rkAt, dif_pos h]; exact rank_at s i w hs h
  · obtain rfl : i = s.size := by omega
    rw [rkAt, dif_neg h]; exact rank_end s w hs

theorem drop_get (s : ByteArray) (i : Nat) (h : i < s.size) : s.data.toList.drop i = s[i] :: s.data.toList.drop (i + 1) := by
  rw [List.drop_eq_getElem_cons (by rw [szl]; exact h), Array.getElem_toList]; rfl
theorem cmp_step (a b : ByteArray) (i : Nat) (h1 : i < a.size) (h2 : i < b.size) (h : a[i] = b[i]) : cmp (a.data.toList.drop i) (b.data.toList.drop i) = cmp (a.data.toList.drop (i + 1)) (b.data.toList.drop (i + 1)) := by
  rw [drop_get a i h1, drop_get b i h2, cmp, if_pos h]
/-- Where the two part, or one ends. -/
theorem cmp_stop (a b : ByteArray) (i : Nat) (h1 : i ≤ a.size) (h2 : i ≤ b.size) (h : ∀ (x : i < a.size) (y : i < b.size), ¬ a[i] = b[i]) : cmp (a.data.toList.drop i) (b.data.toList.drop i) = rkAt a i - rkAt b i := by
  unfold rkAt
  by_cases x : i < a.size <;> by_cases y : i < b.size
  · rw [drop_get a i x, drop_get b i y, cmp, if_neg (h x y), dif_pos x, dif_pos y]
  · rw [drop_get a i x, List.drop_of_length_le (l := b.data.toList) (by rw [szl]; omega), cmp, dif_pos x, dif_neg y]; omega
  · rw [drop_get b i y, List.drop_of_length_le (l := a.data.toList) (by rw [szl]; omega), cmp, dif_neg x, dif_pos y]
  · rw [List.drop_of_length_le (by rw [szl]; omega), List.drop_of_length_le (l := b.data.toList) (by rw [szl]; omega), cmp, dif_neg x, dif_neg y]; rfl
theorem byte_eq {x y : UInt8} (h : ¬ x = y) : ((x.toNat : Int) == (y.toNat : Int)) = false := by
  simp only [beq_eq_false_iff_ne, ne_eq]
  intro e
  exact h (UInt8.toNat_inj.1 (by omega))

set_option maxHeartbeats 1000000 in
theorem compare_any (a b : ByteArray) (w : World) (ha : a.size ≤ maxLen) (hb : b.size ≤ maxLen) :
    Calls Tryz.prog 79 #[.string a, .string b] w fun e w' => e = .returned (.int .i64 (cmp a.data.toList b.data.toList)) ∧ ∃ n, w' = w.drewN n := by
  have ha' := ha
  have hb' := hb
  unfold maxLen at ha hb
  go_enter Tryz.func79, Tryz.ntmps79
  go_wp2
  go_loopw [5] (fun i wr => ∃ k : Nat, k ≤ a.size ∧ k ≤ b.size ∧ i = .int .i64 k ∧ Hid (cmp (a.data.toList.drop k) (b.data.toList.drop k) = cmp a.data.toList b.data.toList) ∧ ∃ n, wr = w.drewN n) (fun i _ => a.size - (intOf i).toNat)
  case atStart => exact ⟨0, Nat.zero_le _, Nat.zero_le _, rfl, rfl, 0, rfl⟩
  case round =>
    obtain ⟨k, hk1, hk2, rfl, HC, n, rfl⟩ := hrel
    have hra := rkAt_bd a k
    have hrb := rkAt_bd b k
    by_cases h1 : k < a.size
    · have g1 : (k : Int) < (a.size : Int) := by omega
      by_cases h2 : k < b.size
      · have g2 : (k : Int) < (b.size : Int) := by omega
        by_cases h3 : a[k] = b[k]
        · have HS := cmp_step a b k h1 h2 h3
          have HN : Hid (cmp (a.data.toList.drop (k + 1)) (b.data.toList.drop (k + 1)) = cmp a.data.toList b.data.toList) := by show _ = _; rw [← HS]; exact HC.out
          have h4 : ((a[k].toNat : Int) == (b[k].toNat : Int)) = true := by rw [h3]; simp
          clear h3 HS HC hra hrb
          go_wp2
          go_quiet (fail)
          go_wp2
          exact ⟨⟨k + 1, by omega, by omega, by go_num, HN, _, rfl⟩, by simp [intOf]; omega⟩
        · have HN : Hid (cmp a.data.toList b.data.toList = rkAt a k - rkAt b k) := by show _ = _; rw [← HC.out]; exact cmp_stop a b k hk1 hk2 (fun _ _ => h3)
          have h4 : ((a[k].toNat : Int) == (b[k].toNat : Int)) = false := byte_eq h3
          clear h3 HC
          go_wp2
          go_quiet (fail)
          go_wp2_with (go_at_call 116; refine (rank_any _ _ _ (by assumption) (by assumption)).mono ?_; rintro e w' ⟨rfl, rfl⟩)
          go_ret
          exact ⟨ret_int HN.out.symm, _, rfl⟩
      · have HN : Hid (cmp a.data.toList b.data.toList = rkAt a k - rkAt b k) := by show _ = _; rw [← HC.out]; exact cmp_stop a b k hk1 hk2 (fun _ y => absurd y h2)
        have g2 : decide ((k : Int) < (b.size : Int)) = false := by simp; omega
        clear HC
        go_wp2
        go_quiet (fail)
        go_wp2_with (go_at_call 116; refine (rank_any _ _ _ (by assumption) (by assumption)).mono ?_; rintro e w' ⟨rfl, rfl⟩)
        go_ret
        exact ⟨ret_int HN.out.symm, _, rfl⟩
    · have HN : Hid (cmp a.data.toList b.data.toList = rkAt a k - rkAt b k) := by show _ = _; rw [← HC.out]; exact cmp_stop a b k hk1 hk2 (fun x _ => absurd x h1)
      have g1 : decide ((k : Int) < (a.size : Int)) = false := by simp; omega
      clear HC
      go_wp2
      go_quiet (fail)
      go_wp2_with (go_at_call 116; refine (rank_any _ _ _ (by assumption) (by assumption)).mono ?_; rintro e w' ⟨rfl, rfl⟩)
      go_ret
      exact ⟨ret_int HN.out.symm, _, rfl⟩

theorem empty_of {d : ByteArray} (h : d.data.toList = []) : d.toList.isEmpty = true := by rw [Lib.toList_data, h]; rfl
theorem empty_not {d : ByteArray} (h : ¬ d.data.toList = []) : d.toList.isEmpty = false := by
  rw [Lib.toList_data]
  cases hh : d.data.toList with
  | nil => exact absurd hh h
  | cons _ _ => rfl
theorem isEmpty_not {l : List UInt8} (h : ¬ l = []) : l.isEmpty = false := by
  cases l with
  | nil => exact absurd rfl h
  | cons _ _ => rfl
theorem data_append (a b : ByteArray) : (a ++ b).data.toList = a.data.toList ++ b.data.toList := by simp
theorem join_any (d n : ByteArray) (w : World) (hl : d.size + n.size ≤ 1000000000) :
    Calls Tryz.prog 238 #[.string d, .string n] w fun e w' => (∃ r : ByteArray, e = .returned (.string r) ∧ r.data.toList = joinL d.data.toList n.data.toList) ∧ w' = w := by
  by_cases h : d.data.toList = []
  · have h1 := empty_of h
    have HJ : Hid (joinL d.data.toList n.data.toList = n.data.toList) := by show _ = _; rw [joinL, h]; rfl
    clear h
    go_enter Tryz.func238, Tryz.ntmps238
    go_wp2
    go_ret
    exact ⟨⟨_, rfl, HJ.out.symm⟩, rfl⟩
  · have h1 := empty_not h
    have HJ : Hid (joinL d.data.toList n.data.toList = d.data.toList ++ 47 :: n.data.toList) := by show _ = _; rw [joinL, isEmpty_not h]; rfl
    clear h
    go_enter Tryz.func238, Tryz.ntmps238
    go_wp2
    go_ret
    exact ⟨⟨_, rfl, by rw [HJ.out, data_append, data_append]; simp⟩, rfl⟩

theorem cut_any (s : ByteArray) (w : World) (hs : s.size < 4611686018427387904) :
    Calls Tryz.prog 73 #[.string s] w fun e w' => (∃ d n : ByteArray, e = .returned (.tuple #[.string d, .string n]) ∧ d.data.toList = (cutL s.data.toList).1 ∧ n.data.toList = (cutL s.data.toList).2) ∧ ∃ n, w' = w.drewN n := by
  rcases last_cases s with h | ⟨i, h⟩
  · have HC : Hid (cutL s.data.toList = ([], s.data.toList)) := cutL_none s h
    go_enter Tryz.func73, Tryz.ntmps73
    go_wp2_with (go_at_call 115; refine (Tryz.strings_LastIndexByte _ _ hs _).mono ?_; rintro e w' ⟨rfl, rfl⟩)
    go_ret2
    exact ⟨⟨_, _, rfl, by rw [HC.out], by rw [HC.out]⟩, 0, rfl⟩
  · have HC : Hid (cutL s.data.toList = (s.data.toList.take i, s.data.toList.drop (i + 1))) := cutL_some s i h
    have hi := (last_some s i h).1
    go_enter Tryz.func73, Tryz.ntmps73
    go_wp2_with (go_at_call 115; refine (Tryz.strings_LastIndexByte _ _ hs _).mono ?_; rintro e w' ⟨rfl, rfl⟩)
    go_quiet (fail)
    go_wp2
    go_ret2
    exact ⟨⟨_, _, rfl, by rw [HC.out, Lib.extract_from_zero], by rw [HC.out, Lib.extract_to_end]⟩, _, rfl⟩

/-! Under -/
theorem take_is (s d : ByteArray) (h : d.size ≤ s.size) : ((s.extract 0 d.size).toList == d.toList) = decide (s.data.toList.take d.size = d.data.toList) := by
  rw [Lib.toList_data, Lib.toList_data, Lib.extract_from_zero, Bool.eq_iff_iff]; simp
theorem under_short (s d : ByteArray) (hd : ¬ d.data.toList = []) (h : s.size ≤ d.size) : under s.data.toList d.data.toList = false := by
  cases hu : under s.data.toList d.data.toList with
  | false => rfl
  | true =>
    obtain ⟨r, e⟩ := (under_iff _ _ hd).1 hu
    have := congrArg List.length e
    rw [szl, List.length_append, szl, List.length_cons] at this
    omega
theorem under_long (s d : ByteArray) (hd : ¬ d.data.toList = []) (h : d.size < s.size) : under s.data.toList d.data.toList = (decide (s[d.size] = 47) && decide (s.data.toList.take d.size = d.data.toList)) := by
  rw [Bool.eq_iff_iff, under_iff _ _ hd, Bool.and_eq_true, decide_eq_true_eq, decide_eq_true_eq]
  have hg := drop_get s d.size h
  constructor
  · rintro ⟨r, e⟩
    have ht : s.data.toList.take d.size = d.data.toList := by rw [e, ← szl d, List.take_left']; rfl
    have hdr : s.data.toList.drop d.size = 47 :: r := by rw [e, ← szl d, List.drop_left']; rfl
    rw [hdr] at hg
    exact ⟨(List.cons.inj hg).1.symm, ht⟩
  · rintro ⟨h1, h2⟩
    refine ⟨s.data.toList.drop (d.size + 1), ?_⟩
    conv => lhs; rw [← List.take_append_drop d.size s.data.toList, h2, hg, h1]
theorem under_any (s d : ByteArray) (w : World) (hs : s.size ≤ maxLen) (hd : d.size ≤ maxLen) :
    Calls Tryz.prog 54 #[.string s, .string d] w fun e w' => e = .returned (.bool (under s.data.toList d.data.toList)) ∧ w' = w := by
  unfold maxLen at hs hd
  by_cases h : d.data.toList = []
  · have h1 := empty_of h
    have HJ : Hid (under s.data.toList d.data.toList = !s.toList.isEmpty) := by show _ = _; rw [under, h, Lib.toList_data]; rfl
    clear h
    go_enter Tryz.func54, Tryz.ntmps54
    go_wp2
    go_ret
    exact ⟨ret_bool HJ.out.symm, rfl⟩
  · have h1 := empty_not h
    by_cases h2 : d.size < s.size
    · have HU : Hid (under s.data.toList d.data.toList = (decide (s[d.size] = 47) && decide (s.data.toList.take d.size = d.data.toList))) := under_long s d h h2
      have HT : Hid (((s.extract 0 d.size).toList == d.toList) = decide (s.data.toList.take d.size = d.data.toList)) := take_is s d (by omega)
      have g2 : (d.size : Int) < (s.size : Int) := by omega
      clear h
      by_cases h3 : s[d.size] = 47
      · have H3 : Hid (s[d.size] = 47) := h3
        have h4 : ((s[d.size].toNat : Int) == 47) = true := by rw [h3]; rfl
        clear h3
        go_enter Tryz.func54, Tryz.ntmps54
        go_wp2
        go_ret
        exact ⟨ret_bool (by rw [HU.out, HT.out]; simp [H3.out]), rfl⟩
      · have H3 : Hid (¬ s[d.size] = 47) := h3
        have h4 : ((s[d.size].toNat : Int) == 47) = false := byte_eq h3
        clear h3
        go_enter Tryz.func54, Tryz.ntmps54
        go_wp2
        go_ret
        exact ⟨ret_bool (by rw [HU.out]; simp [H3.out]), rfl⟩
    · have HU : Hid (under s.data.toList d.data.toList = false) := under_short s d h (by omega)
      have g2 : ¬ (d.size : Int) < (s.size : Int) := by omega
      clear h
      go_enter Tryz.func54, Tryz.ntmps54
      go_wp2
      go_ret
      exact ⟨ret_bool (by rw [HU.out]), rfl⟩
end Go.Proofs.YtampldoimpfjgabGreatDoor
