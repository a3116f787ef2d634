/-
  What package path's functions that make no memory answer: ofName, Named, rank, Compare, Under, Cut, Join.
-/
import Derived.Test.YtampldoimpfjgaaGreatDoorGA
import Derived.Test.YtampldoimpfjgaaGreatDoorShelf
import Derived.WalkKit
import Derived.WalkLawsBesides
import Derived.WalkSpells
import Derived.Outline
import Derived.Deep.QuietTactic
import Derived.BigQuiet
import Derived.Shelf.Strings.PiecesUse
import Derived.Lib.ConvBytes
namespace Go.Proofs.YtampldoimpfjgaaGreatDoor
open Go.RowKit PM
set_option linter.unusedVariables false

theorem ofName_any (c : UInt8) (w : World) : Calls Tryz.prog 90 #[.int .u8 (c.toNat : Int)] w fun e w' => e = .returned (.bool (okB c)) ∧ w' = w := by
  have e1 : okB c = decide (97 ≤ (c.toNat : Int) ∧ (c.toNat : Int) ≤ 122 ∨ 48 ≤ (c.toNat : Int) ∧ (c.toNat : Int) ≤ 57) := by
    rw [Bool.eq_iff_iff]; simp [okB, UInt8.le_iff_toNat_le]; omega
  have hc := c.toNat_lt
  by_cases h1 : 97 ≤ (c.toNat : Int) <;> by_cases h2 : (c.toNat : Int) ≤ 122 <;> by_cases h3 : 48 ≤ (c.toNat : Int) <;> by_cases h4 : (c.toNat : Int) ≤ 57 <;>
  first
  | omega
  | (have e2 : Hid (okB c = decide (97 ≤ (c.toNat : Int) ∧ (c.toNat : Int) ≤ 122 ∨ 48 ≤ (c.toNat : Int) ∧ (c.toNat : Int) ≤ 57)) := e1
     clear e1
     go_enter Tryz.func90, Tryz.ntmps90
     go_wp2
     go_ret
     refine ⟨?_, rfl⟩
     rw [e2.out]
     simp [*])

theorem rank_end (s : ByteArray) (w : World) (hs : s.size ≤ maxLen) : Calls Tryz.prog 111 #[.string s, .int .i64 s.size] w fun e w' => e = .returned (.int .i64 0) ∧ w' = w := by
  go_enter Tryz.func111, Tryz.ntmps111
  go_wp2
  go_ret
  exact ⟨rfl, rfl⟩
theorem ret_int {k : IntKind} {a b : Int} (h : a = b) : Ending.returned (.int k a) = .returned (.int k b) := by rw [h]
theorem ret_bool {a b : Bool} (h : a = b) : Ending.returned (.bool a) = .returned (.bool b) := by rw [h]
theorem rank_at (s : ByteArray) (i : Nat) (w : World) (hs : s.size ≤ maxLen) (hi : i < s.size) : Calls Tryz.prog 111 #[.string s, .int .i64 i] w fun e w' => e = .returned (.int .i64 (rk s[i])) ∧ w' = w := by
  unfold maxLen at hs
  have hc := (s[i]).toNat_lt
  by_cases h : s[i] = 47
  · have H : Hid (rk s[i] = 1) := by show _ = _; simp [rk, h]
    have h1 : ((s[i].toNat : Int) == 47) = true := by rw [h]; rfl
    clear h
    go_enter Tryz.func111, Tryz.ntmps111
    go_wp2
    go_ret
    exact ⟨ret_int H.out.symm, rfl⟩
  · have H : Hid (rk s[i] = 2 + (s[i].toNat : Int)) := by show _ = _; simp [rk, h]
    have h1 : ((s[i].toNat : Int) == 47) = false := by
      simp only [beq_eq_false_iff_ne, ne_eq]
      intro e
      exact h (UInt8.toNat_inj.1 (by have : (47 : UInt8).toNat = 47 := rfl; omega))
    clear h
    go_enter Tryz.func111, Tryz.ntmps111
    go_wp2
    go_ret
    exact ⟨ret_int H.out.symm, rfl⟩

def rkAt (s : ByteArray) (i : Nat) : Int := if h : i < s.size then rk s[i] else 0
theorem rkAt_bd (s : ByteArray) (i : Nat) : 0 ≤ rkAt s i ∧ rkAt s i ≤ 257 := by
  unfold rkAt; split
  · have := rk_pos (s[i]'(by assumption)); omega
  · omega
theorem rank_any (s : ByteArray) (i : Nat) (w : World) (hs : s.size ≤ maxLen) (hi : i ≤ s.size) : Calls Tryz.prog 111 #[.string s, .int .i64 i] w fun e w' => e = .returned (.int .i64 (rkAt s i)) ∧ w' = w := by
  by_cases h : i < s.size
  · rw [rkAt, dif_pos h]; exact rank_at s i w hs h
  · obtain rfl : i = s.size := by omega
    rw [rkAt, dif_neg h]; exact rank_end s w hs

theorem drop_get (s : ByteArray) (i : Nat) (h : i < s.size) : s.data.toList.drop i = s[i] :: s.data.toList.drop (i + 1) := by
  rw [List.drop_eq_getElem_cons (by rw [szl]; exact h), Array.getElem_toList]; rfl
theorem cmp_step (a b : ByteArray) (i : Nat) (h1 : i < a.size) (h2 : i < b.size) (h : a[i] = b[i]) : cmp (a.data.toList.drop i) (b.data.toList.drop i) = cmp (a.data.toList.drop (i + 1)) (b.data.toList.drop (i + 1)) := by
  rw [drop_get a i h1, drop_get b i h2, cmp, if_pos h]
/-- Where the two part, or one ends. -/
theorem cmp_stop (a b : ByteArray) (i : Nat) (h1 : i ≤ a.size) (h2 : i ≤ b.size) (h : ∀ (x : i < a.size) (y : i < b.size), ¬ a[i] = b[i]) : cmp (a.data.toList.drop i) (b.data.toList.drop i) = rkAt a i - rkAt b i := by
  unfold rkAt
  by_cases x : i < a.size <;> by_cases y : i < b.size
  · rw [drop_get a i x, drop_get b i y, cmp, if_neg (h x y), dif_pos x, dif_pos y]
  · rw [drop_get a i x, List.drop_of_length_le (l := b.data.toList) (by rw [szl]; omega), cmp, dif_pos x, dif_neg y]; omega
  · rw [drop_get b i y, List.drop_of_length_le (l := a.data.toList) (by rw [szl]; omega), cmp, dif_neg x, dif_pos y]
  · rw [List.drop_of_length_le (by rw [szl]; omega), List.drop_of_length_le (l := b.data.toList) (by rw [szl]; omega), cmp, dif_neg x, dif_neg y]; rfl
theorem byte_eq {x y : UInt8} (h : ¬ x = y) : ((x.toNat : Int) == (y.toNat : Int)) = false := by
  simp only [beq_eq_false_iff_ne, ne_eq]
  intro e
  exact h (UInt8.toNat_inj.1 (by omega))

set_option maxHeartbeats 1000000 in
theorem compare_any (a b : ByteArray) (w : World) (ha : a.size ≤ maxLen) (hb : b.size ≤ maxLen) :
    Calls Tryz.prog 93 #[.string a, .string b] w fun e w' => e = .returned (.int .i64 (cmp a.data.toList b.data.toList)) ∧ ∃ n, w' = w.drewN n := by
  have ha' := ha
  have hb' := hb
  unfold maxLen at ha hb
  go_enter Tryz.func93, Tryz.ntmps93
  go_wp2
  go_loopw [5] (fun i wr => ∃ k : Nat, k ≤ a.size ∧ k ≤ b.size ∧ i = .int .i64 k ∧ Hid (cmp (a.data.toList.drop k) (b.data.toList.drop k) = cmp a.data.toList b.data.toList) ∧ ∃ n, wr = w.drewN n) (fun i _ => a.size - (intOf i).toNat)
  case atStart => exact ⟨0, Nat.zero_le _, Nat.zero_le _, rfl, rfl, 0, rfl⟩
  case round =>
    obtain ⟨k, hk1, hk2, rfl, HC, n, rfl⟩ := hrel
    have hra := rkAt_bd a k
    have hrb := rkAt_bd b k
    by_cases h1 : k < a.size
    · have g1 : (k : Int) < (a.size : Int) := by omega
      by_cases h2 : k < b.size
      · have g2 : (k : Int) < (b.size : Int) := by omega
        by_cases h3 : a[k] = b[k]
        · have HS := cmp_step a b k h1 h2 h3
          have HN : Hid (cmp (a.data.toList.drop (k + 1)) (b.data.toList.drop (k + 1)) = cmp a.data.toList b.data.toList) := by show _ = _; rw [← HS]; exact HC.out
          have h4 : ((a[k].toNat : Int) == (b[k].toNat : Int)) = true := by rw [h3]; simp
          clear h3 HS HC hra hrb
          go_wp2
          go_quiet (fail)
          go_wp2
          exact ⟨⟨k + 1, by omega, by omega, by go_num, HN, _, rfl⟩, by simp [intOf]; omega⟩
        · have HN : Hid (cmp a.data.toList b.data.toList = rkAt a k - rkAt b k) := by show _ = _; rw [← HC.out]; exact cmp_stop a b k hk1 hk2 (fun _ _ => h3)
          have h4 : ((a[k].toNat : Int) == (b[k].toNat : Int)) = false := byte_eq h3
          clear h3 HC
          go_wp2
          go_quiet (fail)
          go_wp2_with (go_at_call 111; refine (rank_any _ _ _ (by assumption) (by assumption)).mono ?_; rintro e w' ⟨rfl, rfl⟩)
          go_ret
          exact ⟨ret_int HN.out.symm, _, rfl⟩
      · have HN : Hid (cmp a.data.toList b.data.toList = rkAt a k - rkAt b k) := by show _ = _; rw [← HC.out]; exact cmp_stop a b k hk1 hk2 (fun _ y => absurd y h2)
        have g2 : decide ((k : Int) < (b.size : Int)) = false := by simp; omega
        clear HC
        go_wp2
        go_quiet (fail)
        go_wp2_with (go_at_call 111; refine (rank_any _ _ _ (by assumption) (by assumption)).mono ?_; rintro e w' ⟨rfl, rfl⟩)
        go_ret
        exact ⟨ret_int HN.out.symm, _, rfl⟩
    · have HN : Hid (cmp a.data.toList b.data.toList = rkAt a k - rkAt b k) := by show _ = _; rw [← HC.out]; exact cmp_stop a b k hk1 hk2 (fun x _ => absurd x h1)
      have g1 : decide ((k : Int) < (a.size : Int)) = false := by simp; omega
      clear HC
      go_wp2
      go_quiet (fail)
      go_wp2_with (go_at_call 111; refine (rank_any _ _ _ (by assumption) (by assumption)).mono ?_; rintro e w' ⟨rfl, rfl⟩)
      go_ret
      exact ⟨ret_int HN.out.symm, _, rfl⟩

theorem empty_of {d : ByteArray} (h : d.data.toList = []) : d.toList.isEmpty = true := by rw [Lib.toList_data, h]; rfl
theorem empty_not {d : ByteArray} (h : ¬ d.data.toList = []) : d.toList.isEmpty = false := by
  rw [Lib.toList_data]
  cases hh : d.data.toList with
  | nil => exact absurd hh h
  | cons _ _ => rfl
theorem isEmpty_not {l : List UInt8} (h : ¬ l = []) : l.isEmpty = false := by
  cases l with
  | nil => exact absurd rfl h
  | cons _ _ => rfl
theorem data_append (a b : ByteArray) : (a ++ b).data.toList = a.data.toList ++ b.data.toList := by simp
theorem cut_any (s : ByteArray) (w : World) (hs : s.size < 4611686018427387904) :
    Calls Tryz.prog 69 #[.string s] w fun e w' => (∃ d n : ByteArray, e = .returned (.tuple #[.string d, .string n]) ∧ d.data.toList = (cutL s.data.toList).1 ∧ n.data.toList = (cutL s.data.toList).2) ∧ ∃ n, w' = w.drewN n := by
  rcases last_cases s with h | ⟨i, h⟩
  · have HC : Hid (cutL s.data.toList = ([], s.data.toList)) := cutL_none s h
    go_enter Tryz.func69, Tryz.ntmps69
    go_wp2_with (go_at_call 98; refine (Tryz.strings_LastIndexByte _ _ hs _).mono ?_; rintro e w' ⟨rfl, rfl⟩)
    go_ret2
    exact ⟨⟨_, _, rfl, by rw [HC.out], by rw [HC.out]⟩, 0, rfl⟩
  · have HC : Hid (cutL s.data.toList = (s.data.toList.take i, s.data.toList.drop (i + 1))) := cutL_some s i h
    have hi := (last_some s i h).1
    go_enter Tryz.func69, Tryz.ntmps69
    go_wp2_with (go_at_call 98; refine (Tryz.strings_LastIndexByte _ _ hs _).mono ?_; rintro e w' ⟨rfl, rfl⟩)
    go_quiet (fail)
    go_wp2
    go_ret2
    exact ⟨⟨_, _, rfl, by rw [HC.out, Lib.extract_from_zero], by rw [HC.out, Lib.extract_to_end]⟩, _, rfl⟩

/-! Under -/
theorem take_is (s d : ByteArray) (h : d.size ≤ s.size) : ((s.extract 0 d.size).toList == d.toList) = decide (s.data.toList.take d.size = d.data.toList) := by
  rw [Lib.toList_data, Lib.toList_data, Lib.extract_from_zero, Bool.eq_iff_iff]; simp
theorem under_short (s d : ByteArray) (hd : ¬ d.data.toList = []) (h : s.size ≤ d.size) : under s.data.toList d.data.toList = false := by
  cases hu : under s.data.toList d.data.toList with
  | false => rfl
  | true =>
    obtain ⟨r, e⟩ := (under_iff _ _ hd).1 hu
    have := congrArg List.length e
    rw [szl, List.length_append, szl, List.length_cons] at this
    omega
theorem under_long (s d : ByteArray) (hd : ¬ d.data.toList = []) (h : d.size < s.size) : under s.data.toList d.data.toList = (decide (s[d.size] = 47) && decide (s.data.toList.take d.size = d.data.toList)) := by
  rw [Bool.eq_iff_iff, under_iff _ _ hd, Bool.and_eq_true, decide_eq_true_eq, decide_eq_true_eq]
  have hg := drop_get s d.size h
  constructor
  · rintro ⟨r, e⟩
    have ht : s.data.toList.take d.size = d.data.toList := by rw [e, ← szl d, List.take_left']; rfl
    have hdr : s.data.toList.drop d.size = 47 :: r := by rw [e, ← szl d, List.drop_left']; rfl
    rw [hdr] at hg
    exact ⟨(List.cons.inj hg).1.symm, ht⟩
  · rintro ⟨h1, h2⟩
    refine ⟨s.data.toList.drop (d.size + 1), ?_⟩
    conv => lhs; rw [← List.take_append_drop d.size s.data.toList, h2, hg, h1]
theorem under_any (s d : ByteArray) (w : World) (hs : s.size ≤ maxLen) (hd : d.size ≤ maxLen) :
    Calls Tryz.prog 83 #[.string s, .string d] w fun e w' => e = .returned (.bool (under s.data.toList d.data.toList)) ∧ w' = w := by
  unfold maxLen at hs hd
  by_cases h : d.data.toList = []
  · have h1 := empty_of h
    have HJ : Hid (under s.data.toList d.data.toList = !s.toList.isEmpty) := by show _ = _; rw [under, h, Lib.toList_data]; rfl
    clear h
    go_enter Tryz.func83, Tryz.ntmps83
    go_wp2
    go_ret
    exact ⟨ret_bool HJ.out.symm, rfl⟩
  · have h1 := empty_not h
    by_cases h2 : d.size < s.size
    · have HU : Hid (under s.data.toList d.data.toList = (decide (s[d.size] = 47) && decide (s.data.toList.take d.size = d.data.toList))) := under_long s d h h2
      have HT : Hid (((s.extract 0 d.size).toList == d.toList) = decide (s.data.toList.take d.size = d.data.toList)) := take_is s d (by omega)
      have g2 : (d.size : Int) < (s.size : Int) := by omega
      clear h
      by_cases h3 : s[d.size] = 47
      · have H3 : Hid (s[d.size] = 47) := h3
        have h4 : ((s[d.size].toNat : Int) == 47) = true := by rw [h3]; rfl
        clear h3
        go_enter Tryz.func83, Tryz.ntmps83
        go_wp2
        go_ret
        exact ⟨ret_bool (by rw [HU.out, HT.out]; simp [H3.out]), rfl⟩
      · have H3 : Hid (¬ s[d.size] = 47) := h3
        have h4 : ((s[d.size].toNat : Int) == 47) = false := byte_eq h3
        clear h3
        go_enter Tryz.func83, Tryz.ntmps83
        go_wp2
        go_ret
        exact ⟨ret_bool (by rw [HU.out]; simp [H3.out]), rfl⟩
    · have HU : Hid (under s.data.toList d.data.toList = false) := under_short s d h (by omega)
      have g2 : ¬ (d.size : Int) < (s.size : Int) := by omega
      clear h
      go_enter Tryz.func83, Tryz.ntmps83
      go_wp2
      go_ret
      exact ⟨ret_bool (by rw [HU.out]), rfl⟩
end Go.Proofs.YtampldoimpfjgaaGreatDoor
namespace Go.Proofs.YtampldoimpfjgaaGreatDoor
open Go.RowKit PM
set_option linter.unusedVariables false

theorem named_iff (l : List UInt8) : named l = true ↔ l ≠ [] ∧ l.length ≤ 12 ∧ ∀ c ∈ l, okB c = true := by
  simp [named, List.all_eq_true, and_assoc]
theorem all_snoc (s : ByteArray) (k : Nat) (h : k < s.size) (ha : ∀ c ∈ s.data.toList.take k, okB c = true) (hc : okB s[k] = true) : ∀ c ∈ s.data.toList.take (k + 1), okB c = true := by
  have e : s.data.toList.take (k + 1) = s.data.toList.take k ++ [s[k]] := by
    rw [List.take_succ_eq_append_getElem (by rw [szl]; exact h), Array.getElem_toList]; rfl
  rw [e]
  intro c hm
  rcases List.mem_append.1 hm with hm | hm
  · exact ha c hm
  · simp at hm; rw [hm]; exact hc
theorem not_named_at (s : ByteArray) (k : Nat) (h : k < s.size) (hc : okB s[k] = false) : named s.data.toList = false := by
  cases hn : named s.data.toList with
  | false => rfl
  | true =>
    have := ((named_iff _).1 hn).2.2 s[k] (by
      have hm := List.getElem_mem (l := s.data.toList) (n := k) (by rw [szl]; exact h)
      rwa [Array.getElem_toList] at hm)
    rw [hc] at this; cases this
set_option maxHeartbeats 400000 in
theorem named_any (s : ByteArray) (w : World) (hs : s.size ≤ maxLen) :
    Calls Tryz.prog 55 #[.string s] w fun e w' => e = .returned (.bool (named s.data.toList)) ∧ w' = w := by
  unfold maxLen at hs
  by_cases h : s.data.toList = []
  · have h1 := empty_of h
    have HN : Hid (named s.data.toList = false) := by show _ = _; rw [h]; rfl
    clear h
    go_enter Tryz.func55, Tryz.ntmps55
    go_wp2
    go_ret
    exact ⟨ret_bool HN.out.symm, rfl⟩
  · have h1 := empty_not h
    by_cases h2 : s.size ≤ 12
    · have HE : Hid (s.data.toList ≠ []) := h
      have g2 : ¬ (12 : Int) < (s.size : Int) := by omega
      clear h
      go_enter Tryz.func55, Tryz.ntmps55
      go_wp2
      go_loop [13] (fun i => ∃ k : Nat, k ≤ s.size ∧ i = .int .i64 k ∧ Hid (∀ c ∈ s.data.toList.take k, okB c = true)) (fun i => s.size - (intOf i).toNat)
      case atStart => exact ⟨0, Nat.zero_le _, rfl, by intro c hc; simp at hc⟩
      case round =>
        obtain ⟨k, hk, rfl, HA⟩ := hrel
        by_cases hlt : k < s.size
        · have hlt' : (k : Int) < (s.size : Int) := by omega
          cases hc : okB s[k] with
          | true =>
            have HN : Hid (∀ c ∈ s.data.toList.take (k + 1), okB c = true) := all_snoc s k hlt HA.out hc
            clear HA
            go_wp2_with (go_at_call 90; refine (ofName_any _ _).mono ?_; rintro e w' ⟨rfl, rfl⟩)
            go_round
            case rel => exact ⟨k + 1, by omega, by go_num, HN⟩
            case measure => simp [intOf]; omega
          | false =>
            have HN : Hid (named s.data.toList = false) := not_named_at s k hlt hc
            clear HA
            go_wp2_with (go_at_call 90; refine (ofName_any _ _).mono ?_; rintro e w' ⟨rfl, rfl⟩)
            go_ret
            exact ⟨ret_bool HN.out.symm, rfl⟩
        · have HN : Hid (named s.data.toList = true) := (named_iff _).2 ⟨HE.out, by rw [szl]; omega, fun c hc => HA.out c (by rw [List.take_of_length_le (by rw [szl]; omega)]; exact hc)⟩
          have hlt' : ¬ (k : Int) < (s.size : Int) := by omega
          clear HA
          go_wp2
          go_ret
          exact ⟨ret_bool HN.out.symm, rfl⟩
    · have HN : Hid (named s.data.toList = false) := by
        show _ = _
        cases hn : named s.data.toList with
        | false => rfl
        | true => have := ((named_iff _).1 hn).2.1; rw [szl] at this; omega
      have g2 : (12 : Int) < (s.size : Int) := by omega
      clear h
      go_enter Tryz.func55, Tryz.ntmps55
      go_wp2
      go_ret
      exact ⟨ret_bool HN.out.symm, rfl⟩

/-! Clean -/
theorem clean_iff (l : List UInt8) : clean l = true ↔ l.length ≤ 80 ∧ ∀ p ∈ parts l, named p = true := by
  simp [clean, List.all_eq_true]
theorem cell_lt {w : World} {a : Addr} {v : Value} (h : w.cell? a = some v) : a.block < w.heap.size := World.block_lt_of_cell? w a h
/-- The library's pieces of a text: what their list, read as lists of bytes, is. -/
theorem pieces_at (s : ByteArray) {k : Nat} {p : ByteArray} {Ps : List ByteArray} (hP : Ps.map (·.data.toList) = parts s.data.toList) (h : Ps[k]? = some p) : p.data.toList ∈ parts s.data.toList ∧ p.size ≤ s.size := by
  have hm : p.data.toList ∈ parts s.data.toList := by rw [← hP]; exact List.mem_map_of_mem (List.mem_of_getElem? h)
  refine ⟨hm, ?_⟩
  have := parts_mem hm
  rwa [szl, szl] at this
theorem take_snoc {L : List (List UInt8)} {k : Nat} {p : List UInt8} (h : L[k]? = some p) (ha : ∀ q ∈ L.take k, named q = true) (hp : named p = true) : ∀ q ∈ L.take (k + 1), named q = true := by
  rw [List.take_add_one, h]
  intro q hq
  rcases List.mem_append.1 hq with hq | hq
  · exact ha q hq
  · simp at hq; rw [hq]; exact hp
set_option maxHeartbeats 1000000 in
theorem clean_any (s : ByteArray) (m : Int) (w : World) (hs : s.size ≤ maxLen) (hm : w.cell? ⟨0, 0, none⟩ = some (.int .i64 m)) :
    Calls Tryz.prog 22 #[.string s] w fun e w' => e = .returned (.bool (clean s.data.toList)) ∧ Below w.heap.size w w' := by
  unfold maxLen at hs
  by_cases h : s.size ≤ 80
  · have g : ¬ (80 : Int) < (s.size : Int) := by omega
    have cS := Tryz.strings_Split s ⟨#[47]⟩ m w (by omega) hm (by decide)
    have hP := split_parts s
    have hn := split_len s
    have hcnt : Lib.countB s ⟨#[47]⟩ ≤ s.size := Lib.countB_le ⟨#[47]⟩ (by decide) s.size s (Nat.le_refl _)
    generalize Lib.splitB ⟨#[47]⟩ 0 (Lib.countB s ⟨#[47]⟩) s = Ps at *
    generalize Lib.countB s ⟨#[47]⟩ = cn at *
    have HP : Hid (Ps.map (·.data.toList) = parts s.data.toList) := hP
    clear hP
    go_enter Tryz.func22, Tryz.ntmps22
    go_wp2_with (go_at_call 54; refine cS.mono ?_; rintro e w' ⟨rfl, hw⟩; rw [hw])
    clear cS
    go_loop [11] (fun i => ∃ k : Nat, k ≤ cn + 1 ∧ i = .int .i64 k ∧ Hid (∀ p ∈ (parts s.data.toList).take k, named p = true)) (fun i => cn + 1 - (intOf i).toNat)
    case atStart => exact ⟨0, Nat.zero_le _, rfl, by intro c hc; simp at hc⟩
    case round =>
      obtain ⟨k, hk, rfl, HA⟩ := hrel
      by_cases hlt : k < cn + 1
      · have hlt' : (k : Int) < (cn : Int) + 1 := by omega
        obtain ⟨p, hp⟩ : ∃ p, Ps[k]? = some p := ⟨_, List.getElem?_eq_getElem (by omega)⟩
        have hcell : (w.alloc (.cells (Ps.map Value.string).toArray 9)).cell? ⟨w.heap.size, k, none⟩ = some (.string p) := Lib.pieces_cell_at w Ps 9 k p hp
        have hps := (pieces_at s HP.out hp).2
        have hp80 : p.size ≤ maxLen := by unfold maxLen; omega
        have HPk : Hid ((parts s.data.toList)[k]? = some p.data.toList) := by show _ = _; rw [← HP.out, List.getElem?_map, hp]; rfl
        clear hp
        go_wp2_with (go_at_call 55; refine (named_any _ _ (by assumption)).mono ?_; rintro e w' ⟨rfl, rfl⟩)
        · have hno : named p.data.toList = false := by simpa using (by assumption : (!named p.data.toList) = true)
          have HN : Hid (clean s.data.toList = false) := by
            show _ = _
            cases hc : clean s.data.toList with
            | false => rfl
            | true => rw [((clean_iff _).1 hc).2 _ (List.mem_of_getElem? HPk.out)] at hno; cases hno
          go_ret
          exact ⟨ret_bool HN.out.symm, (Below.refl _ _).alloc (Nat.le_refl _) _⟩
        · have hyes : named p.data.toList = true := by simpa using (by assumption : (!named p.data.toList) = false)
          exact ⟨⟨k + 1, by omega, by go_num, take_snoc HPk.out HA.out hyes⟩, by simp [intOf]; omega⟩
      · have hlt' : ¬ (k : Int) < (cn : Int) + 1 := by omega
        have HN : Hid (clean s.data.toList = true) := (clean_iff _).2 ⟨by rw [szl]; exact h, fun p hp => HA.out p (by
          rw [List.take_of_length_le (by rw [← HP.out, List.length_map]; omega)]; exact hp)⟩
        clear HA
        go_wp2
        go_ret
        exact ⟨ret_bool HN.out.symm, (Below.refl _ _).alloc (Nat.le_refl _) _⟩
  · have g : (80 : Int) < (s.size : Int) := by omega
    have HN : Hid (clean s.data.toList = false) := by
      show _ = _
      cases hc : clean s.data.toList with
      | false => rfl
      | true => have := ((clean_iff _).1 hc).1; rw [szl] at this; omega
    go_enter Tryz.func22, Tryz.ntmps22
    go_wp2
    go_ret
    exact ⟨ret_bool HN.out.symm, Below.refl _ _⟩
end Go.Proofs.YtampldoimpfjgaaGreatDoor
namespace Go.Proofs.YtampldoimpfjgaaGreatDoor
open Go.RowKit PM
set_option linter.unusedVariables false

namespace PM
def skip (p : List UInt8) : Bool := p.isEmpty || p == [46]
def bad (p : List UInt8) : Bool := !(p == [46, 46]) && !named p
def parseP : List (List UInt8) → Option (List (List UInt8))
  | [] => some []
  | p :: r => if skip p then parseP r else if bad p then none else (parseP r).map (p :: ·)
/-- The names along a path, and what is wrong with it. -/
def parseL (l : List UInt8) : List (List UInt8) × Int :=
  if 80 < l.length then ([], 4) else if l.isEmpty then ([], 6) else match parseP (parts l) with
    | none => ([], 7)
    | some x => (x, 0)
theorem parseP_skip {L : List (List UInt8)} {k : Nat} {p : List UInt8} {d : List (List UInt8)} {r : Option (List (List UInt8))} (hp : L[k]? = some p) (h : r = (parseP (L.drop k)).map (d ++ ·)) (hs : skip p = true) : r = (parseP (L.drop (k + 1))).map (d ++ ·) := by
  obtain ⟨hk, rfl⟩ := List.getElem?_eq_some_iff.1 hp
  rw [h, List.drop_eq_getElem_cons hk, parseP, if_pos hs]
theorem parseP_bad {L : List (List UInt8)} {k : Nat} {p : List UInt8} {d : List (List UInt8)} {r : Option (List (List UInt8))} (hp : L[k]? = some p) (h : r = (parseP (L.drop k)).map (d ++ ·)) (hs : skip p = false) (hb : bad p = true) : r = none := by
  obtain ⟨hk, rfl⟩ := List.getElem?_eq_some_iff.1 hp
  rw [h, List.drop_eq_getElem_cons hk, parseP, if_neg (by simp [hs]), if_pos hb]; rfl
theorem parseP_good {L : List (List UInt8)} {k : Nat} {p : List UInt8} {d : List (List UInt8)} {r : Option (List (List UInt8))} (hp : L[k]? = some p) (h : r = (parseP (L.drop k)).map (d ++ ·)) (hs : skip p = false) (hb : bad p = false) : r = (parseP (L.drop (k + 1))).map (d ++ [p] ++ ·) := by
  obtain ⟨hk, rfl⟩ := List.getElem?_eq_some_iff.1 hp
  rw [h, List.drop_eq_getElem_cons hk, parseP, if_neg (by simp [hs]), if_neg (by simp [hb])]
  cases parseP (L.drop (k + 1)) <;> simp
end PM

/-- The slice v holds the strings bs, in memory of the call's own from 'base' on. -/
def Strs (w : World) (base : Nat) (v : Value) (bs : List ByteArray) : Prop := w.ownsRow base 9 1 v bs.length (bs.map Value.string)
theorem Strs.nil (w : World) (base : Nat) : Strs w base (.slice none 0 0) [] := World.ownsRow_nil _ _ _ _
theorem Strs.mono {w : World} {base base' : Nat} {v : Value} {bs : List ByteArray} (h : Strs w base v bs) (hb : base' ≤ base) : Strs w base' v bs := by
  refine ⟨h.1, h.2.imp id ?_⟩
  rintro ⟨g, cap, cur, e, hg, r⟩
  exact ⟨g, cap, cur, e, Nat.le_trans hb hg, r⟩
theorem Strs.below {w w' : World} {base : Nat} {v : Value} {bs : List ByteArray} (h : Strs w base v bs) (hb : Below w.heap.size w w') : Strs w' base v bs := by
  refine ⟨h.1, h.2.imp id ?_⟩
  rintro ⟨g, cap, cur, e, hg, hh, r⟩
  have hlt : g < w.heap.size := by
    rcases Nat.lt_or_ge g w.heap.size with h' | h'
    · exact h'
    · rw [Array.getElem?_eq_none h'] at hh; cases hh
  exact ⟨g, cap, cur, e, hg, by rw [hb.block g hlt]; exact hh, r⟩
theorem Strs.of_row {w : World} {base : Nat} {v : Value} {bs : List ByteArray} (h : w.ownsRow base 9 1 v bs.length (bs.map Value.string)) : Strs w base v bs := h

theorem info9 : ∃ i0, Tryz.prog.info? 9 = some i0 ∧ i0.zero = some (.string ByteArray.empty) ∧ i0.size = 1 ∧ i0.bytes = 16 := by
  have h : (Tryz.prog.info? 9).map (fun i => (i.zero, i.size, i.bytes)) = some (some (.string ByteArray.empty), 1, 16) := by kernel_rfl
  cases hi : Tryz.prog.info? 9 with
  | none => rw [hi] at h; cases h
  | some i0 =>
    rw [hi] at h
    simp only [Option.map_some, Option.some.injEq, Prod.mk.injEq] at h
    exact ⟨i0, rfl, h.1, h.2.1, h.2.2⟩

theorem beq_lit (p : ByteArray) (l : List UInt8) (b : Bool) (h : (p.data.toList == l) = b) : (p.toList == l) = b := by
  rw [Lib.toList_data]; exact h
theorem eq_lit (p : ByteArray) (l : List UInt8) (h : (p.data.toList == l) = true) : p.toList = l := by
  rw [Lib.toList_data]; simpa using h
theorem ne_lit (p : ByteArray) (l : List UInt8) (h : (p.data.toList == l) = false) : ¬ p.toList = l := by
  rw [Lib.toList_data]; simpa using h
theorem skip_no {p : List UInt8} (h : skip p = false) : ¬ p = [] ∧ (p == [46]) = false := by
  simp only [skip, Bool.or_eq_false_iff] at h
  refine ⟨?_, h.2⟩
  rintro rfl
  simp at h
theorem skip_yes {p : List UInt8} (h : skip p = true) (h0 : ¬ p = []) : (p == [46]) = true := by
  simp only [skip, Bool.or_eq_true] at h
  rcases h with h | h
  · exact absurd (List.isEmpty_iff.1 h) h0
  · exact h
theorem bad_yes {p : List UInt8} (h : bad p = true) : (p == [46, 46]) = false ∧ named p = false := by
  simpa only [bad, Bool.and_eq_true, Bool.not_eq_true'] using h
theorem bad_no {p : List UInt8} (h : bad p = false) : (p == [46, 46]) = true ∨ (p == [46, 46]) = false ∧ named p = true := by
  cases h1 : (p == [46, 46]) with
  | true => exact .inl rfl
  | false => rw [bad, h1] at h; exact .inr ⟨rfl, by simpa using h⟩

/-- What a call that answers a list of names and a number leaves. -/
def ParsePost (w : World) (l : List (List UInt8)) (n : Int) (e : Ending) (w' : World) : Prop :=
  (∃ v bs, e = .returned (.tuple #[v, .int .i64 n]) ∧ Strs w' w.heap.size v bs ∧ bs.map (·.data.toList) = l) ∧ Below w.heap.size w w'
theorem ParsePost.mk {w w' : World} {l l' : List (List UInt8)} {n n' : Int} {v : Value} {bs : List ByteArray} {P : List (List UInt8) × Int} (hP : P = (l', n')) (hn : P.2 = n) (hl : P.1 = l) (h : Strs w' w.heap.size v bs) (he : bs.map (·.data.toList) = l') (hB : Below w.heap.size w w') :
    ParsePost w l n (.returned (.tuple #[v, .int .i64 n'])) w' := by
  subst hP; subst hn; subst hl
  exact ⟨⟨v, bs, rfl, h, he⟩, hB⟩
end Go.Proofs.YtampldoimpfjgaaGreatDoor
namespace Go.Proofs.YtampldoimpfjgaaGreatDoor
open Go.RowKit PM
set_option linter.unusedVariables false

theorem Strs.form {w : World} {base : Nat} {v : Value} {bs : List ByteArray} (h : Strs w base v bs) : ∃ a c, v = .slice a bs.length c := by
  rcases h.2 with ⟨rfl, hn⟩ | ⟨g, cap, cur, rfl, _⟩
  · rw [hn]; exact ⟨_, _, rfl⟩
  · exact ⟨_, _, rfl⟩
theorem below_draws {w w' : World} (h : ∃ n, w' = w.drewN n) : Below w.heap.size w w' := by
  obtain ⟨n, rfl⟩ := h
  exact below_drewN (Below.refl _ _) n
theorem cut_lit (w : World) : Calls Tryz.prog 69 #[.string ⟨#[97, 47, 98]⟩] w fun e w' => e = .returned (.tuple #[.string ⟨#[97]⟩, .string ⟨#[98]⟩]) ∧ Below w.heap.size w w' := by
  refine (cut_any ⟨#[97, 47, 98]⟩ w (by decide)).mono ?_
  rintro e w' ⟨⟨d, n, rfl, h1, h2⟩, hw⟩
  obtain rfl : d = ⟨#[97]⟩ := bytes_ext (by rw [h1]; decide)
  obtain rfl : n = ⟨#[98]⟩ := bytes_ext (by rw [h2]; decide)
  exact ⟨rfl, below_draws hw⟩
theorem under_lit (w : World) : Calls Tryz.prog 83 #[.string ⟨#[97, 47, 98]⟩, .string ⟨#[97]⟩] w fun e w' => e = .returned (.bool true) ∧ Below w.heap.size w w' := by
  refine (under_any ⟨#[97, 47, 98]⟩ ⟨#[97]⟩ w (by decide) (by decide)).mono ?_
  rintro e w' ⟨rfl, rfl⟩
  exact ⟨ret_bool (by decide), Below.refl _ _⟩
theorem clean_lit (m : Int) (w : World) (hm : w.cell? ⟨0, 0, none⟩ = some (.int .i64 m)) : Calls Tryz.prog 22 #[.string ⟨#[97, 47, 98]⟩] w fun e w' => e = .returned (.bool true) ∧ Below w.heap.size w w' := by
  refine (clean_any ⟨#[97, 47, 98]⟩ m w (by decide) hm).mono ?_
  rintro e w' ⟨rfl, hB⟩
  exact ⟨ret_bool (by decide), hB⟩
theorem compare_lit (w : World) : Calls Tryz.prog 93 #[.string ⟨#[97, 47, 98]⟩, .string ⟨#[97, 98]⟩] w fun e w' => e = .returned (.int .i64 (-99)) ∧ Below w.heap.size w w' := by
  refine (compare_any ⟨#[97, 47, 98]⟩ ⟨#[97, 98]⟩ w (by decide) (by decide)).mono ?_
  rintro e w' ⟨rfl, hw⟩
  exact ⟨ret_int (by decide), below_draws hw⟩
theorem held {w w' : World} {m : Int} (hB : Below w.heap.size w w') (hm : w.cell? ⟨0, 0, none⟩ = some (.int .i64 m)) : w'.cell? ⟨0, 0, none⟩ = some (.int .i64 m) := by
  rw [hB.cell (p := ⟨0, 0, none⟩) (cell_lt hm)]; exact hm
theorem Below.onto {w w' w'' : World} (h : Below w.heap.size w w') (k : Below w'.heap.size w' w'') : Below w.heap.size w w'' := h.trans (k.mono h.size)

end Go.Proofs.YtampldoimpfjgaaGreatDoor
namespace Go.Proofs.YtampldoimpfjgaaGreatDoor
open Go.RowKit PM
set_option linter.unusedVariables false

theorem refUnder_any (s d : ByteArray) (w : World) (hs : s.size ≤ maxLen) (hd : d.size ≤ maxLen) :
    Calls Tryz.prog 46 #[.string s, .string d] w fun e w' => e = .returned (.bool (under s.data.toList d.data.toList)) ∧ w' = w := by
  unfold maxLen at hs hd
  by_cases h : d.data.toList = []
  · have h1 := empty_of h
    have HJ : Hid (under s.data.toList d.data.toList = !s.toList.isEmpty) := by show _ = _; rw [under, h, Lib.toList_data]; rfl
    clear h
    go_enter Tryz.func46, Tryz.ntmps46
    go_wp2
    go_ret
    exact ⟨ret_bool HJ.out.symm, rfl⟩
  · have h1 := empty_not h
    by_cases h2 : d.size < s.size
    · have HU : Hid (under s.data.toList d.data.toList = (decide (s[d.size] = 47) && decide (s.data.toList.take d.size = d.data.toList))) := under_long s d h h2
      have hT : ((s.extract 0 d.size).toList == d.toList) = decide (s.data.toList.take d.size = d.data.toList) := take_is s d (by omega)
      have g2 : (d.size : Int) < (s.size : Int) := by omega
      clear h
      by_cases h3 : s.data.toList.take d.size = d.data.toList
      · have H3 : Hid (s.data.toList.take d.size = d.data.toList) := h3
        have h4 : ((s.extract 0 d.size).toList == d.toList) = true := by rw [hT]; simpa using h3
        have HE : Hid (((s[d.size].toNat : Int) == 47) = decide (s[d.size] = 47)) := by
          show _ = _
          by_cases e : s[d.size] = 47
          · rw [e]; rfl
          · exact (show _ = false from byte_eq (y := 47) e).trans (by simp [e])
        clear h3 hT
        go_enter Tryz.func46, Tryz.ntmps46
        go_wp2
        go_ret
        exact ⟨ret_bool (by rw [HU.out, HE.out]; simp [H3.out]), rfl⟩
      · have H3 : Hid (¬ s.data.toList.take d.size = d.data.toList) := h3
        have h4 : ((s.extract 0 d.size).toList == d.toList) = false := by rw [hT]; simpa using h3
        clear h3 hT
        go_enter Tryz.func46, Tryz.ntmps46
        go_wp2
        go_ret
        exact ⟨ret_bool (by rw [HU.out]; simp [H3.out]), rfl⟩
    · have HU : Hid (under s.data.toList d.data.toList = false) := under_short s d h (by omega)
      have g2 : ¬ (d.size : Int) < (s.size : Int) := by omega
      clear h
      go_enter Tryz.func46, Tryz.ntmps46
      go_wp2
      go_ret
      exact ⟨ret_bool (by rw [HU.out]), rfl⟩

/-! Named -/
theorem below_bytes (w : World) (e : TypeId) (s : ByteArray) : Below w.heap.size w (Lib.bytesWorld w e s) :=
  ⟨rfl, rfl, rfl, by rw [Lib.bytesWorld_size]; omega, fun k hk => Lib.bytesWorld_at_old w e s k hk⟩
theorem okB_iff (c : UInt8) : okB c = true ↔ (97 ≤ (c.toNat : Int) ∧ (c.toNat : Int) ≤ 122) ∨ (48 ≤ (c.toNat : Int) ∧ (c.toNat : Int) ≤ 57) := by
  simp [okB, UInt8.le_iff_toNat_le]; omega
theorem getD_get (s : ByteArray) (k : Nat) (h : k < s.size) : s.data.toList.getD k 0 = s[k] := by
  rw [List.getD_eq_getElem?_getD, List.getElem?_eq_getElem (by rw [szl]; exact h), Array.getElem_toList]; rfl
set_option maxHeartbeats 2000000 in
theorem refNamed_any (s : ByteArray) (w : World) (hs : s.size ≤ maxLen) :
    Calls Tryz.prog 60 #[.string s] w fun e w' => e = .returned (.bool (named s.data.toList)) ∧ Below w.heap.size w w' := by
  unfold maxLen at hs
  have hcv := Lib.run_convert_string_bytes (P := Tryz.prog) w 9 102 5 s (u := .string) Tryz.underlying9 Tryz.underlying102 Tryz.underlying5
  have hB := below_bytes w 5 s
  have hcell := fun j hj => Lib.bytesWorld_cell w 5 s j hj
  generalize Lib.bytesWorld w 5 s = W1 at *
  generalize grownCap w s.size 0 5 = cap at *
  have HC : Hid (∀ j, j < s.size → W1.cell? ⟨w.heap.size, j, none⟩ = some (.int .u8 (s.data.toList.getD j 0).toNat)) := hcell
  clear hcell
  go_enter Tryz.func60, Tryz.ntmps60
  go_wp2
  clear hcv
  go_loop [8] (fun i => ∃ k : Nat, k ≤ s.size ∧ i = .int .i64 k ∧ Hid (∀ c ∈ s.data.toList.take k, okB c = true)) (fun i => s.size - (intOf i).toNat)
  case atStart => exact ⟨0, Nat.zero_le _, rfl, by intro c hc; simp at hc⟩
  case round =>
    obtain ⟨k, hk, rfl, HA⟩ := hrel
    by_cases hlt : k < s.size
    · have hlt' : (k : Int) < (s.size : Int) := by omega
      have hc : W1.cell? ⟨w.heap.size, k, none⟩ = some (.int .u8 (s[k].toNat : Int)) := by rw [← getD_get s k hlt]; exact HC.out k hlt
      have hb := (s[k]).toNat_lt
      cases ho : okB s[k] with
      | true =>
        have HN : Hid (∀ c ∈ s.data.toList.take (k + 1), okB c = true) := all_snoc s k hlt HA.out ho
        have ho' := (okB_iff _).1 ho
        clear HA ho
        rcases ho' with ⟨g1, g2⟩ | ⟨g1, g2⟩
        · go_wp2
          exact ⟨⟨k + 1, by omega, by go_num, HN⟩, by simp [intOf]; omega⟩
        · have g3 : ¬ 97 ≤ (s[k].toNat : Int) := by omega
          go_wp2
          exact ⟨⟨k + 1, by omega, by go_num, HN⟩, by simp [intOf]; omega⟩
      | false =>
        have HN : Hid (named s.data.toList = false) := not_named_at s k hlt ho
        have ho' : ¬ ((97 ≤ (s[k].toNat : Int) ∧ (s[k].toNat : Int) ≤ 122) ∨ (48 ≤ (s[k].toNat : Int) ∧ (s[k].toNat : Int) ≤ 57)) := fun e => by rw [(okB_iff _).2 e] at ho; cases ho
        clear HA ho
        by_cases g1 : 97 ≤ (s[k].toNat : Int)
        · have g2 : ¬ (s[k].toNat : Int) ≤ 122 := by omega
          have g3 : ¬ (s[k].toNat : Int) ≤ 57 := by omega
          clear ho'
          go_wp2
          go_ret
          exact ⟨ret_bool HN.out.symm, hB⟩
        · by_cases g2 : 48 ≤ (s[k].toNat : Int)
          · have g3 : ¬ (s[k].toNat : Int) ≤ 57 := by omega
            clear ho'
            go_wp2
            go_ret
            exact ⟨ret_bool HN.out.symm, hB⟩
          · clear ho'
            go_wp2
            go_ret
            exact ⟨ret_bool HN.out.symm, hB⟩
    · have hlt' : ¬ (k : Int) < (s.size : Int) := by omega
      have HN : Hid (named s.data.toList = (decide (1 ≤ (s.size : Int)) && decide ((s.size : Int) ≤ 12))) := by
        show _ = _
        rw [Bool.eq_iff_iff, named_iff, Bool.and_eq_true, decide_eq_true_eq, decide_eq_true_eq, szl]
        constructor
        · rintro ⟨a, b, _⟩
          refine ⟨?_, by omega⟩
          have : s.data.toList.length ≠ 0 := fun e => a (List.length_eq_zero_iff.1 e)
          rw [szl] at this; omega
        · rintro ⟨a, b⟩
          refine ⟨fun e => ?_, by omega, fun c hc => HA.out c (by rw [List.take_of_length_le (by rw [szl]; omega)]; exact hc)⟩
          have : s.size = 0 := by rw [← szl, e]; rfl
          omega
      clear HA
      by_cases g1 : 1 ≤ (s.size : Int)
      · have HG : Hid (decide (1 ≤ (s.size : Int)) = true) := by show _ = _; simpa using g1
        go_wp2
        go_ret
        exact ⟨ret_bool (by rw [HN.out, HG.out]; simp), hB⟩
      · have HG : Hid (decide (1 ≤ (s.size : Int)) = false) := by show _ = _; simpa using g1
        go_wp2
        go_ret
        exact ⟨ret_bool (by rw [HN.out, HG.out]; simp), hB⟩

/-! Cut -/
set_option maxHeartbeats 2000000 in
theorem refCut_any (s : ByteArray) (w : World) (hs : s.size < 4611686018427387904) :
    Calls Tryz.prog 53 #[.string s] w fun e w' => (∃ d n : ByteArray, e = .returned (.tuple #[.string d, .string n]) ∧ d.data.toList = (cutL s.data.toList).1 ∧ n.data.toList = (cutL s.data.toList).2) ∧ ∃ n, w' = w.drewN n := by
  go_enter Tryz.func53, Tryz.ntmps53
  go_wp2
  go_loop [4] (fun i => ∃ k : Nat, k ≤ s.size ∧ i = .int .i64 ((k : Int) - 1) ∧ Hid (∀ c ∈ s.data.toList.drop k, c ≠ 47)) (fun i => (intOf i + 1).toNat)
  case atStart => exact ⟨s.size, Nat.le_refl _, rfl, by intro c hc; rw [List.drop_of_length_le (by rw [szl]; omega)] at hc; cases hc⟩
  case round =>
    obtain ⟨k, hk, rfl, HA⟩ := hrel
    cases k with
    | zero =>
      have HC : Hid (cutL s.data.toList = ([], s.data.toList)) := cutL_free _ (by simpa using HA.out)
      clear HA
      go_wp2
      go_ret2
      exact ⟨⟨_, _, rfl, by rw [HC.out], by rw [HC.out]⟩, 0, rfl⟩
    | succ j =>
      have hj : j < s.size := by omega
      have e : ((j + 1 : Nat) : Int) - 1 = (j : Int) := by omega
      rw [e]
      clear e
      have hg := drop_get s j hj
      by_cases h : s[j] = 47
      · have h4 : ((s[j].toNat : Int) == 47) = true := by rw [h]; rfl
        have HC : Hid (cutL s.data.toList = (s.data.toList.take j, s.data.toList.drop (j + 1))) := by
          show _ = _
          conv => lhs; rw [← List.take_append_drop j s.data.toList, hg, h]
          exact cutL_slash _ _ HA.out
        clear HA h hg
        go_wp2
        go_quiet (fail)
        go_wp2
        go_ret2
        exact ⟨⟨_, _, rfl, by rw [HC.out, Lib.extract_from_zero], by rw [HC.out, Lib.extract_to_end]⟩, _, rfl⟩
      · have h4 : ((s[j].toNat : Int) == 47) = false := byte_eq (y := 47) h
        have HN : Hid (∀ c ∈ s.data.toList.drop j, c ≠ 47) := by
          intro c hc
          rw [hg] at hc
          rcases List.mem_cons.1 hc with rfl | hc
          · exact h
          · exact HA.out c hc
        clear HA h hg
        go_wp2
        exact ⟨⟨j, by omega, by go_num, HN⟩, by simp [intOf]⟩
end Go.Proofs.YtampldoimpfjgaaGreatDoor
namespace Go.Proofs.YtampldoimpfjgaaGreatDoor
open Go.RowKit PM
set_option linter.unusedVariables false

/-- What a call that answers a list of strings leaves. -/
def ListPost (w : World) (l : List (List UInt8)) (e : Ending) (w' : World) : Prop :=
  (∃ v bs, e = .returned v ∧ Strs w' w.heap.size v bs ∧ bs.map (·.data.toList) = l) ∧ Below w.heap.size w w'

theorem pa_eat_slash (s : ByteArray) (cur : List UInt8) (k : Nat) (h : k < s.size) (hc : s[k] = 47) : pa cur (s.data.toList.drop k) = cur :: pa [] (s.data.toList.drop (k + 1)) := by
  rw [drop_get s k h, pa, if_pos hc]
theorem pa_eat (s : ByteArray) (cur : List UInt8) (k : Nat) (h : k < s.size) (hc : ¬ s[k] = 47) : pa cur (s.data.toList.drop k) = pa (cur ++ [s[k]]) (s.data.toList.drop (k + 1)) := by
  rw [drop_get s k h, pa, if_neg hc]
theorem extract_snoc (s : ByteArray) (a k : Nat) (ha : a ≤ k) (h : k < s.size) : (s.extract a (k + 1)).data.toList = (s.extract a k).data.toList ++ [s[k]] := by
  rw [Lib.extract_data, Lib.extract_data, show k + 1 - a = (k - a) + 1 by omega, List.take_add_one, List.getElem?_drop, show a + (k - a) = k by omega, List.getElem?_eq_getElem (by rw [szl]; exact h), Array.getElem_toList]
  rfl
theorem extract_same (s : ByteArray) (k : Nat) : (s.extract k k).data.toList = [] := by
  rw [Lib.extract_data]; simp
theorem grown_below {w wr w1 : World} {v : Value} {o : Obj} {B : Nat} {e : TypeId} {n : Nat} {xs : List Value} (hB : Below B w wr) (hb : B ≤ wr.heap.size) (hS : wr.ownsRow B e 1 v n xs) (hg : (wr.alloc o).grownBy w1 v.ownBlock) : Below B w w1 :=
  (hB.alloc hb _).grown hg (by simp; omega) (fun j hj => (hS.lt j hj).1)

set_option maxHeartbeats 4000000 in
theorem refSplit_any (s : ByteArray) (w : World) (hs : s.size ≤ 4294967296) :
    Calls Tryz.prog 59 #[.string s] w (ListPost w (parts s.data.toList)) := by
  obtain ⟨i0, hi, hz0, hz1, hz2⟩ := info9
  go_enter Tryz.func59, Tryz.ntmps59
  go_wp2
  go_loopw [3, 4, 8] (fun v at_ i wr => ∃ (k a : Nat) (bs : List ByteArray), k ≤ s.size ∧ a ≤ k ∧ i = .int .i64 k ∧ at_ = .int .i64 a ∧ bs.length ≤ k ∧ Strs wr w.heap.size v bs ∧ Below w.heap.size w wr ∧
      Hid (bs.map (·.data.toList) ++ pa (s.extract a k).data.toList (s.data.toList.drop k) = parts s.data.toList))
    (fun _ _ i _ => s.size - (intOf i).toNat)
  case atStart => exact ⟨0, 0, [], Nat.zero_le _, Nat.le_refl _, rfl, rfl, Nat.le_refl _, Strs.nil _ _, Below.refl _ _, by show _ = _; rw [extract_same]; simp [parts]⟩
  case round =>
    obtain ⟨k, a, bs, hk, hak, rfl, rfl, hbl, hS, hB, HI⟩ := hrel
    have hS' : wr.ownsRow w.heap.size 9 1 u3 bs.length (bs.map Value.string) := hS
    by_cases hlt : k < s.size
    · have hlt' : (k : Int) < (s.size : Int) := by omega
      have hak' : (a : Int) ≤ (k : Int) := by omega
      by_cases hc : s[k] = 47
      · have h4 : ((s[k].toNat : Int) == 47) = true := by rw [hc]; rfl
        have HN : Hid ((bs ++ [s.extract a k]).map (·.data.toList) ++ pa (s.extract (k + 1) (k + 1)).data.toList (s.data.toList.drop (k + 1)) = parts s.data.toList) := by
          show _ = _
          rw [← HI.out, pa_eat_slash s _ k hlt hc, extract_same]; simp
        clear HI hc hS
        go_wp2_with (at_builtin; refine wpList_append_own _ rfl _ _ 72 rfl w.heap.size 9 i0 (.string ByteArray.empty) 1 16 Tryz.underlying72 hi hz0 hz1 hz2 rfl (by decide) _ _ _ rfl (hS'.alloc _) ⟨wr.heap.size, 0, none⟩ 1 1 [.string (s.extract a k)] rfl rfl ?c1 ?c2 ?c3 ?c4 ?c5 ?_)
        case c1 => exact cell_one_new _ _ _
        case c2 => intro u hu; simp at hu; subst hu; rfl
        case c3 => unfold maxLen; omega
        case c4 => omega
        case c5 => have := hB.size; simp; omega
        · intro v' w1 hown hgrow _
          go_wp2
          have hB1 := grown_below hB hB.size hS' hgrow
          exact ⟨⟨k + 1, k + 1, bs ++ [s.extract a k], by omega, by omega, by go_num, by go_num, by simp; omega, by simpa [Strs] using hown, hB1, HN⟩, by simp [intOf]; omega⟩
      · have h4 : ((s[k].toNat : Int) == 47) = false := byte_eq (y := 47) hc
        have HN : Hid (bs.map (·.data.toList) ++ pa (s.extract a (k + 1)).data.toList (s.data.toList.drop (k + 1)) = parts s.data.toList) := by
          show _ = _
          rw [← HI.out, pa_eat s _ k hlt hc, extract_snoc s a k hak hlt]
        clear HI hc
        go_wp2
        exact ⟨⟨k + 1, a, bs, by omega, by omega, by go_num, rfl, by omega, hS, hB, HN⟩, by simp [intOf]; omega⟩
    · have hlt' : ¬ (k : Int) < (s.size : Int) := by omega
      obtain rfl : k = s.size := by omega
      have HN : Hid ((bs ++ [s.extract a s.size]).map (·.data.toList) = parts s.data.toList) := by
        show _ = _
        rw [← HI.out, List.drop_of_length_le (by rw [szl]; omega), pa]; simp
      clear HI hS
      go_wp2_with (at_builtin; refine wpList_append_own _ rfl _ _ 72 rfl w.heap.size 9 i0 (.string ByteArray.empty) 1 16 Tryz.underlying72 hi hz0 hz1 hz2 rfl (by decide) _ _ _ rfl (hS'.alloc _) ⟨wr.heap.size, 0, none⟩ 1 1 [.string (s.extract a s.size)] rfl rfl ?c1 ?c2 ?c3 ?c4 ?c5 ?_)
      try (case c1 => exact cell_one_new _ _ _)
      case c2 => first | rfl | (intro u hu; simp at hu; subst hu; rfl)
      case c3 => unfold maxLen; omega
      case c4 => omega
      case c5 => have := hB.size; simp; omega
      · intro v' w1 hown hgrow _
        go_wp2
        go_ret
        have hB1 := grown_below hB hB.size hS' hgrow
        exact ⟨⟨_, bs ++ [s.extract a s.size], rfl, by simpa [Strs] using hown, HN.out⟩, hB1⟩
end Go.Proofs.YtampldoimpfjgaaGreatDoor
namespace Go.Proofs.YtampldoimpfjgaaGreatDoor.PM
open Go.RowKit

theorem bl_irrefl (x : List UInt8) : Op.bytesLess x x = false := by
  induction x with
  | nil => rfl
  | cons c x ih => simp [Op.bytesLess, ih]
/-- Lists of parts, part by part. -/
def lessP : List (List UInt8) → List (List UInt8) → Bool
  | [], [] => false
  | [], _ :: _ => true
  | _ :: _, [] => false
  | p :: x, q :: y => if p = q then lessP x y else Op.bytesLess p q
/-- What stands behind a part: nothing, or a slash. -/
def Tail (A : List UInt8) : Prop := A = [] ∨ ∃ r, A = 47 :: r
theorem rk_other {c : UInt8} (h : c ≠ 47) : rk c = 2 + (c.toNat : Int) := by rw [rk, if_neg h]
theorem cmp_parts : ∀ (x y A B : List UInt8), (∀ c ∈ x, c ≠ 47) → (∀ c ∈ y, c ≠ 47) → Tail A → Tail B → x ≠ y → decide (cmp (x ++ A) (y ++ B) < 0) = Op.bytesLess x y
  | [], [], _, _, _, _, _, _, h => absurd rfl h
  | [], d :: y, A, B, _, hy, hA, _, _ => by
    have hd := hy d (by simp)
    have := d.toNat_lt
    rcases hA with rfl | ⟨r, rfl⟩
    · have := rk_pos d
      simp [Op.bytesLess, cmp]; omega
    · have hd' : ¬ (47 : UInt8) = d := fun e => hd e.symm
      simp only [List.nil_append, List.cons_append, cmp, if_neg hd', rk_other hd, Op.bytesLess, decide_eq_true_eq]
      simp only [rk, if_true]; omega
  | c :: x, [], A, B, hx, _, _, hB, _ => by
    have hc := hx c (by simp)
    have := c.toNat_lt
    rcases hB with rfl | ⟨r, rfl⟩
    · have := rk_pos c
      simp [Op.bytesLess, cmp]; omega
    · simp only [List.nil_append, List.cons_append, cmp, if_neg hc, rk_other hc, Op.bytesLess, decide_eq_false_iff_not]
      simp only [rk, if_true]; omega
  | c :: x, d :: y, A, B, hx, hy, hA, hB, hne => by
    by_cases e : c = d
    · subst e
      have ih := cmp_parts x y A B (fun k hk => hx k (by simp [hk])) (fun k hk => hy k (by simp [hk])) hA hB (fun e => hne (by rw [e]))
      simp only [List.cons_append, cmp, if_true, Op.bytesLess]
      rw [ih]; simp
    · have hc := hx c (by simp)
      have hd := hy d (by simp)
      simp only [List.cons_append, cmp, if_neg e, Op.bytesLess, rk_other hc, rk_other hd]
      rw [Bool.eq_iff_iff]
      simp only [decide_eq_true_eq, Bool.or_eq_true, Bool.and_eq_true, beq_iff_eq, e, false_and, or_false, UInt8.lt_iff_toNat_lt]
      omega
theorem cmp_same : ∀ (x A B : List UInt8), cmp (x ++ A) (x ++ B) = cmp A B
  | [], _, _ => rfl
  | c :: x, A, B => by simp only [List.cons_append, cmp, if_true]; exact cmp_same x A B
theorem lessP_parts (a b : List UInt8) : lessP (parts a) (parts b) = decide (cmp a b < 0) := by
  have key : ∀ (n : Nat) (a b : List UInt8), a.length ≤ n → lessP (parts a) (parts b) = decide (cmp a b < 0) := by
    intro n
    induction n with
    | zero =>
      intro a b ha
      obtain rfl : a = [] := List.length_eq_zero_iff.1 (by omega)
      rw [parts_free [] (by simp)]
      rcases cases_slash b with hf | ⟨y, b', rfl, hy⟩
      · rw [parts_free b hf, lessP]
        split
        · rename_i e; rw [← e]; rfl
        · rename_i e
          have := cmp_parts [] b [] [] (by simp) hf (.inl rfl) (.inl rfl) e
          simpa using this.symm
      · rw [parts_slash y b' hy, lessP]
        split
        · rename_i e
          rw [← e]
          cases hp : parts b' with
          | nil => exact absurd hp (pa_ne b' [])
          | cons q r => simp [lessP, cmp, rk]
        · rename_i e
          have := cmp_parts [] y [] (47 :: b') (by simp) hy (.inl rfl) (.inr ⟨_, rfl⟩) e
          simpa using this.symm
    | succ n ih =>
      intro a b ha
      rcases cases_slash a with hf | ⟨x, a', rfl, hx⟩
      · rw [parts_free a hf]
        rcases cases_slash b with hg | ⟨y, b', rfl, hy⟩
        · rw [parts_free b hg, lessP]
          split
          · rename_i e; rw [← e, (cmp_zero a a).2 rfl]; rfl
          · rename_i e
            have := cmp_parts a b [] [] hf hg (.inl rfl) (.inl rfl) e
            simpa using this.symm
        · rw [parts_slash y b' hy, lessP]
          split
          · rename_i e
            have := cmp_under a b'
            subst e
            cases hp : parts b' with
            | nil => exact absurd hp (pa_ne b' [])
            | cons q r => simp [lessP, this]
          · rename_i e
            have := cmp_parts a y [] (47 :: b') hf hy (.inl rfl) (.inr ⟨_, rfl⟩) e
            simpa using this.symm
      · rw [parts_slash x a' hx]
        rcases cases_slash b with hg | ⟨y, b', rfl, hy⟩
        · rw [parts_free b hg, lessP]
          split
          · rename_i e
            have h1 := cmp_under x a'
            have h2 := cmp_anti (x ++ 47 :: a') x
            subst e
            cases hp : parts a' with
            | nil => exact absurd hp (pa_ne a' [])
            | cons q r => simp [lessP]; omega
          · rename_i e
            have := cmp_parts x b (47 :: a') [] hx hg (.inr ⟨_, rfl⟩) (.inl rfl) e
            simpa using this.symm
        · rw [parts_slash y b' hy, lessP]
          split
          · rename_i e
            subst e
            rw [ih a' b' (by simp at ha; omega), cmp_same]
            simp [cmp]
          · rename_i e
            have := cmp_parts x y (47 :: a') (47 :: b') hx hy (.inr ⟨_, rfl⟩) (.inr ⟨_, rfl⟩) e
            exact this.symm
  exact key a.length a b (Nat.le_refl _)
/-- From the k-th part on. -/
theorem lessP_at {X Y : List (List UInt8)} {k : Nat} {p q : List UInt8} (hp : X[k]? = some p) (hq : Y[k]? = some q) : lessP (X.drop k) (Y.drop k) = if p = q then lessP (X.drop (k + 1)) (Y.drop (k + 1)) else Op.bytesLess p q := by
  obtain ⟨h1, rfl⟩ := List.getElem?_eq_some_iff.1 hp
  obtain ⟨h2, rfl⟩ := List.getElem?_eq_some_iff.1 hq
  rw [List.drop_eq_getElem_cons h1, List.drop_eq_getElem_cons h2, lessP]
theorem lessP_short {X Y : List (List UInt8)} {k : Nat} (h1 : k < X.length) (h2 : Y.length ≤ k) : lessP (X.drop k) (Y.drop k) = false := by
  rw [List.drop_eq_getElem_cons h1, List.drop_of_length_le h2, lessP]
theorem lessP_end {X Y : List (List UInt8)} {k : Nat} (h1 : X.length = k) (h2 : k ≤ Y.length) : lessP (X.drop k) (Y.drop k) = decide ((X.length : Int) < (Y.length : Int)) := by
  rw [List.drop_of_length_le (by omega)]
  by_cases h : k < Y.length
  · rw [List.drop_eq_getElem_cons h, lessP]; simp; omega
  · rw [List.drop_of_length_le (by omega), lessP]; simp; omega
end Go.Proofs.YtampldoimpfjgaaGreatDoor.PM
namespace Go.Proofs.YtampldoimpfjgaaGreatDoor
open Go.RowKit PM
set_option linter.unusedVariables false

theorem Strs.opened {w : World} {base : Nat} {v : Value} {bs : List ByteArray} (h : Strs w base v bs) (hn : 0 < bs.length) :
    ∃ g cap, v = .slice (some ⟨g, 0, none⟩) bs.length cap ∧ base ≤ g ∧ g < w.heap.size ∧ ∀ (j : Nat) x, bs[j]? = some x → w.cell? ⟨g, j, none⟩ = some (.string x) := by
  rcases h.2 with ⟨_, h0⟩ | ⟨g, cap, cur, rfl, hg, hh, r1, r2, r3, r4⟩
  · omega
  · refine ⟨g, cap, rfl, hg, ?_, fun j x hx => ?_⟩
    · rcases Nat.lt_or_ge g w.heap.size with h' | h'
      · exact h'
      · rw [Array.getElem?_eq_none h'] at hh; cases hh
    · have := World.ownsRow.cells (w := w) h (g := g) rfl j (.string x) (by rw [List.getElem?_map, hx]; rfl)
      by_cases hj : j = 0
      · subst hj; simpa [Addr.add] using this
      · simpa [Addr.add, hj] using this
theorem parts_pos {l : List UInt8} {bs : List ByteArray} (h : bs.map (·.data.toList) = parts l) : 0 < bs.length := by
  rcases Nat.eq_zero_or_pos bs.length with h0 | h0
  · have := congrArg List.length h
    rw [List.length_map, h0] at this
    exact absurd (List.length_eq_zero_iff.1 this.symm) (pa_ne l [])
  · exact h0

set_option maxHeartbeats 4000000 in
theorem refClean_any (s : ByteArray) (w : World) (hs : s.size ≤ 4294967296) :
    Calls Tryz.prog 25 #[.string s] w fun e w' => e = .returned (.bool (clean s.data.toList)) ∧ Below w.heap.size w w' := by
  go_enter Tryz.func25, Tryz.ntmps25
  go_wp2_with (go_at_call 59; fail)
  refine (refSplit_any s w hs).mono ?_
  rintro e w1 ⟨⟨v, bs, rfl, hS, hP⟩, hB⟩
  obtain ⟨g, cap, rfl, hg1, hg2, hcells⟩ := hS.opened (parts_pos hP)
  have HP : Hid (bs.map (·.data.toList) = parts s.data.toList) := hP
  have HC : Hid (∀ (j : Nat) x, bs[j]? = some x → w1.cell? ⟨g, j, none⟩ = some (.string x)) := hcells
  have hbl : bs.length ≤ s.size + 1 := by
    have h1 := parts_length s.data.toList
    rw [← hP, List.length_map, szl] at h1; exact h1
  clear hP hcells hS
  go_wp2
  go_loopw [8] (fun i wr => ∃ k : Nat, k ≤ bs.length ∧ i = .int .i64 k ∧ Below w1.heap.size w1 wr ∧ Hid (∀ p ∈ (parts s.data.toList).take k, named p = true)) (fun i _ => bs.length - (intOf i).toNat)
  case atStart => exact ⟨0, Nat.zero_le _, rfl, Below.refl _ _, by intro c hc; simp at hc⟩
  case round =>
    obtain ⟨k, hk, rfl, hBr, HA⟩ := hrel
    by_cases hlt : k < bs.length
    · have hlt' : (k : Int) < (bs.length : Int) := by omega
      obtain ⟨p, hp⟩ : ∃ p, bs[k]? = some p := ⟨_, List.getElem?_eq_getElem hlt⟩
      have hcell : wr.cell? ⟨g, k, none⟩ = some (.string p) := (hBr.cell (p := ⟨g, k, none⟩) hg2).trans (HC.out k p hp)
      have hps := (pieces_at s HP.out hp).2
      have hpm : p.size ≤ maxLen := by unfold maxLen; omega
      have HPk : Hid ((parts s.data.toList)[k]? = some p.data.toList) := by show _ = _; rw [← HP.out, List.getElem?_map, hp]; rfl
      clear hp
      cases hn : named p.data.toList with
      | true =>
        have HN : Hid (∀ q ∈ (parts s.data.toList).take (k + 1), named q = true) := take_snoc HPk.out HA.out hn
        clear HA
        go_wp2_with (go_at_call 60; refine (refNamed_any _ _ (by assumption)).mono ?_; rintro e w2 ⟨rfl, hB2⟩)
        exact ⟨⟨k + 1, by omega, by go_num, Below.onto hBr hB2, HN⟩, by simp [intOf]; omega⟩
      | false =>
        have HN : Hid (clean s.data.toList = false) := by
          show _ = _
          cases hc : clean s.data.toList with
          | false => rfl
          | true => rw [((clean_iff _).1 hc).2 _ (List.mem_of_getElem? HPk.out)] at hn; cases hn
        clear HA
        go_wp2_with (go_at_call 60; refine (refNamed_any _ _ (by assumption)).mono ?_; rintro e w2 ⟨rfl, hB2⟩)
        go_ret
        exact ⟨ret_bool HN.out.symm, Below.onto hB (Below.onto hBr hB2)⟩
    · have hlt' : ¬ (k : Int) < (bs.length : Int) := by omega
      have HN : Hid (clean s.data.toList = decide ((s.size : Int) ≤ 80)) := by
        show _ = _
        rw [Bool.eq_iff_iff, clean_iff, decide_eq_true_eq, szl]
        constructor
        · rintro ⟨a, _⟩; omega
        · intro a
          exact ⟨by omega, fun p hp => HA.out p (by rw [List.take_of_length_le (by rw [← HP.out, List.length_map]; omega)]; exact hp)⟩
      clear HA
      go_wp2
      go_ret
      exact ⟨ret_bool HN.out.symm, Below.onto hB hBr⟩

set_option maxHeartbeats 4000000 in
theorem refLess_any (s t : ByteArray) (w : World) (hs : s.size ≤ 4294967296) (ht : t.size ≤ 4294967296) :
    Calls Tryz.prog 52 #[.string s, .string t] w fun e w' => e = .returned (.bool (decide (cmp s.data.toList t.data.toList < 0))) ∧ Below w.heap.size w w' := by
  rw [← lessP_parts]
  go_enter Tryz.func52, Tryz.ntmps52
  go_wp2_with (go_at_call 59; fail)
  refine (refSplit_any s w hs).mono ?_
  rintro e w1 ⟨⟨v, bs, rfl, hS, hP⟩, hB⟩
  obtain ⟨g, cap, rfl, hg1, hg2, hcells⟩ := hS.opened (parts_pos hP)
  have HP : Hid (bs.map (·.data.toList) = parts s.data.toList) := hP
  have HC : Hid (∀ (j : Nat) x, bs[j]? = some x → w1.cell? ⟨g, j, none⟩ = some (.string x)) := hcells
  have hbl : bs.length ≤ s.size + 1 := by
    have h1 := parts_length s.data.toList
    rw [← hP, List.length_map, szl] at h1; exact h1
  clear hP hcells hS
  go_wp2_with (go_at_call 59; fail)
  refine (refSplit_any t w1 ht).mono ?_
  rintro e w2 ⟨⟨v2, cs, rfl, hS, hP⟩, hB2⟩
  obtain ⟨g', cap', rfl, hg1', hg2', hcells⟩ := hS.opened (parts_pos hP)
  have HP2 : Hid (cs.map (·.data.toList) = parts t.data.toList) := hP
  have HC2 : Hid (∀ (j : Nat) x, cs[j]? = some x → w2.cell? ⟨g', j, none⟩ = some (.string x)) := hcells
  have HC1 : Hid (∀ (j : Nat) x, bs[j]? = some x → w2.cell? ⟨g, j, none⟩ = some (.string x)) := fun j x hx => (hB2.cell (p := ⟨g, j, none⟩) hg2).trans (HC.out j x hx)
  have hcl : cs.length ≤ t.size + 1 := by
    have h1 := parts_length t.data.toList
    rw [← hP, List.length_map, szl] at h1; exact h1
  have hBB := Below.onto hB hB2
  have HX : Hid ((parts s.data.toList).length = bs.length) := by show _ = _; rw [← HP.out, List.length_map]
  have HY : Hid ((parts t.data.toList).length = cs.length) := by show _ = _; rw [← HP2.out, List.length_map]
  clear hP hcells hS HC hB hB2
  go_wp2
  go_loopw [14] (fun i wr => ∃ k : Nat, k ≤ bs.length ∧ k ≤ cs.length ∧ i = .int .i64 k ∧ (∃ n, wr = w2.drewN n) ∧ Hid (lessP ((parts s.data.toList).drop k) ((parts t.data.toList).drop k) = lessP (parts s.data.toList) (parts t.data.toList))) (fun i _ => bs.length - (intOf i).toNat)
  case atStart => exact ⟨0, Nat.zero_le _, Nat.zero_le _, rfl, ⟨0, rfl⟩, rfl⟩
  case round =>
    obtain ⟨k, hk, hk2, rfl, ⟨n, rfl⟩, HA⟩ := hrel
    by_cases hlt : k < bs.length
    · have hlt' : (k : Int) < (bs.length : Int) := by omega
      obtain ⟨p, hp⟩ : ∃ p, bs[k]? = some p := ⟨_, List.getElem?_eq_getElem hlt⟩
      have hcell : w2.cell? ⟨g, k, none⟩ = some (.string p) := HC1.out k p hp
      have HPk : Hid ((parts s.data.toList)[k]? = some p.data.toList) := by show _ = _; rw [← HP.out, List.getElem?_map, hp]; rfl
      clear hp
      by_cases hlt2 : k < cs.length
      · have hge : decide ((cs.length : Int) ≤ (k : Int)) = false := by simp; omega
        have hlt2' : (k : Int) < (cs.length : Int) := by omega
        obtain ⟨q, hq⟩ : ∃ q, cs[k]? = some q := ⟨_, List.getElem?_eq_getElem hlt2⟩
        have hcell2 : w2.cell? ⟨g', k, none⟩ = some (.string q) := HC2.out k q hq
        have HQk : Hid ((parts t.data.toList)[k]? = some q.data.toList) := by show _ = _; rw [← HP2.out, List.getElem?_map, hq]; rfl
        clear hq
        have hat := lessP_at HPk.out HQk.out
        by_cases he : p.data.toList = q.data.toList
        · obtain rfl := bytes_ext he
          rw [if_pos rfl] at hat
          have HN : Hid (lessP ((parts s.data.toList).drop (k + 1)) ((parts t.data.toList).drop (k + 1)) = lessP (parts s.data.toList) (parts t.data.toList)) := by show _ = _; rw [← HA.out, hat]
          have hbl1 : Op.bytesLess p.toList p.toList = false := bl_irrefl _
          clear HA he hat
          go_wp2
          go_quiet (fail)
          go_wp2
          go_quiet (fail)
          go_wp2
          exact ⟨⟨k + 1, by omega, by omega, by go_num, ⟨_, rfl⟩, HN⟩, by simp [intOf]; omega⟩
        · rw [if_neg he] at hat
          have heq : (p.toList == q.toList) = false := by rw [Lib.toList_data, Lib.toList_data]; simpa using he
          cases hl : Op.bytesLess p.toList q.toList with
          | true =>
            have HN : Hid (lessP (parts s.data.toList) (parts t.data.toList) = true) := by show _ = _; rw [← HA.out, hat, ← Lib.toList_data, ← Lib.toList_data]; exact hl
            clear HA he hat
            go_wp2
            go_quiet (fail)
            go_wp2
            go_quiet (fail)
            go_wp2
            go_ret
            exact ⟨ret_bool HN.out.symm, by repeat (first | exact hBB | refine below_drewN ?_ _)⟩
          | false =>
            have HN : Hid (lessP (parts s.data.toList) (parts t.data.toList) = false) := by show _ = _; rw [← HA.out, hat, ← Lib.toList_data, ← Lib.toList_data]; exact hl
            clear HA he hat
            go_wp2
            go_quiet (fail)
            go_wp2
            go_ret
            exact ⟨ret_bool HN.out.symm, by repeat (first | exact hBB | refine below_drewN ?_ _)⟩
      · have hge : decide ((cs.length : Int) ≤ (k : Int)) = true := by simp; omega
        have hge' : (cs.length : Int) ≤ (k : Int) := by omega
        have HN : Hid (lessP (parts s.data.toList) (parts t.data.toList) = false) := by show _ = _; rw [← HA.out]; exact lessP_short (by rw [HX.out]; omega) (by rw [HY.out]; omega)
        clear HA
        go_wp2
        go_quiet (fail)
        go_wp2
        go_ret
        exact ⟨ret_bool HN.out.symm, by repeat (first | exact hBB | refine below_drewN ?_ _)⟩
    · have hlt' : ¬ (k : Int) < (bs.length : Int) := by omega
      have HN : Hid (lessP (parts s.data.toList) (parts t.data.toList) = decide (bs.length < cs.length)) := by
        show _ = _
        rw [← HA.out, ← HX.out, ← HY.out]
        rw [lessP_end (by rw [HX.out]; omega) (by rw [HY.out]; omega)]; simp
      clear HA
      go_wp2
      go_ret
      exact ⟨ret_bool HN.out.symm, by repeat (first | exact hBB | refine below_drewN ?_ _)⟩

/-! SameTexts -/
theorem Strs.len {w : World} {base : Nat} {v : Value} {bs : List ByteArray} (h : Strs w base v bs) : ∃ a c, v = .slice a bs.length c := h.form
end Go.Proofs.YtampldoimpfjgaaGreatDoor
