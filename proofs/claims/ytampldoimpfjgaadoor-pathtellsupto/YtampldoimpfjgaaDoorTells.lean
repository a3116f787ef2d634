/-
  The walk of the statement PathTells: it answers true, and writes nothing that was there.
-/
import Derived.Test.YtampldoimpfjgaaDoorRefWalks3
namespace Go.Proofs.YtampldoimpfjgaaDoor
open Go.RowKit PM
set_option linter.unusedVariables false

theorem map_inj {bs cs : List ByteArray} (h : bs.map (·.data.toList) = cs.map (·.data.toList)) : bs = cs :=
  (List.map_inj_right (fun _ _ e => bytes_ext e)).1 h
theorem parseP_len : ∀ (L : List (List UInt8)) (x : List (List UInt8)), parseP L = some x → x.length ≤ L.length
  | [], x, h => by simp [parseP] at h; subst h; simp
  | p :: r, x, h => by
    rw [parseP] at h
    split at h
    · have := parseP_len r x h; simp; omega
    · split at h
      · cases h
      · cases hr : parseP r with
        | none => rw [hr] at h; cases h
        | some y =>
          rw [hr] at h
          simp at h
          subst h
          have := parseP_len r y hr
          simp; omega
theorem parseL_len (l : List UInt8) : (parseL l).1.length ≤ l.length + 1 := by
  unfold parseL
  split
  · simp
  · split
    · simp
    · split
      · simp
      · rename_i x hx
        have h1 := parseP_len _ _ hx
        have h2 := parts_length l
        simp only []
        omega
theorem less_rev (s t : ByteArray) (w : World) (hs : s.size ≤ 4294967296) (ht : t.size ≤ 4294967296) :
    Calls Tryd.prog 24 #[.string t, .string s] w fun e w' => e = .returned (.bool (decide (0 < cmp s.data.toList t.data.toList))) ∧ Below w.heap.size w w' := by
  refine (refLess_any t s w ht hs).mono ?_
  rintro e w' ⟨rfl, hB⟩
  refine ⟨ret_bool ?_, hB⟩
  rw [cmp_anti t.data.toList s.data.toList, Bool.eq_iff_iff, decide_eq_true_eq, decide_eq_true_eq]
  omega
/-- What a call that answers a directory and a name leaves. -/
def CutPost (w : World) (l : List UInt8) (e : Ending) (w' : World) : Prop :=
  ∃ d n : ByteArray, e = .returned (.tuple #[.string d, .string n]) ∧ Hid (d.data.toList = (cutL l).1) ∧ Hid (n.data.toList = (cutL l).2) ∧ Below w.heap.size w w'
theorem cut_post (s : ByteArray) (w : World) (hs : s.size < 4611686018427387904) : Calls Tryd.prog 20 #[.string s] w (CutPost w s.data.toList) := by
  refine (cut_any s w hs).mono ?_
  rintro e w' ⟨⟨d, n, rfl, h1, h2⟩, hw⟩
  exact ⟨d, n, rfl, h1, h2, below_draws hw⟩
theorem refCut_post (s : ByteArray) (w : World) (hs : s.size < 4611686018427387904) : Calls Tryd.prog 21 #[.string s] w (CutPost w s.data.toList) := by
  refine (refCut_any s w hs).mono ?_
  rintro e w' ⟨⟨d, n, rfl, h1, h2⟩, hw⟩
  exact ⟨d, n, rfl, h1, h2, below_draws hw⟩
theorem join_nil (d n : ByteArray) (w : World) (h : d.data.toList = []) (hl : d.size + n.size ≤ 1000000000) :
    Calls Tryd.prog 22 #[.string d, .string n] w fun e w' => e = .returned (.string n) ∧ w' = w := by
  refine (join_any d n w hl).mono ?_
  rintro e w' ⟨⟨r, rfl, hr⟩, rfl⟩
  rw [joinL, h] at hr
  rw [bytes_ext hr]
  exact ⟨rfl, rfl⟩
theorem join_more (d n : ByteArray) (w : World) (h : ¬ d.data.toList = []) (hl : d.size + n.size ≤ 1000000000) :
    Calls Tryd.prog 22 #[.string d, .string n] w fun e w' => e = .returned (.string (d ++ ⟨#[47]⟩ ++ n)) ∧ w' = w := by
  refine (join_any d n w hl).mono ?_
  rintro e w' ⟨⟨r, rfl, hr⟩, rfl⟩
  have : r = d ++ ⟨#[47]⟩ ++ n := bytes_ext (by rw [hr, joinL, isEmpty_not h, data_append, data_append]; simp)
  rw [this]
  exact ⟨rfl, rfl⟩
theorem compare_post (s t : ByteArray) (w : World) (hs : s.size ≤ maxLen) (ht : t.size ≤ maxLen) : Calls Tryd.prog 23 #[.string s, .string t] w fun e w' => e = .returned (.int .i64 (cmp s.data.toList t.data.toList)) ∧ Below w.heap.size w w' :=
  (compare_any s t w hs ht).mono fun _ _ ⟨h1, h2⟩ => ⟨h1, below_draws h2⟩

set_option maxHeartbeats 4000000 in
theorem tells_walk (s t : ByteArray) (m : Int) (w : World) (hs : s.size ≤ 1048576) (ht : t.size ≤ 1048576) (hm : w.cell? ⟨0, 0, none⟩ = some (.int .i64 m)) :
    Calls Tryd.prog 3 #[.string s, .string t] w fun e w' => e = .returned (.bool true) ∧ Below w.heap.size w w' := by
  have hsm : s.size ≤ maxLen := by unfold maxLen; omega
  have htm : t.size ≤ maxLen := by unfold maxLen; omega
  have hs2 : s.size ≤ 4294967296 := by omega
  have ht2 : t.size ≤ 4294967296 := by omega
  have hs3 : s.size < 4611686018427387904 := by omega
  have hst : t.size + s.size ≤ 1000000000 := by omega
  have hB : Below w.heap.size w w := Below.refl _ _
  by_cases h0 : t.data.toList = []
  · have h0' := empty_of h0
    have H0 : Hid (t.data.toList = []) := h0
    clear h0
    go_enter Tryd.func3, Tryd.ntmps3
    go_wp2_with (first
      | (go_at_call 14; refine (named_any _ _ hsm).mono ?_; rintro e wx ⟨rfl, hwx⟩; subst wx)
      | (go_at_call 15; refine (refNamed_any _ _ hsm).mono ?_; rintro e w1 ⟨rfl, hN⟩; replace hB := Below.onto hB hN; clear hN)
      | (go_at_call 16; refine (clean_any _ m _ hsm (held hB hm)).mono ?_; rintro e w1 ⟨rfl, hN⟩; replace hB := Below.onto hB hN; clear hN)
      | (go_at_call 17; refine (refClean_any _ _ hs2).mono ?_; rintro e w1 ⟨rfl, hN⟩; replace hB := Below.onto hB hN; clear hN)
      | (go_at_call 18; refine (under_any _ _ _ hsm htm).mono ?_; rintro e wx ⟨rfl, hwx⟩; subst wx)
      | (go_at_call 19; refine (refUnder_any _ _ _ hsm htm).mono ?_; rintro e wx ⟨rfl, hwx⟩; subst wx)
      | (go_at_call 20; fail))
    refine (cut_post s _ hs3).mono ?_
    rintro e w2 ⟨d, n, rfl, Hd, Hn, hN⟩
    replace hB := Below.onto hB hN
    clear hN
    go_wp2_with (go_at_call 21; fail)
    refine (refCut_post s _ hs3).mono ?_
    rintro e w3 ⟨d', n', rfl, Hd', Hn', hN⟩
    replace hB := Below.onto hB hN
    clear hN
    obtain rfl : d = d' := bytes_ext (Hd.out.trans Hd'.out.symm)
    obtain rfl : n = n' := bytes_ext (Hn.out.trans Hn'.out.symm)
    clear Hd Hn Hd' Hn'
    go_wp2_with (first
      | (go_at_call 22; refine (join_nil t s _ H0.out hst).mono ?_; rintro e wx ⟨rfl, hwx⟩; subst wx)
      | (go_at_call 23; refine (compare_post s t _ hsm htm).mono ?_; rintro e w4 ⟨rfl, hN⟩; replace hB := Below.onto hB hN; clear hN)
      | (go_at_call 24; fail))
    refine (refLess_any s t _ hs2 ht2).mono ?_
    rintro e w5 ⟨rfl, hN⟩
    replace hB := Below.onto hB hN
    clear hN
    go_wp2_with (go_at_call 24; fail)
    refine (less_rev s t _ hs2 ht2).mono ?_
    rintro e w6 ⟨rfl, hN⟩
    replace hB := Below.onto hB hN
    clear hN
    go_wp2_with (go_at_call 25; fail)
    refine (parse_any s m _ hsm (held hB hm)).mono ?_
    rintro e w7 ⟨⟨v, bs, rfl, hS, hl⟩, hN⟩
    replace hB := Below.onto hB hN
    have HL : Hid (bs.map (·.data.toList) = (parseL s.data.toList).1) := hl
    clear hN hl
    go_wp2_with (go_at_call 26; fail)
    refine (refParse_any s _ hs2).mono ?_
    rintro e w8 ⟨⟨v', cs, rfl, hS2, hl⟩, hN⟩
    replace hB := Below.onto hB hN
    have hS1 := hS.below hN
    have he : bs = cs := map_inj (HL.out.trans hl.symm)
    have hlen : bs.length ≤ 4294967297 := by
      have h1 := parseL_len s.data.toList
      rw [← HL.out, List.length_map, szl] at h1
      omega
    clear hN hl HL hS
    go_wp2_with (go_at_call 27; fail)
    refine (sameTexts_any _ _ bs cs _ _ _ hS1 hS2 he hlen).mono ?_
    rintro e w9 ⟨rfl, hN⟩
    replace hB := Below.onto hB hN
    clear hN hS1 hS2 he
    go_wp2
    go_ret
    exact ⟨rfl, hB⟩
  · have h0' := empty_not h0
    have H0 : Hid (¬ t.data.toList = []) := h0
    clear h0
    go_enter Tryd.func3, Tryd.ntmps3
    go_wp2_with (first
      | (go_at_call 14; refine (named_any _ _ hsm).mono ?_; rintro e wx ⟨rfl, hwx⟩; subst wx)
      | (go_at_call 15; refine (refNamed_any _ _ hsm).mono ?_; rintro e w1 ⟨rfl, hN⟩; replace hB := Below.onto hB hN; clear hN)
      | (go_at_call 16; refine (clean_any _ m _ hsm (held hB hm)).mono ?_; rintro e w1 ⟨rfl, hN⟩; replace hB := Below.onto hB hN; clear hN)
      | (go_at_call 17; refine (refClean_any _ _ hs2).mono ?_; rintro e w1 ⟨rfl, hN⟩; replace hB := Below.onto hB hN; clear hN)
      | (go_at_call 18; refine (under_any _ _ _ hsm htm).mono ?_; rintro e wx ⟨rfl, hwx⟩; subst wx)
      | (go_at_call 19; refine (refUnder_any _ _ _ hsm htm).mono ?_; rintro e wx ⟨rfl, hwx⟩; subst wx)
      | (go_at_call 20; fail))
    refine (cut_post s _ hs3).mono ?_
    rintro e w2 ⟨d, n, rfl, Hd, Hn, hN⟩
    replace hB := Below.onto hB hN
    clear hN
    go_wp2_with (go_at_call 21; fail)
    refine (refCut_post s _ hs3).mono ?_
    rintro e w3 ⟨d', n', rfl, Hd', Hn', hN⟩
    replace hB := Below.onto hB hN
    clear hN
    obtain rfl : d = d' := bytes_ext (Hd.out.trans Hd'.out.symm)
    obtain rfl : n = n' := bytes_ext (Hn.out.trans Hn'.out.symm)
    clear Hd Hn Hd' Hn'
    go_wp2_with (first
      | (go_at_call 22; refine (join_more t s _ H0.out hst).mono ?_; rintro e wx ⟨rfl, hwx⟩; subst wx)
      | (go_at_call 23; refine (compare_post s t _ hsm htm).mono ?_; rintro e w4 ⟨rfl, hN⟩; replace hB := Below.onto hB hN; clear hN)
      | (go_at_call 24; fail))
    refine (refLess_any s t _ hs2 ht2).mono ?_
    rintro e w5 ⟨rfl, hN⟩
    replace hB := Below.onto hB hN
    clear hN
    go_wp2_with (go_at_call 24; fail)
    refine (less_rev s t _ hs2 ht2).mono ?_
    rintro e w6 ⟨rfl, hN⟩
    replace hB := Below.onto hB hN
    clear hN
    go_wp2_with (go_at_call 25; fail)
    refine (parse_any s m _ hsm (held hB hm)).mono ?_
    rintro e w7 ⟨⟨v, bs, rfl, hS, hl⟩, hN⟩
    replace hB := Below.onto hB hN
    have HL : Hid (bs.map (·.data.toList) = (parseL s.data.toList).1) := hl
    clear hN hl
    go_wp2_with (go_at_call 26; fail)
    refine (refParse_any s _ hs2).mono ?_
    rintro e w8 ⟨⟨v', cs, rfl, hS2, hl⟩, hN⟩
    replace hB := Below.onto hB hN
    have hS1 := hS.below hN
    have he : bs = cs := map_inj (HL.out.trans hl.symm)
    have hlen : bs.length ≤ 4294967297 := by
      have h1 := parseL_len s.data.toList
      rw [← HL.out, List.length_map, szl] at h1
      omega
    clear hN hl HL hS
    go_wp2_with (go_at_call 27; fail)
    refine (sameTexts_any _ _ bs cs _ _ _ hS1 hS2 he hlen).mono ?_
    rintro e w9 ⟨rfl, hN⟩
    replace hB := Below.onto hB hN
    clear hN hS1 hS2 he
    go_wp2
    go_ret
    exact ⟨rfl, hB⟩
end Go.Proofs.YtampldoimpfjgaaDoor
