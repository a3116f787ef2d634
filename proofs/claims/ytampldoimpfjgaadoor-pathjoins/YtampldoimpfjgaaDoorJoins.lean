/-
  The walk of the statement PathJoins: it answers true, and writes nothing that was there.
-/
import Derived.Test.YtampldoimpfjgaaDoorWalks4
namespace Go.Proofs.YtampldoimpfjgaaDoor
open Go.RowKit PM
set_option linter.unusedVariables false

set_option maxHeartbeats 2000000 in
theorem joins_walk (s t : ByteArray) (m : Int) (w : World) (hs : s.size ≤ maxLen) (ht : t.size ≤ maxLen) (hm : w.cell? ⟨0, 0, none⟩ = some (.int .i64 m)) :
    Calls Tryd.prog 4 #[.string s, .string t] w fun e w' => e = .returned (.bool true) ∧ Below w.heap.size w w' := by
  cases hc : clean s.data.toList with
  | false =>
    go_enter Tryd.func4, Tryd.ntmps4
    go_wp2_with (first
      | (go_at_call 28; refine (alive_any m _ hm).mono ?_; rintro e w1 ⟨rfl, hB1⟩)
      | (go_at_call 16; refine (clean_any _ m _ hs (held hB1 hm)).mono ?_; rintro e w2 ⟨rfl, hB2⟩; have hB2' := Below.onto hB1 hB2; clear hB1 hB2))
    go_ret
    exact ⟨rfl, by assumption⟩
  | true =>
    have hl : s.size ≤ 80 := by have := ((clean_iff _).1 hc).1; rwa [szl] at this
    obtain ⟨q1, q2, q3, q4, q5⟩ := clean_cut _ hc
    have HT : Hid (under t.data.toList s.data.toList = true → under t.data.toList (cutL s.data.toList).1 = true) := under_trans _ _ hc
    have HQ : Hid (joinL (cutL s.data.toList).1 (cutL s.data.toList).2 = s.data.toList ∧ named (cutL s.data.toList).2 = true ∧ ((cutL s.data.toList).1 = [] ∨ clean (cutL s.data.toList).1 = true) ∧ under s.data.toList (cutL s.data.toList).1 = true ∧ under (cutL s.data.toList).1 s.data.toList = false) := ⟨q1, q2, q3, q4, q5⟩
    clear q1 q2 q3 q4 q5
    go_enter Tryd.func4, Tryd.ntmps4
    go_wp2_with (first
      | (go_at_call 28; refine (alive_any m _ hm).mono ?_; rintro e w1 ⟨rfl, hB1⟩)
      | (go_at_call 16; refine (clean_any _ m _ hs (held hB1 hm)).mono ?_; rintro e w2 ⟨rfl, hB2⟩; have hB2' := Below.onto hB1 hB2; clear hB1 hB2)
      | (go_at_call 20; fail))
    refine (cut_any _ _ (by omega)).mono ?_
    rintro e w3 ⟨⟨d, n, rfl, hd, hn⟩, hw3⟩
    have hB3 := Below.onto hB2' (below_draws hw3)
    clear hw3 hB2'
    have HQ' := HQ.out
    have HT' := HT.out
    rw [← hd, ← hn] at HQ'
    rw [← hd] at HT'
    obtain ⟨q1, q2, q3, q4, q5⟩ := HQ'
    have hds : d.size + n.size ≤ 80 := by
      have := congrArg List.length q1
      rw [szl, joinL] at this
      split at this
      · rename_i h0
        rw [szl] at this
        have h0' : d.size = 0 := by rw [← szl, List.isEmpty_iff.1 h0]; rfl
        omega
      · rw [List.length_append, List.length_cons, szl, szl] at this; omega
    have hdm : d.size ≤ maxLen := by unfold maxLen; omega
    have hnm : n.size ≤ maxLen := by unfold maxLen; omega
    clear HQ HT hd hn
    have H1 : Hid (joinL d.data.toList n.data.toList = s.data.toList) := q1
    clear q1
    by_cases h0 : d.data.toList = []
    · have h0' := empty_of h0
      clear h0 q3
      cases hu : under t.data.toList s.data.toList with
      | false =>
        clear HT'
        go_wp2_with (first
          | (go_at_call 22; refine (join_any _ _ _ (by omega)).mono ?_; rintro e wx ⟨⟨r, rfl, hr⟩, hwx⟩; subst wx; rw [H1.out] at hr; obtain rfl := bytes_ext hr; clear hr)
          | (go_at_call 14; refine (named_any _ _ (by assumption)).mono ?_; rintro e wx ⟨rfl, hwx⟩; subst wx)
          | (go_at_call 18; refine (under_any _ _ _ (by assumption) (by assumption)).mono ?_; rintro e wx ⟨rfl, hwx⟩; subst wx))
        go_ret
        exact ⟨rfl, by assumption⟩
      | true =>
        have hu2 := HT' hu
        clear HT'
        go_wp2_with (first
          | (go_at_call 22; refine (join_any _ _ _ (by omega)).mono ?_; rintro e wx ⟨⟨r, rfl, hr⟩, hwx⟩; subst wx; rw [H1.out] at hr; obtain rfl := bytes_ext hr; clear hr)
          | (go_at_call 14; refine (named_any _ _ (by assumption)).mono ?_; rintro e wx ⟨rfl, hwx⟩; subst wx)
          | (go_at_call 18; refine (under_any _ _ _ (by assumption) (by assumption)).mono ?_; rintro e wx ⟨rfl, hwx⟩; subst wx))
        go_ret
        exact ⟨rfl, by assumption⟩
    · have h0' := empty_not h0
      have q3' : clean d.data.toList = true := q3.resolve_left h0
      clear h0 q3
      cases hu : under t.data.toList s.data.toList with
      | false =>
        clear HT'
        go_wp2_with (first
          | (go_at_call 22; refine (join_any _ _ _ (by omega)).mono ?_; rintro e wx ⟨⟨r, rfl, hr⟩, hwx⟩; subst wx; rw [H1.out] at hr; obtain rfl := bytes_ext hr; clear hr)
          | (go_at_call 14; refine (named_any _ _ (by assumption)).mono ?_; rintro e wx ⟨rfl, hwx⟩; subst wx)
          | (go_at_call 16; refine (clean_any _ m _ hdm (held hB3 hm)).mono ?_; rintro e w4 ⟨rfl, hB4⟩; have hB4' := Below.onto hB3 hB4; clear hB3 hB4)
          | (go_at_call 18; refine (under_any _ _ _ (by assumption) (by assumption)).mono ?_; rintro e wx ⟨rfl, hwx⟩; subst wx))
        go_ret
        exact ⟨rfl, by assumption⟩
      | true =>
        have hu2 := HT' hu
        clear HT'
        go_wp2_with (first
          | (go_at_call 22; refine (join_any _ _ _ (by omega)).mono ?_; rintro e wx ⟨⟨r, rfl, hr⟩, hwx⟩; subst wx; rw [H1.out] at hr; obtain rfl := bytes_ext hr; clear hr)
          | (go_at_call 14; refine (named_any _ _ (by assumption)).mono ?_; rintro e wx ⟨rfl, hwx⟩; subst wx)
          | (go_at_call 16; refine (clean_any _ m _ hdm (held hB3 hm)).mono ?_; rintro e w4 ⟨rfl, hB4⟩; have hB4' := Below.onto hB3 hB4; clear hB3 hB4)
          | (go_at_call 18; refine (under_any _ _ _ (by assumption) (by assumption)).mono ?_; rintro e wx ⟨rfl, hwx⟩; subst wx))
        go_ret
        exact ⟨rfl, by assumption⟩
end Go.Proofs.YtampldoimpfjgaaDoor
