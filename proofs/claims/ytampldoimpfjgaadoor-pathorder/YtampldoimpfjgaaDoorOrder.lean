/-
  The walk of the statement PathOrder: it answers true, and writes nothing that was there.
-/
import Derived.Test.YtampldoimpfjgaaDoorWalks4
namespace Go.Proofs.YtampldoimpfjgaaDoor
open Go.RowKit PM
set_option linter.unusedVariables false

theorem under_self (a : List UInt8) (h : a ≠ []) : under a a = false := by
  cases hu : under a a with
  | false => rfl
  | true =>
    obtain ⟨r, e⟩ := (under_iff a a h).1 hu
    have := congrArg List.length e
    simp at this
/-- All that the statement asks of three paths, decided. -/
def Asked (a b c : ByteArray) : Prop :=
  (((a.toList == b.toList) = true ∧ cmp a.data.toList b.data.toList = 0 ∧ cmp b.data.toList a.data.toList = 0 ∨
    (a.toList == b.toList) = false ∧ cmp a.data.toList b.data.toList < 0 ∧ 0 < cmp b.data.toList a.data.toList ∧ cmp b.data.toList c.data.toList < 0 ∧ decide (0 ≤ cmp a.data.toList c.data.toList) = false ∨
    (a.toList == b.toList) = false ∧ cmp a.data.toList b.data.toList < 0 ∧ 0 < cmp b.data.toList a.data.toList ∧ 0 ≤ cmp b.data.toList c.data.toList ∨
    (a.toList == b.toList) = false ∧ 0 < cmp a.data.toList b.data.toList ∧ cmp b.data.toList a.data.toList < 0) ∧
   (a.toList.isEmpty = true ∨ a.toList.isEmpty = false ∧ b.toList.isEmpty = true ∨ a.toList.isEmpty = false ∧ b.toList.isEmpty = false ∧ c.toList.isEmpty = true ∨
    a.toList.isEmpty = false ∧ b.toList.isEmpty = false ∧ c.toList.isEmpty = false ∧ under b.data.toList a.data.toList = false)) ∨
  ((a.toList == b.toList) = false ∧ cmp a.data.toList b.data.toList < 0 ∧ 0 < cmp b.data.toList a.data.toList ∧
    (cmp b.data.toList c.data.toList < 0 ∧ decide (0 ≤ cmp a.data.toList c.data.toList) = false ∨ 0 ≤ cmp b.data.toList c.data.toList) ∧
    a.toList.isEmpty = false ∧ b.toList.isEmpty = false ∧ c.toList.isEmpty = false ∧ under b.data.toList a.data.toList = true ∧
    ((c.toList == a.toList) = true ∨ (c.toList == a.toList) = false ∧ under c.data.toList a.data.toList = true ∨
     (c.toList == a.toList) = false ∧ under c.data.toList a.data.toList = false ∧ cmp c.data.toList a.data.toList < 0 ∨
     (c.toList == a.toList) = false ∧ under c.data.toList a.data.toList = false ∧ 0 ≤ cmp c.data.toList a.data.toList ∧ 0 < cmp c.data.toList b.data.toList))
theorem beq_false {a b : ByteArray} (h : a.data.toList ≠ b.data.toList) : (a.toList == b.toList) = false := by
  rw [Lib.toList_data, Lib.toList_data]; simpa using h
theorem beq_true {a b : ByteArray} (h : a.data.toList = b.data.toList) : (a.toList == b.toList) = true := by
  rw [Lib.toList_data, Lib.toList_data]; simpa using h
theorem dec_no {x : Int} (h : x < 0) : decide (0 ≤ x) = false := by simpa using h
theorem asked (a b c : ByteArray) : Asked a b c := by
  have anti := cmp_anti a.data.toList b.data.toList
  have zero := cmp_zero a.data.toList b.data.toList
  have trans := cmp_trans a.data.toList b.data.toList c.data.toList
  have first : (a.toList == b.toList) = true ∧ cmp a.data.toList b.data.toList = 0 ∧ cmp b.data.toList a.data.toList = 0 ∨
    (a.toList == b.toList) = false ∧ cmp a.data.toList b.data.toList < 0 ∧ 0 < cmp b.data.toList a.data.toList ∧ cmp b.data.toList c.data.toList < 0 ∧ decide (0 ≤ cmp a.data.toList c.data.toList) = false ∨
    (a.toList == b.toList) = false ∧ cmp a.data.toList b.data.toList < 0 ∧ 0 < cmp b.data.toList a.data.toList ∧ 0 ≤ cmp b.data.toList c.data.toList ∨
    (a.toList == b.toList) = false ∧ 0 < cmp a.data.toList b.data.toList ∧ cmp b.data.toList a.data.toList < 0 := by
    by_cases h0 : cmp a.data.toList b.data.toList = 0
    · exact .inl ⟨beq_true (zero.1 h0), h0, by omega⟩
    · have hf := beq_false fun e => h0 (zero.2 e)
      by_cases h1 : cmp a.data.toList b.data.toList < 0
      · by_cases h2 : cmp b.data.toList c.data.toList < 0
        · exact .inr (.inl ⟨hf, h1, by omega, h2, dec_no (trans h1 h2)⟩)
        · exact .inr (.inr (.inl ⟨hf, h1, by omega, by omega⟩))
      · exact .inr (.inr (.inr ⟨hf, by omega, by omega⟩))
  by_cases ha : a.data.toList = []
  · exact .inl ⟨first, .inl (empty_of ha)⟩
  by_cases hb : b.data.toList = []
  · exact .inl ⟨first, .inr (.inl ⟨empty_not ha, empty_of hb⟩)⟩
  by_cases hc : c.data.toList = []
  · exact .inl ⟨first, .inr (.inr (.inl ⟨empty_not ha, empty_not hb, empty_of hc⟩))⟩
  cases hu : under b.data.toList a.data.toList with
  | false => exact .inl ⟨first, .inr (.inr (.inr ⟨empty_not ha, empty_not hb, empty_not hc, hu⟩))⟩
  | true =>
    obtain ⟨r, hr⟩ := (under_iff _ _ ha).1 hu
    have hlt : cmp a.data.toList b.data.toList < 0 := by rw [hr]; exact cmp_under _ _
    have hf : (a.toList == b.toList) = false := beq_false fun e => by have := zero.2 e; omega
    refine .inr ⟨hf, hlt, by omega, ?_, empty_not ha, empty_not hb, empty_not hc, hu, ?_⟩
    · by_cases h2 : cmp b.data.toList c.data.toList < 0
      · exact .inl ⟨h2, dec_no (trans hlt h2)⟩
      · exact .inr (by omega)
    · by_cases he : c.data.toList = a.data.toList
      · exact .inl (beq_true he)
      cases hv : under c.data.toList a.data.toList with
      | true => exact .inr (.inl ⟨beq_false he, rfl⟩)
      | false =>
        by_cases h3 : cmp c.data.toList a.data.toList < 0
        · exact .inr (.inr (.inl ⟨beq_false he, rfl, h3⟩))
        · refine .inr (.inr (.inr ⟨beq_false he, rfl, by omega, ?_⟩))
          rw [hr]
          refine cmp_beyond _ _ _ he (fun q e => ?_) (by omega)
          have := (under_iff _ _ ha).2 ⟨q, e⟩
          rw [hv] at this; cases this

set_option maxHeartbeats 4000000 in
theorem order_walk (a b c : ByteArray) (m : Int) (w : World) (ha : a.size ≤ maxLen) (hb : b.size ≤ maxLen) (hc : c.size ≤ maxLen) (hm : w.cell? ⟨0, 0, none⟩ = some (.int .i64 m)) :
    Calls Tryd.prog 5 #[.string a, .string b, .string c] w fun e w' => e = .returned (.bool true) ∧ Below w.heap.size w w' := by
  rcases asked a b c with ⟨⟨h1, h2, h3⟩ | ⟨h1, h2, h3, h4, h5⟩ | ⟨h1, h2, h3, h4⟩ | ⟨h1, h2, h3⟩, k1 | ⟨k1, k2⟩ | ⟨k1, k2, k3⟩ | ⟨k1, k2, k3, k4⟩⟩ | ⟨h1, h2, h3, ⟨h4, h5⟩ | h4, k1, k2, k3, k4, j1 | ⟨j1, j2⟩ | ⟨j1, j2, j3⟩ | ⟨j1, j2, j3, j4⟩⟩
  all_goals
    go_enter Tryd.func5, Tryd.ntmps5
    go_wp2_with (first
      | (go_at_call 28; refine (alive_any m _ hm).mono ?_; rintro e w1 ⟨rfl, hB1⟩)
      | (go_at_call 23; refine (compare_any _ _ _ (by assumption) (by assumption)).mono ?_; rintro e wx ⟨rfl, n, hwx⟩; subst wx)
      | (go_at_call 18; refine (under_any _ _ _ (by assumption) (by assumption)).mono ?_; rintro e wx ⟨rfl, hwx⟩; subst wx))
    go_ret
    first
      | exact ⟨rfl, below_drewN hB1 _⟩
      | exact ⟨ret_bool (by simp [*]), below_drewN hB1 _⟩
end Go.Proofs.YtampldoimpfjgaaDoor
