/-
  The closed fact that the statements ask first: 'alive' answers true.
-/
import Derived.Test.YtampldoimpfjgaaDoorWalks3
namespace Go.Proofs.YtampldoimpfjgaaDoor
open Go.RowKit PM
set_option linter.unusedVariables false

theorem Strs.form {w : World} {base : Nat} {v : Value} {bs : List ByteArray} (h : Strs w base v bs) : ∃ a c, v = .slice a bs.length c := by
  rcases h.2 with ⟨rfl, hn⟩ | ⟨g, cap, cur, rfl, _⟩
  · rw [hn]; exact ⟨_, _, rfl⟩
  · exact ⟨_, _, rfl⟩
theorem below_draws {w w' : World} (h : ∃ n, w' = w.drewN n) : Below w.heap.size w w' := by
  obtain ⟨n, rfl⟩ := h
  exact below_drewN (Below.refl _ _) n
theorem parse_lit (m : Int) (w : World) (hm : w.cell? ⟨0, 0, none⟩ = some (.int .i64 m)) :
    Calls Tryd.prog 25 #[.string ⟨#[47, 97, 47, 46, 47, 98, 47, 46, 46, 47, 99]⟩] w fun e w' => ∃ a c, e = .returned (.tuple #[.slice a 4 c, .int .i64 0]) ∧ Below w.heap.size w w' := by
  refine (parse_any ⟨#[47, 97, 47, 46, 47, 98, 47, 46, 46, 47, 99]⟩ m w (by decide) hm).mono ?_
  rintro e w' ⟨⟨v, bs, rfl, hS, hl⟩, hB⟩
  obtain ⟨a, c, rfl⟩ := hS.form
  have h4 : bs.length = 4 := by
    have := congrArg List.length hl
    rw [List.length_map] at this
    rw [this]; decide
  have h0 : (parseL (⟨#[47, 97, 47, 46, 47, 98, 47, 46, 46, 47, 99]⟩ : ByteArray).data.toList).2 = 0 := by decide
  rw [h0, h4]
  exact ⟨a, c, rfl, hB⟩
theorem cut_lit (w : World) : Calls Tryd.prog 20 #[.string ⟨#[97, 47, 98]⟩] w fun e w' => e = .returned (.tuple #[.string ⟨#[97]⟩, .string ⟨#[98]⟩]) ∧ Below w.heap.size w w' := by
  refine (cut_any ⟨#[97, 47, 98]⟩ w (by decide)).mono ?_
  rintro e w' ⟨⟨d, n, rfl, h1, h2⟩, hw⟩
  obtain rfl : d = ⟨#[97]⟩ := bytes_ext (by rw [h1]; decide)
  obtain rfl : n = ⟨#[98]⟩ := bytes_ext (by rw [h2]; decide)
  exact ⟨rfl, below_draws hw⟩
theorem under_lit (w : World) : Calls Tryd.prog 18 #[.string ⟨#[97, 47, 98]⟩, .string ⟨#[97]⟩] w fun e w' => e = .returned (.bool true) ∧ Below w.heap.size w w' := by
  refine (under_any ⟨#[97, 47, 98]⟩ ⟨#[97]⟩ w (by decide) (by decide)).mono ?_
  rintro e w' ⟨rfl, rfl⟩
  exact ⟨ret_bool (by decide), Below.refl _ _⟩
theorem clean_lit (m : Int) (w : World) (hm : w.cell? ⟨0, 0, none⟩ = some (.int .i64 m)) : Calls Tryd.prog 16 #[.string ⟨#[97, 47, 98]⟩] w fun e w' => e = .returned (.bool true) ∧ Below w.heap.size w w' := by
  refine (clean_any ⟨#[97, 47, 98]⟩ m w (by decide) hm).mono ?_
  rintro e w' ⟨rfl, hB⟩
  exact ⟨ret_bool (by decide), hB⟩
theorem compare_lit (w : World) : Calls Tryd.prog 23 #[.string ⟨#[97, 47, 98]⟩, .string ⟨#[97, 98]⟩] w fun e w' => e = .returned (.int .i64 (-99)) ∧ Below w.heap.size w w' := by
  refine (compare_any ⟨#[97, 47, 98]⟩ ⟨#[97, 98]⟩ w (by decide) (by decide)).mono ?_
  rintro e w' ⟨rfl, hw⟩
  exact ⟨ret_int (by decide), below_draws hw⟩
theorem join_lit (w : World) : Calls Tryd.prog 22 #[.string ⟨#[]⟩, .string ⟨#[97]⟩] w fun e w' => e = .returned (.string ⟨#[97]⟩) ∧ Below w.heap.size w w' := by
  refine (join_any ⟨#[]⟩ ⟨#[97]⟩ w (by decide)).mono ?_
  rintro e w' ⟨⟨r, rfl, hr⟩, rfl⟩
  obtain rfl : r = ⟨#[97]⟩ := bytes_ext (by rw [hr]; decide)
  exact ⟨rfl, Below.refl _ _⟩
theorem held {w w' : World} {m : Int} (hB : Below w.heap.size w w') (hm : w.cell? ⟨0, 0, none⟩ = some (.int .i64 m)) : w'.cell? ⟨0, 0, none⟩ = some (.int .i64 m) := by
  rw [hB.cell (p := ⟨0, 0, none⟩) (cell_lt hm)]; exact hm
theorem Below.onto {w w' w'' : World} (h : Below w.heap.size w w') (k : Below w'.heap.size w' w'') : Below w.heap.size w w'' := h.trans (k.mono h.size)

set_option maxHeartbeats 2000000 in
theorem alive_any (m : Int) (w : World) (hm : w.cell? ⟨0, 0, none⟩ = some (.int .i64 m)) :
    Calls Tryd.prog 28 #[] w fun e w' => e = .returned (.bool true) ∧ Below w.heap.size w w' := by
  go_enter Tryd.func28, Tryd.ntmps28
  go_wp2_with (first
    | (go_at_call 25; refine (parse_lit m _ hm).mono ?_; rintro e w1 ⟨a, c, rfl, hB1⟩)
    | (go_at_call 20; refine (cut_lit _).mono ?_; rintro e w2 ⟨rfl, hB2⟩; have hB2' := Below.onto hB1 hB2; clear hB1 hB2)
    | (go_at_call 18; refine (under_lit _).mono ?_; rintro e w3 ⟨rfl, hB3⟩; have hB3' := Below.onto hB2' hB3; clear hB2' hB3)
    | (go_at_call 16; refine (clean_lit m _ (held hB3' hm)).mono ?_; rintro e w4 ⟨rfl, hB4⟩; have hB4' := Below.onto hB3' hB4; clear hB3' hB4)
    | (go_at_call 23; refine (compare_lit _).mono ?_; rintro e w5 ⟨rfl, hB5⟩; have hB5' := Below.onto hB4' hB5; clear hB4' hB5)
    | (go_at_call 22; refine (join_lit _).mono ?_; rintro e w6 ⟨rfl, hB6⟩; have hB6' := Below.onto hB5' hB6; clear hB5' hB6))
  all_goals go_ret
  all_goals exact ⟨rfl, by assumption⟩
end Go.Proofs.YtampldoimpfjgaaDoor
