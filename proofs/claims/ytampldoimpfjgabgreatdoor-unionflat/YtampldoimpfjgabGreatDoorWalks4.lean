/-
  The closed fact that the statements ask first: 'alive' answers true.
-/
import Derived.Test.YtampldoimpfjgabGreatDoorWalks3
namespace Go.Proofs.YtampldoimpfjgabGreatDoor
open Go.RowKit PM
set_option linter.unusedVariables false

theorem Strs.form {w : World} {base : Nat} {v : Value} {bs : List ByteArray} (h : Strs w base v bs) : ∃ a c, v = .slice a bs.length c := by
  rcases h.2 with ⟨rfl, hn⟩ | ⟨g, cap, cur, rfl, _⟩
  · rw [hn]; exact ⟨_, _, rfl⟩
  · exact ⟨_, _, rfl⟩
theorem below_draws {w w' : World} (h : ∃ n, w' = w.drewN n) : Below w.heap.size w w' := by
  obtain ⟨n, rfl⟩ := h
  exact below_drewN (Below.refl _ _) n
theorem parse_lit (m : Int) (w : World) (hm : w.cell? ⟨0, 0, none⟩ = some (.int .i64 m)) :
    Calls Tryz.prog 212 #[.string ⟨#[47, 97, 47, 46, 47, 98, 47, 46, 46, 47, 99]⟩] w fun e w' => ∃ a c, e = .returned (.tuple #[.slice a 4 c, .int .i64 0]) ∧ Below w.heap.size w w' := by
  refine (parse_any ⟨#[47, 97, 47, 46, 47, 98, 47, 46, 46, 47, 99]⟩ m w (by decide) hm).mono ?_
  rintro e w' ⟨⟨v, bs, rfl, hS, hl⟩, hB⟩
  obtain ⟨a, c, rfl⟩ := hS.form
  have h4 : bs.length = 4 := by
    have := congrArg List.length hl
    rw [List.length_map] at this
    rw [this]; decide
  have h0 : (parseL (⟨#[47, 97, 47, 46, 47, 98, 47, 46, 46, 47, 99]⟩ : ByteArray).data.toList).2 = 0 := by decide
  rw [h0, h4]
  exact ⟨a, c, rfl, hB⟩
theorem cut_lit (w : World) : Calls Tryz.prog 73 #[.string ⟨#[97, 47, 98]⟩] w fun e w' => e = .returned (.tuple #[.string ⟨#[97]⟩, .string ⟨#[98]⟩]) ∧ Below w.heap.size w w' := by
  refine (cut_any ⟨#[97, 47, 98]⟩ w (by decide)).mono ?_
  rintro e w' ⟨⟨d, n, rfl, h1, h2⟩, hw⟩
  obtain rfl : d = ⟨#[97]⟩ := bytes_ext (by rw [h1]; decide)
  obtain rfl : n = ⟨#[98]⟩ := bytes_ext (by rw [h2]; decide)
  exact ⟨rfl, below_draws hw⟩
theorem under_lit (w : World) : Calls Tryz.prog 54 #[.string ⟨#[97, 47, 98]⟩, .string ⟨#[97]⟩] w fun e w' => e = .returned (.bool true) ∧ Below w.heap.size w w' := by
  refine (under_any ⟨#[97, 47, 98]⟩ ⟨#[97]⟩ w (by decide) (by decide)).mono ?_
  rintro e w' ⟨rfl, rfl⟩
  exact ⟨ret_bool (by decide), Below.refl _ _⟩
theorem clean_lit (m : Int) (w : World) (hm : w.cell? ⟨0, 0, none⟩ = some (.int .i64 m)) : Calls Tryz.prog 53 #[.string ⟨#[97, 47, 98]⟩] w fun e w' => e = .returned (.bool true) ∧ Below w.heap.size w w' := by
  refine (clean_any ⟨#[97, 47, 98]⟩ m w (by decide) hm).mono ?_
  rintro e w' ⟨rfl, hB⟩
  exact ⟨ret_bool (by decide), hB⟩
theorem compare_lit (w : World) : Calls Tryz.prog 79 #[.string ⟨#[97, 47, 98]⟩, .string ⟨#[97, 98]⟩] w fun e w' => e = .returned (.int .i64 (-99)) ∧ Below w.heap.size w w' := by
  refine (compare_any ⟨#[97, 47, 98]⟩ ⟨#[97, 98]⟩ w (by decide) (by decide)).mono ?_
  rintro e w' ⟨rfl, hw⟩
  exact ⟨ret_int (by decide), below_draws hw⟩
theorem join_lit (w : World) : Calls Tryz.prog 238 #[.string ⟨#[]⟩, .string ⟨#[97]⟩] w fun e w' => e = .returned (.string ⟨#[97]⟩) ∧ Below w.heap.size w w' := by
  refine (join_any ⟨#[]⟩ ⟨#[97]⟩ w (by decide)).mono ?_
  rintro e w' ⟨⟨r, rfl, hr⟩, rfl⟩
  obtain rfl : r = ⟨#[97]⟩ := bytes_ext (by rw [hr]; decide)
  exact ⟨rfl, Below.refl _ _⟩
theorem held {w w' : World} {m : Int} (hB : Below w.heap.size w w') (hm : w.cell? ⟨0, 0, none⟩ = some (.int .i64 m)) : w'.cell? ⟨0, 0, none⟩ = some (.int .i64 m) := by
  rw [hB.cell (p := ⟨0, 0, none⟩) (cell_lt hm)]; exact hm
theorem Below.onto {w w' w'' : World} (h : Below w.heap.size w w') (k : Below w'.heap.size w' w'') : Below w.heap.size w w'' := h.trans (k.mono h.size)

end Go.Proofs.YtampldoimpfjgabGreatDoor
