/-
  The closed fact that the statements of chapter 5 ask first.
-/
import Derived.Test.YtampldoimpfjgabK7
namespace Go.Proofs.Ytampldoimpfjgab
open Go.RowKit Go.Sort KM
set_option linter.unusedVariables false

def lX : Lk := ⟨1, 5, 9, true⟩
def lY : Lk := ⟨2, 8, 12, false⟩
def lZ : Lk := ⟨1, 6, 7, false⟩
def lM : List Lk := [⟨1, 5, 6, true⟩, ⟨1, 7, 9, true⟩]
theorem specX : SetSpec false [] lX 0 [lX] := by
  have h : preErr [] lX = 0 := by decide
  have hs := take_spec (m := [lX]) h (by decide) (List.Perm.refl _) (by simp)
  exact .inr (.inr ⟨h, .inr (by decide), [lX], hs.1, hs.2, .inr ⟨by decide, rfl, rfl⟩⟩)
theorem specY : SetSpec false [lX] lY 13 [] := .inr (.inl ⟨by decide, rfl, by decide, rfl, rfl⟩)
theorem specZ : SetSpec true [lX] lZ 0 lM := by
  have h : preErr [lX] lZ = 0 := by decide
  have hs := free_spec h
  have e : withoutL [lX] lZ = lM := by decide
  rw [e] at hs
  exact .inr (.inr ⟨h, .inl rfl, lM, hs.1, hs.2, .inr ⟨by decide, rfl, rfl⟩⟩)
theorem takeX (w : World) : Calls Try.prog 11 #[.slice none 0 0, .agg #[.int .i64 1, .int .i64 5, .int .i64 9, .bool true]] w fun e w' => ∃ p c, e = .returned (.tuple #[.slice p 1 c, .int .i64 0]) ∧ Lies w' p [lX] ∧ 1 ≤ c ∧ Below w.heap.size w w' := by
  refine (take_any [] lX none 0 w (Lies.nil _ _) (by decide) (by decide)).mono ?_
  rintro e w' ⟨v, err, m, rfl, hR, hS, hB⟩
  obtain ⟨rfl, rfl⟩ := spec_unique hS specX
  obtain ⟨p, c, rfl, hL, hc, _⟩ := hR.form
  exact ⟨p, c, rfl, hL, hc, hB⟩
theorem takeY (p : Option Addr) (c : Nat) (w : World) (hL : Lies w p [lX]) (hc : 1 ≤ c) : Calls Try.prog 11 #[.slice p 1 c, .agg #[.int .i64 2, .int .i64 8, .int .i64 12, .bool false]] w fun e w' => ∃ v, e = .returned (.tuple #[v, .int .i64 13]) ∧ Below w.heap.size w w' := by
  refine (take_any [lX] lY p c w hL (by decide) hc).mono ?_
  rintro e w' ⟨v, err, m, rfl, hR, hS, hB⟩
  obtain ⟨rfl, rfl⟩ := spec_unique hS specY
  exact ⟨v, rfl, hB⟩
theorem freeZ (p : Option Addr) (c : Nat) (w : World) (hL : Lies w p [lX]) (hc : 1 ≤ c) : Calls Try.prog 14 #[.slice p 1 c, .agg #[.int .i64 1, .int .i64 6, .int .i64 7, .bool false]] w fun e w' => ∃ p' c', e = .returned (.tuple #[.slice p' 2 c', .int .i64 0]) ∧ Lies w' p' lM ∧ (p' = none → c' = 0) ∧ Below w.heap.size w w' := by
  refine (free_any [lX] lZ p c w hL (by decide) hc).mono ?_
  rintro e w' ⟨v, err, m, rfl, hR, hS, hB⟩
  obtain ⟨rfl, rfl⟩ := spec_unique hS specZ
  obtain ⟨p', c', rfl, hL', hc', hn⟩ := hR.form
  exact ⟨p', c', rfl, hL', hn, hB⟩
theorem leaveM (p : Option Addr) (c : Nat) (w : World) (hL : Lies w p lM) (hn : p = none → c = 0) : Calls Try.prog 15 #[.slice p 2 c, .int .i64 1] w fun e w' => ∃ g c', e = .returned (.slice (some ⟨g, 0, none⟩) 0 c') ∧ Below w.heap.size w w' := by
  refine (leave_any lM 1 p c w hL hn (by decide)).mono ?_
  rintro e w' ⟨g, c', rfl, _, _, hB⟩
  exact ⟨g, c', rfl, hB⟩
set_option maxHeartbeats 1000000 in
theorem alive_any (w : World) : Calls Try.prog 16 #[] w fun e w' => e = .returned (.bool true) ∧ Below w.heap.size w w' := by
  have hB : Below w.heap.size w w := Below.refl _ _
  go_enter Try.func16, Try.ntmps16
  go_wp2_with (first
    | (go_at_call 11; refine (takeY p c _ hl hc).mono ?_; rintro e w2 ⟨v, rfl, hN⟩; replace hB := Below.onto hB hN; replace hl := hl.kept hN; clear hN)
    | (go_at_call 14; refine (freeZ p c _ hl hc).mono ?_; rintro e w3 ⟨p', c', rfl, hl', hn', hN⟩; replace hB := Below.onto hB hN; clear hN hl)
    | (go_at_call 15; refine (leaveM p' c' _ hl' hn').mono ?_; rintro e w4 ⟨g, c4, rfl, hN⟩; replace hB := Below.onto hB hN; clear hN)
    | (go_at_call 11; refine (takeX _).mono ?_; rintro e w1 ⟨p, c, rfl, hl, hc, hN⟩; replace hB := Below.onto hB hN; clear hN))
  go_ret
  exact ⟨rfl, hB⟩
end Go.Proofs.Ytampldoimpfjgab
