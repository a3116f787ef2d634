/-
  The closed fact that the statements of chapter 2 ask first, walked.
-/
import Derived.Test.YtampldoimpfjgaaDoorTAlive
namespace Go.Proofs.YtampldoimpfjgaaDoor
open Go.RowKit PM Go.Sort
set_option linter.unusedVariables false

def smallCells : Array Value := #[.string ⟨#[97]⟩, .int .i64 2, .string ⟨#[]⟩, .bool false, .string ⟨#[97, 47, 98]⟩, .int .i64 1, .string ⟨#[120]⟩, .bool false, .string ⟨#[99]⟩, .int .i64 3, .string ⟨#[97]⟩, .bool false]
theorem small_lies (w : World) : Lies (w.alloc (.cells smallCells 38)) (some ⟨w.heap.size, 0, none⟩) smallT := by
  have hO : Own (w.alloc (.cells smallCells 38)) w.heap.size 3 smallT :=
    own_alloc w smallCells 3 smallT rfl (by decide) (by unfold maxLen; decide) (fun k v hk => by
      have : (smallT.flatMap encE) = smallCells.toList := rfl
      rw [this, Array.getElem?_toList] at hk; exact hk)
  exact hO.lies
theorem small_any (w : World) : Calls Tryd.prog 73 #[] w fun e w' => ∃ b, e = .returned (.slice (some ⟨b, 0, none⟩) 3 3) ∧ Lies w' (some ⟨b, 0, none⟩) smallT ∧ Below w.heap.size w w' := by
  have h := small_lies w
  unfold smallCells at h
  have H : Aside _ := h
  clear h
  go_enter Tryd.func73, Tryd.ntmps73
  go_wp2
  go_ret
  exact ⟨w.heap.size, rfl, H.out, (Below.refl _ _).alloc (Nat.le_refl _) _⟩
theorem Strs.one {w : World} {base : Nat} {v : Value} {bs : List ByteArray} {x : List UInt8} (h : Strs w base v bs) (hb : bs.map (·.data.toList) = [x]) : ∃ g c s, v = .slice (some ⟨g, 0, none⟩) 1 c ∧ w.cell? ⟨g, 0, none⟩ = some (.string s) ∧ s.data.toList = x := by
  obtain ⟨s, rfl⟩ : ∃ s, bs = [s] := by
    match bs, hb with
    | [s], _ => exact ⟨s, rfl⟩
  obtain ⟨_, ⟨_, h2⟩ | ⟨g, cap, cur, hv, _, hh, _, _, hs, ht⟩⟩ := h
  · simp at h2
  · refine ⟨g, cap, s, hv, ?_, by simpa using hb⟩
    have h0 : cur.toList[0]? = some (.string s) := by
      have := congrArg (·[0]?) ht
      simpa [List.getElem?_take] using this
    simp only [World.cell?, hh]
    simpa using h0
theorem move_lit (m : Int) (b : Nat) (w : World) (hL : Lies w (some ⟨b, 0, none⟩) smallT) (hm : w.cell? ⟨0, 0, none⟩ = some (.int .i64 m)) :
    Calls Tryd.prog 40 #[.slice (some ⟨b, 0, none⟩) 3 3, .string ⟨#[97]⟩, .string ⟨#[100]⟩] w fun e w' => ∃ g off c, e = .returned (.tuple #[.slice (some ⟨g, off, none⟩) 3 c, .int .i64 0]) ∧ Lies w' (some ⟨g, off, none⟩) smallM ∧ w'.cell? ⟨g, off + 4, none⟩ = some (.string ⟨#[100]⟩) ∧ Below w.heap.size w w' := by
  refine (move_any smallT ⟨#[97]⟩ ⟨#[100]⟩ m (some ⟨b, 0, none⟩) 3 w hL small_fits (by decide) (by decide) (by simp) (by unfold maxLen; decide) (by unfold maxLen; decide) hm).mono ?_
  rintro e w' ⟨l, ⟨p, c, rfl, hl, hc, hn, hB⟩, _, h0⟩
  have hl' := small_moved ((h0 small_err).2 (by decide)).1 ((h0 small_err).2 (by decide)).2
  subst hl'
  rw [small_err]
  rcases hl with h | ⟨g, off, rfl, hg, hcell⟩
  · cases h
  · refine ⟨g, off, c, rfl, .inr ⟨g, off, rfl, hg, hcell⟩, ?_, hB⟩
    exact hcell 1 _ rfl 0 _ rfl
theorem list_lit (g off c : Nat) (w : World) (hL : Lies w (some ⟨g, off, none⟩) smallM) :
    Calls Tryd.prog 33 #[.slice (some ⟨g, off, none⟩) 3 c, .string ⟨#[100]⟩] w fun e w' => ∃ g' c', e = .returned (.tuple #[.slice (some ⟨g', 0, none⟩) 1 c', .int .i64 0]) ∧ w'.cell? ⟨g', 0, none⟩ = some (.string ⟨#[98]⟩) ∧ Below w.heap.size w w' := by
  refine (list_any smallM ⟨#[100]⟩ (some ⟨g, off, none⟩) c w hL smallM_fits smallM_right (by unfold maxLen; decide)).mono ?_
  rintro e w' ⟨⟨v, bs, rfl, hS, hb⟩, hB⟩
  have hl : listL smallM (⟨#[100]⟩ : ByteArray).data.toList = ([[98]], 0) := small_list
  rw [hl] at hb ⊢
  obtain ⟨g', c', s, rfl, hcell, hs⟩ := hS.one hb
  obtain rfl : s = ⟨#[98]⟩ := ba_ext (by rw [hs])
  exact ⟨g', c', rfl, hcell, hB⟩
theorem remove_lit (m : Int) (b : Nat) (w : World) (hL : Lies w (some ⟨b, 0, none⟩) smallT) (hm : w.cell? ⟨0, 0, none⟩ = some (.int .i64 m)) :
    Calls Tryd.prog 38 #[.slice (some ⟨b, 0, none⟩) 3 3, .string ⟨#[97]⟩] w fun e w' => ∃ v, e = .returned (.tuple #[v, .int .i64 11]) ∧ Below w.heap.size w w' := by
  refine (remove_any smallT ⟨#[97]⟩ m (some ⟨b, 0, none⟩) 3 w hL small_fits (by decide) (by decide) (by simp) (by unfold maxLen; decide) hm).mono ?_
  rintro e w' ⟨p, c, rfl, _, _, _, hB⟩
  have h11 : remErr smallT (⟨#[97]⟩ : ByteArray).data.toList = 11 := small_rem
  rw [h11]
  exact ⟨_, rfl, hB⟩
theorem wrong_lit (m : Int) (b : Nat) (w : World) (hL : Lies w (some ⟨b, 0, none⟩) smallT) (hm : w.cell? ⟨0, 0, none⟩ = some (.int .i64 m)) :
    Calls Tryd.prog 29 #[.slice (some ⟨b, 0, none⟩) 3 3] w fun e w' => e = .returned (.agg #[.int .i64 0, .int .i64 0]) ∧ Below w.heap.size w w' := by
  refine (wrong_any smallT m (some ⟨b, 0, none⟩) 3 w hL small_fits (by decide) (by decide) hm).mono ?_
  rintro e w' ⟨rfl, hB⟩
  rw [faultL_right smallT_right]
  exact ⟨rfl, hB⟩

set_option maxHeartbeats 4000000 in
set_option maxRecDepth 100000 in
theorem treeAlive_any (m : Int) (w : World) (hm : w.cell? ⟨0, 0, none⟩ = some (.int .i64 m)) :
    Calls Tryd.prog 42 #[] w fun e w' => e = .returned (.bool true) ∧ Below w.heap.size w w' := by
  have hB : Below w.heap.size w w := Below.refl _ _
  have hfld := field40
  go_enter Tryd.func42, Tryd.ntmps42
  go_wp2_with (first
    | (go_at_call 73; refine (small_any _).mono ?_; rintro e w1 ⟨b, rfl, hl, hN⟩; replace hB := Below.onto hB hN; (try (replace t0 := (hN.cell (block_lt_of_cell t0)).trans t0; replace s0 := (hN.cell (block_lt_of_cell s0)).trans s0)); clear hN)
    | (go_at_call 40; refine (move_lit m b _ hl (held hB hm)).mono ?_; clear hl; rintro e w2 ⟨g, off, c, rfl, hlM, p0, hN⟩; replace hB := Below.onto hB hN; clear hN)
    | (go_at_call 33; refine (list_lit g off c _ hlM).mono ?_; clear hlM; rintro e w3 ⟨g', c', rfl, s0, hN⟩; have t0 := (hN.cell (block_lt_of_cell p0)).trans p0; replace hB := Below.onto hB hN; clear hN p0)
    | (go_at_call 38; refine (remove_lit m b _ hl (held hB hm)).mono ?_; clear hl; rintro e w5 ⟨v, rfl, hN⟩; replace t0 := (hN.cell (block_lt_of_cell t0)).trans t0; replace s0 := (hN.cell (block_lt_of_cell s0)).trans s0; replace hB := Below.onto hB hN; clear hN)
    | (go_at_call 29; refine (wrong_lit m b _ hl (held hB hm)).mono ?_; clear hl; rintro e w6 ⟨rfl, hN⟩; replace hB := Below.onto hB hN; clear hN))
  go_ret
  exact ⟨rfl, hB⟩
end Go.Proofs.YtampldoimpfjgaaDoor
