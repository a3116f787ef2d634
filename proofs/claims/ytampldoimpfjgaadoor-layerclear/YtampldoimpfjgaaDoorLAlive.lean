/-
  The closed fact that the statements of chapter 3 ask first, walked.
-/
import Derived.Test.YtampldoimpfjgaaDoorLOver
namespace Go.Proofs.YtampldoimpfjgaaDoor
open Go.RowKit PM Go.Sort
set_option linter.unusedVariables false

def lowT : List Ent := [⟨⟨#[97]⟩, 2, ⟨#[]⟩, false⟩, ⟨⟨#[97, 47, 98]⟩, 1, ⟨#[]⟩, false⟩, ⟨⟨#[99]⟩, 1, ⟨#[]⟩, false⟩]
def topT : List Ent := [⟨⟨#[97]⟩, 2, ⟨#[]⟩, true⟩, ⟨⟨#[99]⟩, 4, ⟨#[]⟩, false⟩]
def whT : List Ent := [⟨⟨#[99]⟩, 4, ⟨#[]⟩, false⟩]
theorem lit_err : overErr topT lowT = 0 := by decide
theorem lit_over : overL topT lowT = [⟨⟨#[97]⟩, 2, ⟨#[]⟩, false⟩] := by decide
theorem lit_hides : hidesL whT [99] = true := by decide
theorem low_fits : Fits lowT := by unfold Fits lowT maxLen; decide
theorem top_fits : Fits topT := by unfold Fits topT maxLen; decide
theorem wh_fits : Fits whT := by unfold Fits whT maxLen; decide
def lowCells : Array Value := #[.string ⟨#[97]⟩, .int .i64 2, .string ⟨#[]⟩, .bool false, .string ⟨#[97, 47, 98]⟩, .int .i64 1, .string ⟨#[]⟩, .bool false, .string ⟨#[99]⟩, .int .i64 1, .string ⟨#[]⟩, .bool false]
def topCells : Array Value := #[.string ⟨#[97]⟩, .int .i64 2, .string ⟨#[]⟩, .bool true, .string ⟨#[99]⟩, .int .i64 4, .string ⟨#[]⟩, .bool false]
def whCells : Array Value := #[.string ⟨#[99]⟩, .int .i64 4, .string ⟨#[]⟩, .bool false]
theorem low_lies (w : World) : Lies (w.alloc (.cells lowCells 38)) (some ⟨w.heap.size, 0, none⟩) lowT :=
  (own_alloc w lowCells 3 lowT rfl (by decide) (by unfold maxLen; decide) (fun k v hk => by
      have : (lowT.flatMap encE) = lowCells.toList := rfl
      rw [this, Array.getElem?_toList] at hk; exact hk)).lies
theorem top_lies (w : World) : Lies (w.alloc (.cells topCells 38)) (some ⟨w.heap.size, 0, none⟩) topT :=
  (own_alloc w topCells 2 topT rfl (by decide) (by unfold maxLen; decide) (fun k v hk => by
      have : (topT.flatMap encE) = topCells.toList := rfl
      rw [this, Array.getElem?_toList] at hk; exact hk)).lies
theorem wh_lies (w : World) : Lies (w.alloc (.cells whCells 38)) (some ⟨w.heap.size, 0, none⟩) whT :=
  (own_alloc w whCells 1 whT rfl (by decide) (by unfold maxLen; decide) (fun k v hk => by
      have : (whT.flatMap encE) = whCells.toList := rfl
      rw [this, Array.getElem?_toList] at hk; exact hk)).lies
theorem over_lit (m : Int) (w : World) (hm : w.cell? ⟨0, 0, none⟩ = some (.int .i64 m)) :
    Calls Tryd.prog 46 #[.slice (some ⟨w.heap.size + 1, 0, none⟩) 2 2, .slice (some ⟨w.heap.size, 0, none⟩) 3 3] ((w.alloc (.cells lowCells 38)).alloc (.cells topCells 38)) fun e w' =>
      ∃ g off c, e = .returned (.tuple #[.slice (some ⟨g, off, none⟩) 1 c, .int .i64 0]) ∧ w'.cell? ⟨g, off, none⟩ = some (.string ⟨#[97]⟩) ∧ w'.cell? ⟨g, off + 3, none⟩ = some (.bool false) ∧ Below w.heap.size w w' := by
  have hX : Below w.heap.size w ((w.alloc (.cells lowCells 38)).alloc (.cells topCells 38)) := ((Below.refl _ _).alloc (Nat.le_refl _) _).alloc (by simp) _
  have h1 := top_lies (w.alloc (.cells lowCells 38))
  have h2 := (low_lies w).grown ((Grown.refl _).alloc (.cells topCells 38))
  have hs : (w.alloc (.cells lowCells 38)).heap.size = w.heap.size + 1 := by simp
  rw [hs] at h1
  refine (over_any topT lowT m _ _ 2 3 _ h1 h2 top_fits low_fits (by decide) (by decide) (by decide) (by decide) (held hX hm)).mono ?_
  rintro e w' ⟨p, c, rfl, hl, hc, hn, hB⟩
  rw [lit_err, if_pos rfl, lit_over] at *
  rcases hl with h | ⟨g, off, rfl, hg, hcell⟩
  · cases h
  · exact ⟨g, off, c, rfl, hcell 0 _ rfl 0 _ rfl, hcell 0 _ rfl 3 _ rfl, Below.onto hX hB⟩
theorem hides_lit (w : World) :
    Calls Tryd.prog 44 #[.slice (some ⟨w.heap.size, 0, none⟩) 1 1, .string ⟨#[99]⟩] (w.alloc (.cells whCells 38)) fun e w' => e = .returned (.bool true) ∧ Below w.heap.size w w' := by
  refine (hides_any whT ⟨#[99]⟩ _ 1 _ (wh_lies w) wh_fits (by decide) (by unfold maxLen; decide)).mono ?_
  rintro e w' ⟨rfl, hG⟩
  have : hidesL whT (⟨#[99]⟩ : ByteArray).data.toList = true := lit_hides
  rw [this]
  exact ⟨rfl, ((Grown.refl w).alloc _ |>.trans hG).below⟩
set_option maxHeartbeats 4000000 in
set_option maxRecDepth 100000 in
theorem layerAlive_any (m : Int) (w : World) (hm : w.cell? ⟨0, 0, none⟩ = some (.int .i64 m)) :
    Calls Tryd.prog 50 #[] w fun e w' => e = .returned (.bool true) ∧ Below w.heap.size w w' := by
  have hov := over_lit m w hm
  have hhi := hides_lit
  unfold lowCells topCells at hov
  unfold whCells at hhi
  go_enter Tryd.func50, Tryd.ntmps50
  go_wp2_with (first
    | (go_at_call 46; refine hov.mono ?_; clear hov; rintro e w2 ⟨g, off, c, rfl, p0, p3, hB⟩)
    | (go_at_call 44; refine (hhi _).mono ?_; clear hhi; rintro e w6 ⟨rfl, hN⟩; replace hB := Below.onto hB hN; clear hN))
  go_ret
  exact ⟨rfl, hB⟩
end Go.Proofs.YtampldoimpfjgaaDoor
