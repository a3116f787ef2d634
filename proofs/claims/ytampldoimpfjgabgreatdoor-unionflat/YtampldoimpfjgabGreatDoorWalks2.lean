/-
  What path.Named, path.Clean and path.Parse answer, and what they leave of memory.
-/
import Derived.Test.YtampldoimpfjgabGreatDoorWalks1
import Derived.Shelf.Strings.PiecesUse
namespace Go.Proofs.YtampldoimpfjgabGreatDoor
open Go.RowKit PM
set_option linter.unusedVariables false

theorem named_iff (l : List UInt8) : named l = true ↔ l ≠ [] ∧ l.length ≤ 12 ∧ ∀ c ∈ l, okB c = true := by
  simp [named, List.all_eq_true, and_assoc]
theorem all_snoc (s : ByteArray) (k : Nat) (h : k < s.size) (ha : ∀ c ∈ s.data.toList.take k, okB c = true) (hc : okB s[k] = true) : ∀ c ∈ s.data.toList.take (k + 1), okB c = true := by
  have e : s.data.toList.take (k + 1) = s.data.toList.take k ++ [s[k]] := by
    rw [List.take_succ_eq_append_getElem (by rw [szl]; exact h), Array.getElem_toList]; rfl
  rw [e]
  intro c hm
  rcases List.mem_append.1 hm with hm | hm
  · exact ha c hm
  · simp at hm; rw [hm]; exact hc
theorem not_named_at (s : ByteArray) (k : Nat) (h : k < s.size) (hc : okB s[k] = false) : named s.data.toList = false := by
  cases hn : named s.data.toList with
  | false => rfl
  | true =>
    have := ((named_iff _).1 hn).2.2 s[k] (by
      have hm := List.getElem_mem (l := s.data.toList) (n := k) (by rw [szl]; exact h)
      rwa [Array.getElem_toList] at hm)
    rw [hc] at this; cases this
set_option maxHeartbeats 400000 in
theorem named_any (s : ByteArray) (w : World) (hs : s.size ≤ maxLen) :
    Calls Tryz.prog 90 #[.string s] w fun e w' => e = .returned (.bool (named s.data.toList)) ∧ w' = w := by
  unfold maxLen at hs
  by_cases h : s.data.toList = []
  · have h1 := empty_of h
    have HN : Hid (named s.data.toList = false) := by show _ = _; rw [h]; rfl
    clear h
    go_enter Tryz.func90, Tryz.ntmps90
    go_wp2
    go_ret
    exact ⟨ret_bool HN.out.symm, rfl⟩
  · have h1 := empty_not h
    by_cases h2 : s.size ≤ 12
    · have HE : Hid (s.data.toList ≠ []) := h
      have g2 : ¬ (12 : Int) < (s.size : Int) := by omega
      clear h
      go_enter Tryz.func90, Tryz.ntmps90
      go_wp2
      go_loop [13] (fun i => ∃ k : Nat, k ≤ s.size ∧ i = .int .i64 k ∧ Hid (∀ c ∈ s.data.toList.take k, okB c = true)) (fun i => s.size - (intOf i).toNat)
      case atStart => exact ⟨0, Nat.zero_le _, rfl, by intro c hc; simp at hc⟩
      case round =>
        obtain ⟨k, hk, rfl, HA⟩ := hrel
        by_cases hlt : k < s.size
        · have hlt' : (k : Int) < (s.size : Int) := by omega
          cases hc : okB s[k] with
          | true =>
            have HN : Hid (∀ c ∈ s.data.toList.take (k + 1), okB c = true) := all_snoc s k hlt HA.out hc
            clear HA
            go_wp2_with (go_at_call 121; refine (ofName_any _ _).mono ?_; rintro e w' ⟨rfl, rfl⟩)
            go_round
            case rel => exact ⟨k + 1, by omega, by go_num, HN⟩
            case measure => simp [intOf]; omega
          | false =>
            have HN : Hid (named s.data.toList = false) := not_named_at s k hlt hc
            clear HA
            go_wp2_with (go_at_call 121; refine (ofName_any _ _).mono ?_; rintro e w' ⟨rfl, rfl⟩)
            go_ret
            exact ⟨ret_bool HN.out.symm, rfl⟩
        · have HN : Hid (named s.data.toList = true) := (named_iff _).2 ⟨HE.out, by rw [szl]; omega, fun c hc => HA.out c (by rw [List.take_of_length_le (by rw [szl]; omega)]; exact hc)⟩
          have hlt' : ¬ (k : Int) < (s.size : Int) := by omega
          clear HA
          go_wp2
          go_ret
          exact ⟨ret_bool HN.out.symm, rfl⟩
    · have HN : Hid (named s.data.toList = false) := by
        show _ = _
        cases hn : named s.data.toList with
        | false => rfl
        | true => have := ((named_iff _).1 hn).2.1; rw [szl] at this; omega
      have g2 : (12 : Int) < (s.size : Int) := by omega
      clear h
      go_enter Tryz.func90, Tryz.ntmps90
      go_wp2
      go_ret
      exact ⟨ret_bool HN.out.symm, rfl⟩

/-! Clean -/
theorem clean_iff (l : List UInt8) : clean l = true ↔ l.length ≤ 80 ∧ ∀ p ∈ parts l, named p = true := by
  simp [clean, List.all_eq_true]
theorem cell_lt {w : World} {a : Addr} {v : Value} (h : w.cell? a = some v) : a.block < w.heap.size := World.block_lt_of_cell? w a h
/-- The library's pieces of a text: what their list, read as lists of bytes, is. -/
theorem pieces_at (s : ByteArray) {k : Nat} {p : ByteArray} {Ps : List ByteArray} (hP : Ps.map (·.data.toList) = parts s.data.toList) (h : Ps[k]? = some p) : p.data.toList ∈ parts s.data.toList ∧ p.size ≤ s.size := by
  have hm : p.data.toList ∈ parts s.data.toList := by rw [← hP]; exact List.mem_map_of_mem (List.mem_of_getElem? h)
  refine ⟨hm, ?_⟩
  have := parts_mem hm
  rwa [szl, szl] at this
theorem take_snoc {L : List (List UInt8)} {k : Nat} {p : List UInt8} (h : L[k]? = some p) (ha : ∀ q ∈ L.take k, named q = true) (hp : named p = true) : ∀ q ∈ L.take (k + 1), named q = true := by
  rw [List.take_add_one, h]
  intro q hq
  rcases List.mem_append.1 hq with hq | hq
  · exact ha q hq
  · simp at hq; rw [hq]; exact hp
set_option maxHeartbeats 1000000 in
theorem clean_any (s : ByteArray) (m : Int) (w : World) (hs : s.size ≤ maxLen) (hm : w.cell? ⟨0, 0, none⟩ = some (.int .i64 m)) :
    Calls Tryz.prog 53 #[.string s] w fun e w' => e = .returned (.bool (clean s.data.toList)) ∧ Below w.heap.size w w' := by
  unfold maxLen at hs
  by_cases h : s.size ≤ 80
  · have g : ¬ (80 : Int) < (s.size : Int) := by omega
    have cS := Tryz.strings_Split s ⟨#[47]⟩ m w (by omega) hm (by decide)
    have hP := split_parts s
    have hn := split_len s
    have hcnt : Lib.countB s ⟨#[47]⟩ ≤ s.size := Lib.countB_le ⟨#[47]⟩ (by decide) s.size s (Nat.le_refl _)
    generalize Lib.splitB ⟨#[47]⟩ 0 (Lib.countB s ⟨#[47]⟩) s = Ps at *
    generalize Lib.countB s ⟨#[47]⟩ = cn at *
    have HP : Hid (Ps.map (·.data.toList) = parts s.data.toList) := hP
    clear hP
    go_enter Tryz.func53, Tryz.ntmps53
    go_wp2_with (go_at_call 89; refine cS.mono ?_; rintro e w' ⟨rfl, hw⟩; rw [hw])
    clear cS
    go_loop [11] (fun i => ∃ k : Nat, k ≤ cn + 1 ∧ i = .int .i64 k ∧ Hid (∀ p ∈ (parts s.data.toList).take k, named p = true)) (fun i => cn + 1 - (intOf i).toNat)
    case atStart => exact ⟨0, Nat.zero_le _, rfl, by intro c hc; simp at hc⟩
    case round =>
      obtain ⟨k, hk, rfl, HA⟩ := hrel
      by_cases hlt : k < cn + 1
      · have hlt' : (k : Int) < (cn : Int) + 1 := by omega
        obtain ⟨p, hp⟩ : ∃ p, Ps[k]? = some p := ⟨_, List.getElem?_eq_getElem (by omega)⟩
        have hcell : (w.alloc (.cells (Ps.map Value.string).toArray 9)).cell? ⟨w.heap.size, k, none⟩ = some (.string p) := Lib.pieces_cell_at w Ps 9 k p hp
        have hps := (pieces_at s HP.out hp).2
        have hp80 : p.size ≤ maxLen := by unfold maxLen; omega
        have HPk : Hid ((parts s.data.toList)[k]? = some p.data.toList) := by show _ = _; rw [← HP.out, List.getElem?_map, hp]; rfl
        clear hp
        go_wp2_with (go_at_call 90; refine (named_any _ _ (by assumption)).mono ?_; rintro e w' ⟨rfl, rfl⟩)
        · have hno : named p.data.toList = false := by simpa using (by assumption : (!named p.data.toList) = true)
          have HN : Hid (clean s.data.toList = false) := by
            show _ = _
            cases hc : clean s.data.toList with
            | false => rfl
            | true => rw [((clean_iff _).1 hc).2 _ (List.mem_of_getElem? HPk.out)] at hno; cases hno
          go_ret
          exact ⟨ret_bool HN.out.symm, (Below.refl _ _).alloc (Nat.le_refl _) _⟩
        · have hyes : named p.data.toList = true := by simpa using (by assumption : (!named p.data.toList) = false)
          exact ⟨⟨k + 1, by omega, by go_num, take_snoc HPk.out HA.out hyes⟩, by simp [intOf]; omega⟩
      · have hlt' : ¬ (k : Int) < (cn : Int) + 1 := by omega
        have HN : Hid (clean s.data.toList = true) := (clean_iff _).2 ⟨by rw [szl]; exact h, fun p hp => HA.out p (by
          rw [List.take_of_length_le (by rw [← HP.out, List.length_map]; omega)]; exact hp)⟩
        clear HA
        go_wp2
        go_ret
        exact ⟨ret_bool HN.out.symm, (Below.refl _ _).alloc (Nat.le_refl _) _⟩
  · have g : (80 : Int) < (s.size : Int) := by omega
    have HN : Hid (clean s.data.toList = false) := by
      show _ = _
      cases hc : clean s.data.toList with
      | false => rfl
      | true => have := ((clean_iff _).1 hc).1; rw [szl] at this; omega
    go_enter Tryz.func53, Tryz.ntmps53
    go_wp2
    go_ret
    exact ⟨ret_bool HN.out.symm, Below.refl _ _⟩
end Go.Proofs.YtampldoimpfjgabGreatDoor
