/-
  What the document's own answers on paths (package traceref1) say: Split, Named, Clean, Cut, Under, Parse, Less.
-/
import Derived.Test.YtampldoimpfjgaaDoorWalks4
import Derived.Lib.ConvBytes
namespace Go.Proofs.YtampldoimpfjgaaDoor
open Go.RowKit PM
set_option linter.unusedVariables false

theorem refUnder_any (s d : ByteArray) (w : World) (hs : s.size ≤ maxLen) (hd : d.size ≤ maxLen) :
    Calls Tryd.prog 19 #[.string s, .string d] w fun e w' => e = .returned (.bool (under s.data.toList d.data.toList)) ∧ w' = w := by
  unfold maxLen at hs hd
  by_cases h : d.data.toList = []
  · have h1 := empty_of h
    have HJ : Hid (under s.data.toList d.data.toList = !s.toList.isEmpty) := by show _ = _; rw [under, h, Lib.toList_data]; rfl
    clear h
    go_enter Tryd.func19, Tryd.ntmps19
    go_wp2
    go_ret
    exact ⟨ret_bool HJ.out.symm, rfl⟩
  · have h1 := empty_not h
    by_cases h2 : d.size < s.size
    · have HU : Hid (under s.data.toList d.data.toList = (decide (s[d.size] = 47) && decide (s.data.toList.take d.size = d.data.toList))) := under_long s d h h2
      have hT : ((s.extract 0 d.size).toList == d.toList) = decide (s.data.toList.take d.size = d.data.toList) := take_is s d (by omega)
      have g2 : (d.size : Int) < (s.size : Int) := by omega
      clear h
      by_cases h3 : s.data.toList.take d.size = d.data.toList
      · have H3 : Hid (s.data.toList.take d.size = d.data.toList) := h3
        have h4 : ((s.extract 0 d.size).toList == d.toList) = true := by rw [hT]; simpa using h3
        have HE : Hid (((s[d.size].toNat : Int) == 47) = decide (s[d.size] = 47)) := by
          show _ = _
          by_cases e : s[d.size] = 47
          · rw [e]; rfl
          · exact (show _ = false from byte_eq (y := 47) e).trans (by simp [e])
        clear h3 hT
        go_enter Tryd.func19, Tryd.ntmps19
        go_wp2
        go_ret
        exact ⟨ret_bool (by rw [HU.out, HE.out]; simp [H3.out]), rfl⟩
      · have H3 : Hid (¬ s.data.toList.take d.size = d.data.toList) := h3
        have h4 : ((s.extract 0 d.size).toList == d.toList) = false := by rw [hT]; simpa using h3
        clear h3 hT
        go_enter Tryd.func19, Tryd.ntmps19
        go_wp2
        go_ret
        exact ⟨ret_bool (by rw [HU.out]; simp [H3.out]), rfl⟩
    · have HU : Hid (under s.data.toList d.data.toList = false) := under_short s d h (by omega)
      have g2 : ¬ (d.size : Int) < (s.size : Int) := by omega
      clear h
      go_enter Tryd.func19, Tryd.ntmps19
      go_wp2
      go_ret
      exact ⟨ret_bool (by rw [HU.out]), rfl⟩

/-! Named -/
theorem below_bytes (w : World) (e : TypeId) (s : ByteArray) : Below w.heap.size w (Lib.bytesWorld w e s) :=
  ⟨rfl, rfl, rfl, by rw [Lib.bytesWorld_size]; omega, fun k hk => Lib.bytesWorld_at_old w e s k hk⟩
theorem okB_iff (c : UInt8) : okB c = true ↔ (97 ≤ (c.toNat : Int) ∧ (c.toNat : Int) ≤ 122) ∨ (48 ≤ (c.toNat : Int) ∧ (c.toNat : Int) ≤ 57) := by
  simp [okB, UInt8.le_iff_toNat_le]; omega
theorem getD_get (s : ByteArray) (k : Nat) (h : k < s.size) : s.data.toList.getD k 0 = s[k] := by
  rw [List.getD_eq_getElem?_getD, List.getElem?_eq_getElem (by rw [szl]; exact h), Array.getElem_toList]; rfl
set_option maxHeartbeats 2000000 in
theorem refNamed_any (s : ByteArray) (w : World) (hs : s.size ≤ maxLen) :
    Calls Tryd.prog 15 #[.string s] w fun e w' => e = .returned (.bool (named s.data.toList)) ∧ Below w.heap.size w w' := by
  unfold maxLen at hs
  have hcv := Lib.run_convert_string_bytes (P := Tryd.prog) w 9 63 5 s (u := .string) Tryd.underlying9 Tryd.underlying63 Tryd.underlying5
  have hB := below_bytes w 5 s
  have hcell := fun j hj => Lib.bytesWorld_cell w 5 s j hj
  generalize Lib.bytesWorld w 5 s = W1 at *
  generalize grownCap w s.size 0 5 = cap at *
  have HC : Hid (∀ j, j < s.size → W1.cell? ⟨w.heap.size, j, none⟩ = some (.int .u8 (s.data.toList.getD j 0).toNat)) := hcell
  clear hcell
  go_enter Tryd.func15, Tryd.ntmps15
  go_wp2
  clear hcv
  go_loop [8] (fun i => ∃ k : Nat, k ≤ s.size ∧ i = .int .i64 k ∧ Hid (∀ c ∈ s.data.toList.take k, okB c = true)) (fun i => s.size - (intOf i).toNat)
  case atStart => exact ⟨0, Nat.zero_le _, rfl, by intro c hc; simp at hc⟩
  case round =>
    obtain ⟨k, hk, rfl, HA⟩ := hrel
    by_cases hlt : k < s.size
    · have hlt' : (k : Int) < (s.size : Int) := by omega
      have hc : W1.cell? ⟨w.heap.size, k, none⟩ = some (.int .u8 (s[k].toNat : Int)) := by rw [← getD_get s k hlt]; exact HC.out k hlt
      have hb := (s[k]).toNat_lt
      cases ho : okB s[k] with
      | true =>
        have HN : Hid (∀ c ∈ s.data.toList.take (k + 1), okB c = true) := all_snoc s k hlt HA.out ho
        have ho' := (okB_iff _).1 ho
        clear HA ho
        rcases ho' with ⟨g1, g2⟩ | ⟨g1, g2⟩
        · go_wp2
          exact ⟨⟨k + 1, by omega, by go_num, HN⟩, by simp [intOf]; omega⟩
        · have g3 : ¬ 97 ≤ (s[k].toNat : Int) := by omega
          go_wp2
          exact ⟨⟨k + 1, by omega, by go_num, HN⟩, by simp [intOf]; omega⟩
      | false =>
        have HN : Hid (named s.data.toList = false) := not_named_at s k hlt ho
        have ho' : ¬ ((97 ≤ (s[k].toNat : Int) ∧ (s[k].toNat : Int) ≤ 122) ∨ (48 ≤ (s[k].toNat : Int) ∧ (s[k].toNat : Int) ≤ 57)) := fun e => by rw [(okB_iff _).2 e] at ho; cases ho
        clear HA ho
        by_cases g1 : 97 ≤ (s[k].toNat : Int)
        · have g2 : ¬ (s[k].toNat : Int) ≤ 122 := by omega
          have g3 : ¬ (s[k].toNat : Int) ≤ 57 := by omega
          clear ho'
          go_wp2
          go_ret
          exact ⟨ret_bool HN.out.symm, hB⟩
        · by_cases g2 : 48 ≤ (s[k].toNat : Int)
          · have g3 : ¬ (s[k].toNat : Int) ≤ 57 := by omega
            clear ho'
            go_wp2
            go_ret
            exact ⟨ret_bool HN.out.symm, hB⟩
          · clear ho'
            go_wp2
            go_ret
            exact ⟨ret_bool HN.out.symm, hB⟩
    · have hlt' : ¬ (k : Int) < (s.size : Int) := by omega
      have HN : Hid (named s.data.toList = (decide (1 ≤ (s.size : Int)) && decide ((s.size : Int) ≤ 12))) := by
        show _ = _
        rw [Bool.eq_iff_iff, named_iff, Bool.and_eq_true, decide_eq_true_eq, decide_eq_true_eq, szl]
        constructor
        · rintro ⟨a, b, _⟩
          refine ⟨?_, by omega⟩
          have : s.data.toList.length ≠ 0 := fun e => a (List.length_eq_zero_iff.1 e)
          rw [szl] at this; omega
        · rintro ⟨a, b⟩
          refine ⟨fun e => ?_, by omega, fun c hc => HA.out c (by rw [List.take_of_length_le (by rw [szl]; omega)]; exact hc)⟩
          have : s.size = 0 := by rw [← szl, e]; rfl
          omega
      clear HA
      by_cases g1 : 1 ≤ (s.size : Int)
      · have HG : Hid (decide (1 ≤ (s.size : Int)) = true) := by show _ = _; simpa using g1
        go_wp2
        go_ret
        exact ⟨ret_bool (by rw [HN.out, HG.out]; simp), hB⟩
      · have HG : Hid (decide (1 ≤ (s.size : Int)) = false) := by show _ = _; simpa using g1
        go_wp2
        go_ret
        exact ⟨ret_bool (by rw [HN.out, HG.out]; simp), hB⟩

/-! Cut -/
set_option maxHeartbeats 2000000 in
theorem refCut_any (s : ByteArray) (w : World) (hs : s.size < 4611686018427387904) :
    Calls Tryd.prog 21 #[.string s] w fun e w' => (∃ d n : ByteArray, e = .returned (.tuple #[.string d, .string n]) ∧ d.data.toList = (cutL s.data.toList).1 ∧ n.data.toList = (cutL s.data.toList).2) ∧ ∃ n, w' = w.drewN n := by
  go_enter Tryd.func21, Tryd.ntmps21
  go_wp2
  go_loop [4] (fun i => ∃ k : Nat, k ≤ s.size ∧ i = .int .i64 ((k : Int) - 1) ∧ Hid (∀ c ∈ s.data.toList.drop k, c ≠ 47)) (fun i => (intOf i + 1).toNat)
  case atStart => exact ⟨s.size, Nat.le_refl _, rfl, by intro c hc; rw [List.drop_of_length_le (by rw [szl]; omega)] at hc; cases hc⟩
  case round =>
    obtain ⟨k, hk, rfl, HA⟩ := hrel
    cases k with
    | zero =>
      have HC : Hid (cutL s.data.toList = ([], s.data.toList)) := cutL_free _ (by simpa using HA.out)
      clear HA
      go_wp2
      go_ret2
      exact ⟨⟨_, _, rfl, by rw [HC.out], by rw [HC.out]⟩, 0, rfl⟩
    | succ j =>
      have hj : j < s.size := by omega
      have e : ((j + 1 : Nat) : Int) - 1 = (j : Int) := by omega
      rw [e]
      clear e
      have hg := drop_get s j hj
      by_cases h : s[j] = 47
      · have h4 : ((s[j].toNat : Int) == 47) = true := by rw [h]; rfl
        have HC : Hid (cutL s.data.toList = (s.data.toList.take j, s.data.toList.drop (j + 1))) := by
          show _ = _
          conv => lhs; rw [← List.take_append_drop j s.data.toList, hg, h]
          exact cutL_slash _ _ HA.out
        clear HA h hg
        go_wp2
        go_quiet (fail)
        go_wp2
        go_ret2
        exact ⟨⟨_, _, rfl, by rw [HC.out, Lib.extract_from_zero], by rw [HC.out, Lib.extract_to_end]⟩, _, rfl⟩
      · have h4 : ((s[j].toNat : Int) == 47) = false := byte_eq (y := 47) h
        have HN : Hid (∀ c ∈ s.data.toList.drop j, c ≠ 47) := by
          intro c hc
          rw [hg] at hc
          rcases List.mem_cons.1 hc with rfl | hc
          · exact h
          · exact HA.out c hc
        clear HA h hg
        go_wp2
        exact ⟨⟨j, by omega, by go_num, HN⟩, by simp [intOf]⟩
end Go.Proofs.YtampldoimpfjgaaDoor
