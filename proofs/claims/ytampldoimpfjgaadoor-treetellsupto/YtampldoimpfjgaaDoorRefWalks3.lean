/-
  What the document's own answers on paths that read lists (package traceref1) say: Clean, Parse, Less, SameTexts.
-/
import Derived.Test.YtampldoimpfjgaaDoorLessMath
namespace Go.Proofs.YtampldoimpfjgaaDoor
open Go.RowKit PM
set_option linter.unusedVariables false

theorem Strs.opened {w : World} {base : Nat} {v : Value} {bs : List ByteArray} (h : Strs w base v bs) (hn : 0 < bs.length) :
    ∃ g cap, v = .slice (some ⟨g, 0, none⟩) bs.length cap ∧ base ≤ g ∧ g < w.heap.size ∧ ∀ (j : Nat) x, bs[j]? = some x → w.cell? ⟨g, j, none⟩ = some (.string x) := by
  rcases h.2 with ⟨_, h0⟩ | ⟨g, cap, cur, rfl, hg, hh, r1, r2, r3, r4⟩
  · omega
  · refine ⟨g, cap, rfl, hg, ?_, fun j x hx => ?_⟩
    · rcases Nat.lt_or_ge g w.heap.size with h' | h'
      · exact h'
      · rw [Array.getElem?_eq_none h'] at hh; cases hh
    · have := World.ownsRow.cells (w := w) h (g := g) rfl j (.string x) (by rw [List.getElem?_map, hx]; rfl)
      by_cases hj : j = 0
      · subst hj; simpa [Addr.add] using this
      · simpa [Addr.add, hj] using this
theorem parts_pos {l : List UInt8} {bs : List ByteArray} (h : bs.map (·.data.toList) = parts l) : 0 < bs.length := by
  rcases Nat.eq_zero_or_pos bs.length with h0 | h0
  · have := congrArg List.length h
    rw [List.length_map, h0] at this
    exact absurd (List.length_eq_zero_iff.1 this.symm) (pa_ne l [])
  · exact h0

set_option maxHeartbeats 4000000 in
theorem refClean_any (s : ByteArray) (w : World) (hs : s.size ≤ 4294967296) :
    Calls Tryd.prog 17 #[.string s] w fun e w' => e = .returned (.bool (clean s.data.toList)) ∧ Below w.heap.size w w' := by
  go_enter Tryd.func17, Tryd.ntmps17
  go_wp2_with (go_at_call 53; fail)
  refine (refSplit_any s w hs).mono ?_
  rintro e w1 ⟨⟨v, bs, rfl, hS, hP⟩, hB⟩
  obtain ⟨g, cap, rfl, hg1, hg2, hcells⟩ := hS.opened (parts_pos hP)
  have HP : Hid (bs.map (·.data.toList) = parts s.data.toList) := hP
  have HC : Hid (∀ (j : Nat) x, bs[j]? = some x → w1.cell? ⟨g, j, none⟩ = some (.string x)) := hcells
  have hbl : bs.length ≤ s.size + 1 := by
    have h1 := parts_length s.data.toList
    rw [← hP, List.length_map, szl] at h1; exact h1
  clear hP hcells hS
  go_wp2
  go_loopw [8] (fun i wr => ∃ k : Nat, k ≤ bs.length ∧ i = .int .i64 k ∧ Below w1.heap.size w1 wr ∧ Hid (∀ p ∈ (parts s.data.toList).take k, named p = true)) (fun i _ => bs.length - (intOf i).toNat)
  case atStart => exact ⟨0, Nat.zero_le _, rfl, Below.refl _ _, by intro c hc; simp at hc⟩
  case round =>
    obtain ⟨k, hk, rfl, hBr, HA⟩ := hrel
    by_cases hlt : k < bs.length
    · have hlt' : (k : Int) < (bs.length : Int) := by omega
      obtain ⟨p, hp⟩ : ∃ p, bs[k]? = some p := ⟨_, List.getElem?_eq_getElem hlt⟩
      have hcell : wr.cell? ⟨g, k, none⟩ = some (.string p) := (hBr.cell (p := ⟨g, k, none⟩) hg2).trans (HC.out k p hp)
      have hps := (pieces_at s HP.out hp).2
      have hpm : p.size ≤ maxLen := by unfold maxLen; omega
      have HPk : Hid ((parts s.data.toList)[k]? = some p.data.toList) := by show _ = _; rw [← HP.out, List.getElem?_map, hp]; rfl
      clear hp
      cases hn : named p.data.toList with
      | true =>
        have HN : Hid (∀ q ∈ (parts s.data.toList).take (k + 1), named q = true) := take_snoc HPk.out HA.out hn
        clear HA
        go_wp2_with (go_at_call 15; refine (refNamed_any _ _ (by assumption)).mono ?_; rintro e w2 ⟨rfl, hB2⟩)
        exact ⟨⟨k + 1, by omega, by go_num, Below.onto hBr hB2, HN⟩, by simp [intOf]; omega⟩
      | false =>
        have HN : Hid (clean s.data.toList = false) := by
          show _ = _
          cases hc : clean s.data.toList with
          | false => rfl
          | true => rw [((clean_iff _).1 hc).2 _ (List.mem_of_getElem? HPk.out)] at hn; cases hn
        clear HA
        go_wp2_with (go_at_call 15; refine (refNamed_any _ _ (by assumption)).mono ?_; rintro e w2 ⟨rfl, hB2⟩)
        go_ret
        exact ⟨ret_bool HN.out.symm, Below.onto hB (Below.onto hBr hB2)⟩
    · have hlt' : ¬ (k : Int) < (bs.length : Int) := by omega
      have HN : Hid (clean s.data.toList = decide ((s.size : Int) ≤ 80)) := by
        show _ = _
        rw [Bool.eq_iff_iff, clean_iff, decide_eq_true_eq, szl]
        constructor
        · rintro ⟨a, _⟩; omega
        · intro a
          exact ⟨by omega, fun p hp => HA.out p (by rw [List.take_of_length_le (by rw [← HP.out, List.length_map]; omega)]; exact hp)⟩
      clear HA
      go_wp2
      go_ret
      exact ⟨ret_bool HN.out.symm, Below.onto hB hBr⟩

set_option maxHeartbeats 4000000 in
theorem refLess_any (s t : ByteArray) (w : World) (hs : s.size ≤ 4294967296) (ht : t.size ≤ 4294967296) :
    Calls Tryd.prog 24 #[.string s, .string t] w fun e w' => e = .returned (.bool (decide (cmp s.data.toList t.data.toList < 0))) ∧ Below w.heap.size w w' := by
  rw [← lessP_parts]
  go_enter Tryd.func24, Tryd.ntmps24
  go_wp2_with (go_at_call 53; fail)
  refine (refSplit_any s w hs).mono ?_
  rintro e w1 ⟨⟨v, bs, rfl, hS, hP⟩, hB⟩
  obtain ⟨g, cap, rfl, hg1, hg2, hcells⟩ := hS.opened (parts_pos hP)
  have HP : Hid (bs.map (·.data.toList) = parts s.data.toList) := hP
  have HC : Hid (∀ (j : Nat) x, bs[j]? = some x → w1.cell? ⟨g, j, none⟩ = some (.string x)) := hcells
  have hbl : bs.length ≤ s.size + 1 := by
    have h1 := parts_length s.data.toList
    rw [← hP, List.length_map, szl] at h1; exact h1
  clear hP hcells hS
  go_wp2_with (go_at_call 53; fail)
  refine (refSplit_any t w1 ht).mono ?_
  rintro e w2 ⟨⟨v2, cs, rfl, hS, hP⟩, hB2⟩
  obtain ⟨g', cap', rfl, hg1', hg2', hcells⟩ := hS.opened (parts_pos hP)
  have HP2 : Hid (cs.map (·.data.toList) = parts t.data.toList) := hP
  have HC2 : Hid (∀ (j : Nat) x, cs[j]? = some x → w2.cell? ⟨g', j, none⟩ = some (.string x)) := hcells
  have HC1 : Hid (∀ (j : Nat) x, bs[j]? = some x → w2.cell? ⟨g, j, none⟩ = some (.string x)) := fun j x hx => (hB2.cell (p := ⟨g, j, none⟩) hg2).trans (HC.out j x hx)
  have hcl : cs.length ≤ t.size + 1 := by
    have h1 := parts_length t.data.toList
    rw [← hP, List.length_map, szl] at h1; exact h1
  have hBB := Below.onto hB hB2
  have HX : Hid ((parts s.data.toList).length = bs.length) := by show _ = _; rw [← HP.out, List.length_map]
  have HY : Hid ((parts t.data.toList).length = cs.length) := by show _ = _; rw [← HP2.out, List.length_map]
  clear hP hcells hS HC hB hB2
  go_wp2
  go_loopw [14] (fun i wr => ∃ k : Nat, k ≤ bs.length ∧ k ≤ cs.length ∧ i = .int .i64 k ∧ (∃ n, wr = w2.drewN n) ∧ Hid (lessP ((parts s.data.toList).drop k) ((parts t.data.toList).drop k) = lessP (parts s.data.toList) (parts t.data.toList))) (fun i _ => bs.length - (intOf i).toNat)
  case atStart => exact ⟨0, Nat.zero_le _, Nat.zero_le _, rfl, ⟨0, rfl⟩, rfl⟩
  case round =>
    obtain ⟨k, hk, hk2, rfl, ⟨n, rfl⟩, HA⟩ := hrel
    by_cases hlt : k < bs.length
    · have hlt' : (k : Int) < (bs.length : Int) := by omega
      obtain ⟨p, hp⟩ : ∃ p, bs[k]? = some p := ⟨_, List.getElem?_eq_getElem hlt⟩
      have hcell : w2.cell? ⟨g, k, none⟩ = some (.string p) := HC1.out k p hp
      have HPk : Hid ((parts s.data.toList)[k]? = some p.data.toList) := by show _ = _; rw [← HP.out, List.getElem?_map, hp]; rfl
      clear hp
      by_cases hlt2 : k < cs.length
      · have hge : decide ((cs.length : Int) ≤ (k : Int)) = false := by simp; omega
        have hlt2' : (k : Int) < (cs.length : Int) := by omega
        obtain ⟨q, hq⟩ : ∃ q, cs[k]? = some q := ⟨_, List.getElem?_eq_getElem hlt2⟩
        have hcell2 : w2.cell? ⟨g', k, none⟩ = some (.string q) := HC2.out k q hq
        have HQk : Hid ((parts t.data.toList)[k]? = some q.data.toList) := by show _ = _; rw [← HP2.out, List.getElem?_map, hq]; rfl
        clear hq
        have hat := lessP_at HPk.out HQk.out
        by_cases he : p.data.toList = q.data.toList
        · obtain rfl := bytes_ext he
          rw [if_pos rfl] at hat
          have HN : Hid (lessP ((parts s.data.toList).drop (k + 1)) ((parts t.data.toList).drop (k + 1)) = lessP (parts s.data.toList) (parts t.data.toList)) := by show _ = _; rw [← HA.out, hat]
          have hbl1 : Op.bytesLess p.toList p.toList = false := bl_irrefl _
          clear HA he hat
          go_wp2
          go_quiet (fail)
          go_wp2
          go_quiet (fail)
          go_wp2
          exact ⟨⟨k + 1, by omega, by omega, by go_num, ⟨_, rfl⟩, HN⟩, by simp [intOf]; omega⟩
        · rw [if_neg he] at hat
          have heq : (p.toList == q.toList) = false := by rw [Lib.toList_data, Lib.toList_data]; simpa using he
          cases hl : Op.bytesLess p.toList q.toList with
          | true =>
            have HN : Hid (lessP (parts s.data.toList) (parts t.data.toList) = true) := by show _ = _; rw [← HA.out, hat, ← Lib.toList_data, ← Lib.toList_data]; exact hl
            clear HA he hat
            go_wp2
            go_quiet (fail)
            go_wp2
            go_quiet (fail)
            go_wp2
            go_ret
            exact ⟨ret_bool HN.out.symm, by repeat (first | exact hBB | refine below_drewN ?_ _)⟩
          | false =>
            have HN : Hid (lessP (parts s.data.toList) (parts t.data.toList) = false) := by show _ = _; rw [← HA.out, hat, ← Lib.toList_data, ← Lib.toList_data]; exact hl
            clear HA he hat
            go_wp2
            go_quiet (fail)
            go_wp2
            go_ret
            exact ⟨ret_bool HN.out.symm, by repeat (first | exact hBB | refine below_drewN ?_ _)⟩
      · have hge : decide ((cs.length : Int) ≤ (k : Int)) = true := by simp; omega
        have hge' : (cs.length : Int) ≤ (k : Int) := by omega
        have HN : Hid (lessP (parts s.data.toList) (parts t.data.toList) = false) := by show _ = _; rw [← HA.out]; exact lessP_short (by rw [HX.out]; omega) (by rw [HY.out]; omega)
        clear HA
        go_wp2
        go_quiet (fail)
        go_wp2
        go_ret
        exact ⟨ret_bool HN.out.symm, by repeat (first | exact hBB | refine below_drewN ?_ _)⟩
    · have hlt' : ¬ (k : Int) < (bs.length : Int) := by omega
      have HN : Hid (lessP (parts s.data.toList) (parts t.data.toList) = decide (bs.length < cs.length)) := by
        show _ = _
        rw [← HA.out, ← HX.out, ← HY.out]
        rw [lessP_end (by rw [HX.out]; omega) (by rw [HY.out]; omega)]; simp
      clear HA
      go_wp2
      go_ret
      exact ⟨ret_bool HN.out.symm, by repeat (first | exact hBB | refine below_drewN ?_ _)⟩

/-! SameTexts -/
theorem Strs.len {w : World} {base : Nat} {v : Value} {bs : List ByteArray} (h : Strs w base v bs) : ∃ a c, v = .slice a bs.length c := h.form
set_option maxHeartbeats 4000000 in
theorem sameTexts_any (v1 v2 : Value) (bs cs : List ByteArray) (b1 b2 : Nat) (w : World) (h1 : Strs w b1 v1 bs) (h2 : Strs w b2 v2 cs) (he : bs = cs) (hl : bs.length ≤ 4294967297) :
    Calls Tryd.prog 27 #[v1, v2] w fun e w' => e = .returned (.bool true) ∧ Below w.heap.size w w' := by
  subst he
  rcases Nat.eq_zero_or_pos bs.length with h0 | h0
  · obtain ⟨a1, c1, rfl⟩ := h1.form
    obtain ⟨a2, c2, rfl⟩ := h2.form
    rw [h0]
    go_enter Tryd.func27, Tryd.ntmps27
    go_wp2
    refine wp_loop_rounds 1 ?_
    rw [rounds_succ]
    go_wp2
    go_ret
    exact ⟨rfl, Below.refl _ _⟩
  · obtain ⟨g1, p1, rfl, _, hg1, hc1⟩ := h1.opened h0
    obtain ⟨g2, p2, rfl, _, hg2, hc2⟩ := h2.opened h0
    have HC1 : Hid (∀ (j : Nat) x, bs[j]? = some x → w.cell? ⟨g1, j, none⟩ = some (.string x)) := hc1
    have HC2 : Hid (∀ (j : Nat) x, bs[j]? = some x → w.cell? ⟨g2, j, none⟩ = some (.string x)) := hc2
    clear hc1 hc2 h1 h2
    go_enter Tryd.func27, Tryd.ntmps27
    go_wp2
    go_loopw [13] (fun i wr => ∃ k : Nat, k ≤ bs.length ∧ i = .int .i64 k ∧ ∃ n, wr = w.drewN n) (fun i _ => bs.length - (intOf i).toNat)
    case atStart => exact ⟨0, Nat.zero_le _, rfl, 0, rfl⟩
    case round =>
      obtain ⟨k, hk, rfl, n, rfl⟩ := hrel
      by_cases hlt : k < bs.length
      · have hlt' : (k : Int) < (bs.length : Int) := by omega
        obtain ⟨p, hp⟩ : ∃ p, bs[k]? = some p := ⟨_, List.getElem?_eq_getElem hlt⟩
        have hcell1 := HC1.out k p hp
        have hcell2 := HC2.out k p hp
        clear hp
        go_wp2
        go_quiet (fail)
        go_wp2
        exact ⟨⟨k + 1, by omega, by go_num, _, rfl⟩, by simp [intOf]; omega⟩
      · have hlt' : ¬ (k : Int) < (bs.length : Int) := by omega
        go_wp2
        go_ret
        exact ⟨rfl, by repeat (first | exact Below.refl _ _ | refine below_drewN ?_ _)⟩

set_option maxHeartbeats 4000000 in
theorem refParse_any (s : ByteArray) (w : World) (hs : s.size ≤ 4294967296) :
    Calls Tryd.prog 26 #[.string s] w (ParsePost w (parseL s.data.toList).1 (parseL s.data.toList).2) := by
  by_cases h : s.size ≤ 80
  · have g : ¬ (80 : Int) < (s.size : Int) := by omega
    by_cases h0 : s.data.toList = []
    · have hz : s.size = 0 := by rw [← szl, h0]; rfl
      have h1 : ((s.size : Int) == 0) = true := by rw [hz]; rfl
      have HN : Hid (parseL s.data.toList = ([], 6)) := by show _ = _; rw [h0]; rfl
      clear h0 hz
      go_enter Tryd.func26, Tryd.ntmps26
      go_wp2
      go_ret2
      exact ParsePost.mk HN.out rfl rfl (Strs.nil _ _) rfl (Below.refl _ _)
    · have hz : s.size ≠ 0 := fun e => h0 (List.length_eq_zero_iff.1 (by rw [szl]; exact e))
      have h1 : ((s.size : Int) == 0) = false := by simp only [beq_eq_false_iff_ne, ne_eq]; omega
      have HL : Hid (∀ r, parseP (parts s.data.toList) = r → parseL s.data.toList = match r with | none => ([], 7) | some x => (x, 0)) := by
        intro r hr
        rw [parseL, if_neg (by rw [szl]; omega), isEmpty_not h0, hr]; rfl
      clear h0 hz
      obtain ⟨i0, hi, hz0, hz1, hz2⟩ := info9
      go_enter Tryd.func26, Tryd.ntmps26
      go_wp2_with (go_at_call 53; fail)
      refine (refSplit_any s w hs).mono ?_
      rintro e w1 ⟨⟨vv, Ps, rfl, hS, hP⟩, hB0⟩
      obtain ⟨gg, cap, rfl, hg1, hg2, hcells⟩ := hS.opened (parts_pos hP)
      have HP : Hid (Ps.map (·.data.toList) = parts s.data.toList) := hP
      have HC : Hid (∀ (j : Nat) x, Ps[j]? = some x → w1.cell? ⟨gg, j, none⟩ = some (.string x)) := hcells
      have hpl : Ps.length ≤ s.size + 1 := by
        have h1 := parts_length s.data.toList
        rw [← hP, List.length_map, szl] at h1; exact h1
      clear hP hcells hS
      go_wp2
      go_loopw [4, 16] (fun v i wr => ∃ (k : Nat) (bs : List ByteArray), k ≤ Ps.length ∧ i = .int .i64 k ∧ bs.length ≤ k ∧ Strs wr w1.heap.size v bs ∧ Below w1.heap.size w1 wr ∧
          Hid (parseP (parts s.data.toList) = (parseP ((parts s.data.toList).drop k)).map (bs.map (·.data.toList) ++ ·)))
        (fun _ i _ => Ps.length - (intOf i).toNat)
      case atStart => exact ⟨0, [], Nat.zero_le _, rfl, Nat.le_refl _, Strs.nil _ _, Below.refl _ _, by show _ = _; simp⟩
      case round =>
        obtain ⟨k, bs, hk, rfl, hbl, hS, hB, HI⟩ := hrel
        by_cases hlt : k < Ps.length
        · have hlt' : (k : Int) < (Ps.length : Int) := by omega
          obtain ⟨p, hp⟩ : ∃ p, Ps[k]? = some p := ⟨_, List.getElem?_eq_getElem (by omega)⟩
          have hcell : wr.cell? ⟨gg, k, none⟩ = some (.string p) := (hB.cell (p := ⟨gg, k, none⟩) hg2).trans (HC.out k p hp)
          have hps := (pieces_at s HP.out hp).2
          have hp80 : p.size ≤ maxLen := by unfold maxLen; omega
          have HPk : Hid ((parts s.data.toList)[k]? = some p.data.toList) := by show _ = _; rw [← HP.out, List.getElem?_map, hp]; rfl
          clear hp
          cases hsk : skip p.data.toList with
          | true =>
            have HN : Hid (parseP (parts s.data.toList) = (parseP ((parts s.data.toList).drop (k + 1))).map (bs.map (·.data.toList) ++ ·)) := parseP_skip HPk.out HI.out hsk
            clear HI
            by_cases h0 : p.data.toList = []
            · have hp0 := empty_of h0
              clear h0 hsk
              go_wp2
              exact ⟨⟨k + 1, bs, by omega, by go_num, by omega, hS, hB, HN⟩, by simp [intOf]; omega⟩
            · have hp0 := empty_not h0
              have hp1 : (p.toList == [46]) = true := beq_lit p [46] true (skip_yes hsk h0)
              clear h0 hsk
              go_wp2
              exact ⟨⟨k + 1, bs, by omega, by go_num, by omega, hS, hB, HN⟩, by simp [intOf]; omega⟩
          | false =>
            have hp0 := empty_not (skip_no hsk).1
            have hp1 : (p.toList == [46]) = false := beq_lit p [46] false (skip_no hsk).2
            cases hbd : bad p.data.toList with
            | true =>
              have HN : Hid (parseP (parts s.data.toList) = none) := parseP_bad HPk.out HI.out hsk hbd
              have HN2 : Hid (parseL s.data.toList = ([], 7)) := HL.out _ HN.out
              have hp2 := beq_lit p [46, 46] false (bad_yes hbd).1
              have hp2' := ne_lit p [46, 46] (bad_yes hbd).1
              have hp3 : named p.data.toList = false := (bad_yes hbd).2
              clear HI hsk hbd
              go_wp2_with (go_at_call 15; refine (refNamed_any _ _ (by assumption)).mono ?_; rintro e w2 ⟨rfl, hB2⟩)
              go_ret2
              exact ParsePost.mk HN2.out rfl rfl (Strs.nil _ _) rfl (Below.onto hB0 (Below.onto hB hB2))
            | false =>
              have HN : Hid (parseP (parts s.data.toList) = (parseP ((parts s.data.toList).drop (k + 1))).map ((bs ++ [p]).map (·.data.toList) ++ ·)) := by
                show _ = _
                rw [List.map_append]
                exact parseP_good HPk.out HI.out hsk hbd
              clear HI hsk
              rcases bad_no hbd with h2 | ⟨h2, h3⟩
              · have hS' : wr.ownsRow w1.heap.size 9 1 u4 bs.length (bs.map Value.string) := hS
                have hp2 := beq_lit p [46, 46] true h2
                have hp2' := eq_lit p [46, 46] h2
                clear h2 hbd hS
                go_wp2_with (at_builtin; refine wpList_append_own _ rfl _ _ 28 rfl w1.heap.size 9 i0 (.string ByteArray.empty) 1 16 Tryd.underlying28 hi hz0 hz1 hz2 rfl (by decide) _ _ _ rfl (hS'.alloc _) ⟨wr.heap.size, 0, none⟩ 1 1 [.string p] rfl rfl ?c1 ?c2 ?c3 ?c4 ?c5 ?_)
                case c1 => exact cell_one_new _ _ _
                case c2 => intro u hu; simp at hu; subst hu; rfl
                case c3 => unfold maxLen; omega
                case c4 => omega
                case c5 => have := hB.size; simp; omega
                · intro v' w3 hown hgrow _
                  go_wp2
                  have hB1 := grown_below hB hB.size hS' hgrow
                  exact ⟨⟨k + 1, bs ++ [p], by omega, by go_num, by simp; omega, by simpa [Strs] using hown, hB1, HN⟩, by simp [intOf]; omega⟩
              · have hp2 := beq_lit p [46, 46] false h2
                have hp2' := ne_lit p [46, 46] h2
                clear h2 hbd
                go_wp2_with (go_at_call 15; fail)
                refine (refNamed_any _ _ (by assumption)).mono ?_
                rintro e w2 ⟨rfl, hB2⟩
                have hBn := Below.onto hB hB2
                have hS' : w2.ownsRow w1.heap.size 9 1 u4 bs.length (bs.map Value.string) := hS.below hB2
                clear hB hB2 hS hcell
                go_wp2_with (at_builtin; refine wpList_append_own _ rfl _ _ 28 rfl w1.heap.size 9 i0 (.string ByteArray.empty) 1 16 Tryd.underlying28 hi hz0 hz1 hz2 rfl (by decide) _ _ _ rfl (hS'.alloc _) ⟨w2.heap.size, 0, none⟩ 1 1 [.string p] rfl rfl ?c1 ?c2 ?c3 ?c4 ?c5 ?_)
                case c1 => exact cell_one_new _ _ _
                case c2 => intro u hu; simp at hu; subst hu; rfl
                case c3 => unfold maxLen; omega
                case c4 => omega
                case c5 => have := hBn.size; simp; omega
                · intro v' w3 hown hgrow _
                  go_wp2
                  have hB1 := grown_below hBn hBn.size hS' hgrow
                  exact ⟨⟨k + 1, bs ++ [p], by omega, by go_num, by simp; omega, by simpa [Strs] using hown, hB1, HN⟩, by simp [intOf]; omega⟩
        · have hlt' : ¬ (k : Int) < (Ps.length : Int) := by omega
          have HN : Hid (parseL s.data.toList = (bs.map (·.data.toList), 0)) := by
            have hh := HL.out (some (bs.map fun x => x.data.toList)) (by
              rw [HI.out, List.drop_of_length_le (by rw [← HP.out, List.length_map]; omega)]; simp [parseP])
            exact hh
          clear HI HL
          go_wp2
          go_ret2
          exact ParsePost.mk HN.out rfl rfl (hS.mono hB0.size) rfl (Below.onto hB0 hB)
  · have g : (80 : Int) < (s.size : Int) := by omega
    have HN : Hid (parseL s.data.toList = ([], 4)) := by show _ = _; rw [parseL, if_pos (by rw [szl]; omega)]
    go_enter Tryd.func26, Tryd.ntmps26
    go_wp2
    go_ret2
    exact ParsePost.mk HN.out rfl rfl (Strs.nil _ _) rfl (Below.refl _ _)
end Go.Proofs.YtampldoimpfjgaaDoor
