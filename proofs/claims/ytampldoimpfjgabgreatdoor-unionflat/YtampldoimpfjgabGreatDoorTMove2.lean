/-
  tree.moved: the paths are turned, looked at, and sorted.
-/
import Derived.Test.YtampldoimpfjgabGreatDoorTMove
namespace Go.Proofs.YtampldoimpfjgabGreatDoor
open Go.RowKit PM Go.Sort
set_option linter.unusedVariables false

theorem Own.setPath {w : World} {g cap : Nat} {l : List Ent} (h : Own w g cap l) {j : Nat} {y : Ent} (hy : l[j]? = .some y) (q : ByteArray) : Own (w.setCell ⟨g, j * 4, none⟩ (.string q)) g cap (l.set j { y with path := q }) := by
  obtain ⟨hj, hyy⟩ := List.getElem?_eq_some_iff.1 hy
  obtain ⟨cur, hc, hs, hl, hm, hh⟩ := h
  refine ⟨_, heap_set hc (j * 4) (.string q), by simpa using hs, by simpa using hl, hm, fun k e he i v hv => ?_⟩
  have hi := encE_lt hv
  rw [List.getElem?_set] at he
  rw [Array.getElem?_setIfInBounds]
  by_cases hk : j = k
  · subst hk
    rw [if_pos rfl, if_pos hj] at he
    simp only [Option.some.injEq] at he
    subst he
    match i, hi, hv with
    | 0, _, hv => rw [if_pos (by omega), if_pos (by rw [hs]; omega)]; simpa [encE] using hv
    | 1, _, hv => rw [if_neg (by omega)]; exact hh j y hy 1 v (by simpa [encE] using hv)
    | 2, _, hv => rw [if_neg (by omega)]; exact hh j y hy 2 v (by simpa [encE] using hv)
    | 3, _, hv => rw [if_neg (by omega)]; exact hh j y hy 3 v (by simpa [encE] using hv)
  · rw [if_neg hk] at he
    rw [if_neg (by omega)]
    exact hh k e he i v hv

/-- What has been turned of the row's first k entries. -/
def dkL (R : List Ent) (frm to : ByteArray) (k : Nat) : List Ent := (R.take k).map (mvF frm to) ++ R.drop k
theorem dkL_len (R : List Ent) (frm to : ByteArray) (k : Nat) : (dkL R frm to k).length = R.length := by
  simp [dkL]; omega
theorem dkL_at {R : List Ent} {frm to : ByteArray} {k : Nat} {y : Ent} (hy : R[k]? = some y) : (dkL R frm to k)[k]? = some y := by
  have hk := (List.getElem?_eq_some_iff.1 hy).1
  unfold dkL
  rw [List.getElem?_append_right (by simp; omega)]
  simp [Nat.min_eq_left (Nat.le_of_lt hk), hy]
theorem dkL_step {R : List Ent} {frm to : ByteArray} {k : Nat} {y : Ent} (hy : R[k]? = some y) : dkL R frm to (k + 1) = (dkL R frm to k).set k (mvF frm to y) := by
  obtain ⟨hk, hyy⟩ := List.getElem?_eq_some_iff.1 hy
  apply List.ext_getElem?
  intro j
  unfold dkL
  rw [List.getElem?_set]
  by_cases e1 : k = j
  · subst e1
    rw [if_pos rfl, if_pos (by simp; omega), List.getElem?_append_left (by simp; omega)]
    simp [hy]
  · rw [if_neg e1]
    by_cases e2 : j < k
    · rw [List.getElem?_append_left (by simp; omega), List.getElem?_append_left (by simp; omega), List.getElem?_map, List.getElem?_map, List.getElem?_take, List.getElem?_take, if_pos (by omega), if_pos e2]
    · rw [List.getElem?_append_right (by simp; omega), List.getElem?_append_right (by simp; omega)]
      simp only [List.length_map, List.length_take, List.getElem?_drop]
      congr 1; omega
theorem dkL_same {R : List Ent} {frm to : ByteArray} {k : Nat} {y : Ent} (hy : R[k]? = some y) (hn : inM frm.data.toList y = false) : dkL R frm to (k + 1) = dkL R frm to k := by
  rw [dkL_step hy, mvF, hn]
  apply List.ext_getElem?
  intro j
  rw [List.getElem?_set]
  by_cases e : k = j
  · subst e
    have hk := (List.getElem?_eq_some_iff.1 hy).1
    rw [if_pos rfl, if_pos (by rw [dkL_len]; exact hk), dkL_at hy]; rfl
  · rw [if_neg e]

def MovedPost (t : List Ent) (frm to : ByteArray) (w : World) (r : Ending) (w' : World) : Prop :=
  (badMove t frm to = true ∧ TreePost 4 [] w r w') ∨ (badMove t frm to = false ∧ ∃ l : List Ent, l.Perm (movedPre t frm to) ∧ l.Pairwise (fun a b => ¬ cmp b.p a.p < 0) ∧ TreePost 0 l w r w')
theorem bad_at {R : List Ent} {frm to : ByteArray} {y : Ent} (hy : y ∈ R) (hi : inM frm.data.toList y = true) (hc : clean (mvE frm to y).p = false) : (R.any fun e => inM frm.data.toList e && !clean (mvE frm to e).p) = true :=
  List.any_eq_true.2 ⟨y, hy, by simp [hi, hc]⟩
theorem bad_step {R : List Ent} {frm to : ByteArray} {k : Nat} {y : Ent} (hy : R[k]? = some y) (h : ((R.take k).any fun e => inM frm.data.toList e && !clean (mvE frm to e).p) = false) (hb : (inM frm.data.toList y && !clean (mvE frm to y).p) = false) : ((R.take (k + 1)).any fun e => inM frm.data.toList e && !clean (mvE frm to e).p) = false := by
  rw [take_step hy, List.any_append, h]; simp [hb]
theorem eq_parts {a b : ByteArray} (h : a.data.toList = b.data.toList) : (a.toList == b.toList) = true ∧ a.toList = b.toList := by
  rw [Lib.toList_data, Lib.toList_data, h]; simp
theorem ne_parts {a b : ByteArray} (h : ¬ a.data.toList = b.data.toList) : (a.toList == b.toList) = false ∧ ¬ a.toList = b.toList := by
  rw [Lib.toList_data, Lib.toList_data]; exact ⟨by simpa using h, h⟩

set_option maxHeartbeats 4000000 in
set_option maxRecDepth 100000 in
theorem moved_any (t : List Ent) (frm to : ByteArray) (m : Int) (p : Option Addr) (cap : Nat) (w : World) (hL : Lies w p t) (hnil : p = none → cap = 0) (hr : Right false t) (hf : frm.size ≤ 80) (ht : to.size ≤ 80) (hm : w.cell? ⟨0, 0, none⟩ = some (.int .i64 m)) :
    Calls Tryz.prog 56 #[.slice p t.length cap, .string frm, .string to] w (MovedPost t frm to w) := by
  have hwo := without_any t to p cap w hL hnil hr.len
  have hR80 : (remL t to.data.toList).length ≤ 80 := Nat.le_trans (List.length_filter_le _ _) hr.len
  have HP80 : Aside (∀ y ∈ remL t to.data.toList, y.path.size ≤ 80) := fun y hy => clean_size (hr.clean (mem_remL.1 hy).1)
  have hsort := fun W g c (hO : Own W g c (movedPre t frm to)) => sort_any (movedPre t frm to) g c W hO
  have hml : (movedPre t frm to).length = (remL t to.data.toList).length := by simp [movedPre]
  rw [hml] at hsort
  have HB : Aside (badMove t frm to = (remL t to.data.toList).any fun e => inM frm.data.toList e && !clean (mvE frm to e).p) := rfl
  have HM : Aside (movedPre t frm to = dkL (remL t to.data.toList) frm to (remL t to.data.toList).length) := by show _ = _; simp [movedPre, dkL]
  obtain ⟨R, hRR⟩ : ∃ R, R = remL t to.data.toList := ⟨_, rfl⟩
  have HRR : Aside (remL t to.data.toList = R) := hRR.symm
  clear hL hnil hr
  unfold WithoutPost at hwo
  rw [← hRR] at hwo hR80 HP80 hsort hml HB HM
  clear hRR
  obtain ⟨n, hnl⟩ : ∃ n, n = R.length := ⟨_, rfl⟩
  have HN : Aside (n = R.length) := hnl
  rw [← hnl] at hwo hR80 hsort HM hml
  have hml2 : Aside ((movedPre t frm to).length = n) := hml
  clear hnl hml
  go_enter Tryz.func56, Tryz.ntmps56
  go_wp2_with (go_at_call 49; refine hwo.mono ?_; clear hwo; rintro e w1 ⟨g, c, rfl, hg, hO, hB⟩; have HO : Aside (Own w1 g c R) := hO; have HBl : Aside (Below w.heap.size w w1) := hB; clear hO hB)
  go_loopg [16] n (fun gg s16 wr => ∃ k : Nat, k ≤ n ∧ n - k ≤ gg ∧ s16 = .int .i64 k ∧ Aside (Own wr g c (dkL R frm to k)) ∧ Aside (Below w.heap.size w wr) ∧ Aside (((R.take k).any fun e => inM frm.data.toList e && !clean (mvE frm to e).p) = false))
  case atStart => exact ⟨0, Nat.zero_le _, by omega, rfl, by simpa [dkL, Aside] using HO.out, HBl.out, by simp [Aside]⟩
  case round =>
    obtain ⟨k, hk, hgg, rfl, OW, BW, NB⟩ := hrel
    have hglt := OW.out.lt
    have hne : g ≠ wr.heap.size := by omega
    by_cases hlt : k < n
    · have hltz : (k : Int) < (n : Int) := by omega
      obtain ⟨y, hy⟩ : ∃ y, R[k]? = some y := ⟨_, List.getElem?_eq_getElem (by have := HN.out; omega)⟩
      have HY : Aside (R[k]? = some y) := hy
      have hy80 := HP80.out y (List.mem_of_getElem? hy)
      obtain ⟨⟨c0, c1, c2, c3⟩, ⟨f0, f1, f2, f3⟩⟩ := OW.out.cells (dkL_at hy)
      have hym : y.path.size ≤ maxLen := by unfold maxLen; omega
      have hfm : frm.size ≤ maxLen := by unfold maxLen; omega
      have hun := fun W => under_any y.path frm W hym hfm
      have hcl := fun W (hB : Below w.heap.size w W) => clean_any (to ++ y.path.extract frm.size y.path.size) m W (by unfold maxLen; simp; omega) (held hB hm)
      clear hy
      cases hin : inM frm.data.toList y with
      | false =>
        have hp1 : ¬ y.path.data.toList = frm.data.toList := fun e => by
          unfold inM at hin; rw [show y.p = y.path.data.toList from rfl, e] at hin; simp at hin
        have hp2 : under y.path.data.toList frm.data.toList = false := by
          unfold inM at hin; exact (Bool.or_eq_false_iff.1 hin).2
        obtain ⟨e1, e2⟩ := ne_parts hp1
        rw [hp2] at hun
        clear hp1 hp2
        go_wp2_with (go_at_call 54; refine (hun _).mono ?_; rintro rr wx ⟨rfl, hwx⟩; subst wx)
        go_roundg (n - (k + 1))
        case measure => omega
        case rel => exact ⟨k + 1, by omega, by omega, by go_num, by rw [dkL_same HY.out hin]; exact OW.out.grown ((Grown.refl wr).alloc _), (BW.out.alloc BW.out.size _ : Below _ _ _), bad_step HY.out NB.out (by rw [hin]; rfl)⟩
      | true =>
        have hsz := inM_size hin
        have hszz : (frm.size : Int) ≤ (y.path.size : Int) := by omega
        have hways : (y.path.data.toList = frm.data.toList) ∨ (¬ y.path.data.toList = frm.data.toList ∧ under y.path.data.toList frm.data.toList = true) := by
          unfold inM at hin
          by_cases h : y.path.data.toList = frm.data.toList
          · exact .inl h
          · refine .inr ⟨h, ?_⟩
            rcases Bool.or_eq_true_iff.1 hin with g | g
            · exact absurd (of_decide_eq_true g) h
            · exact g
        have HE : Aside ((mvE frm to y).p = (to ++ y.path.extract frm.size y.path.size).data.toList) := rfl
        have HMV : Aside (mvF frm to y = { y with path := to ++ y.path.extract frm.size y.path.size }) := by show _ = _; rw [mvF, hin]; rfl
        have hcc : (to ++ y.path.extract frm.size y.path.size).size ≤ 160 := by simp; omega
        have hB2 : Below w.heap.size w ((wr.setCell ⟨g, k * 4, none⟩ (.string (to ++ y.path.extract frm.size y.path.size))).alloc (.cells #[.string y.path, .int .i64 y.kind, .string y.text, .bool y.opq] 28)) := (BW.out.setCell hg _).alloc (by have := BW.out.size; simpa [World.setCell] using this) _
        have OW2 : Aside (Own ((wr.setCell ⟨g, k * 4, none⟩ (.string (to ++ y.path.extract frm.size y.path.size))).alloc (.cells #[.string y.path, .int .i64 y.kind, .string y.text, .bool y.opq] 28)) g c (dkL R frm to (k + 1))) := by
          have := (OW.out.setPath (dkL_at HY.out) (to ++ y.path.extract frm.size y.path.size)).grown ((Grown.refl _).alloc (.cells #[.string y.path, .int .i64 y.kind, .string y.text, .bool y.opq] 28))
          rw [← HMV.out, ← dkL_step HY.out] at this
          exact this
        have hcl2 := hcl _ hB2
        clear hcl
        generalize hnew : to ++ y.path.extract frm.size y.path.size = new at hcl2 HE HMV hcc hB2 OW2
        have HNW : Aside (to ++ y.path.extract frm.size y.path.size = new) := hnew
        cases hcn : clean new.data.toList with
        | false =>
          rw [hcn] at hcl2
          have HBAD : Aside (badMove t frm to = true) := by show _ = _; rw [HB.out]; exact bad_at (List.mem_of_getElem? HY.out) hin (by rw [HE.out]; exact hcn)
          rcases hways with h1 | ⟨h1, h2⟩
          · obtain ⟨e1, e2⟩ := eq_parts h1
            clear h1
            go_wp2_with (go_at_call 53; refine hcl2.mono ?_; clear hcl2; rintro rr w3 ⟨rfl, hN⟩)
            go_ret2
            exact .inl ⟨HBAD.out, TreePost.none (Below.onto hB2 hN)⟩
          · obtain ⟨e1, e2⟩ := ne_parts h1
            rw [h2] at hun
            clear h1 h2
            go_wp2_with (first | (go_at_call 54; refine (hun _).mono ?_; rintro rr wx ⟨rfl, hwx⟩; subst wx) | (go_at_call 53; refine hcl2.mono ?_; clear hcl2; rintro rr w3 ⟨rfl, hN⟩))
            go_ret2
            exact .inl ⟨HBAD.out, TreePost.none (Below.onto hB2 hN)⟩
        | true =>
          rw [hcn] at hcl2
          have hNB : ((R.take (k + 1)).any fun e => inM frm.data.toList e && !clean (mvE frm to e).p) = false := bad_step HY.out NB.out (by rw [HE.out, hcn]; simp)
          have HNB : Aside (((R.take (k + 1)).any fun e => inM frm.data.toList e && !clean (mvE frm to e).p) = false) := hNB
          have hlt2 := OW2.out.lt
          clear hNB
          rcases hways with h1 | ⟨h1, h2⟩
          · obtain ⟨e1, e2⟩ := eq_parts h1
            clear h1
            go_wp2_with (go_at_call 53; refine hcl2.mono ?_; clear hcl2; rintro rr w3 ⟨rfl, hN⟩)
            go_roundg (n - (k + 1))
            case measure => omega
            case rel => exact ⟨k + 1, by omega, by omega, by go_num, OW2.out.below hN hlt2, Below.onto hB2 hN, HNB.out⟩
          · obtain ⟨e1, e2⟩ := ne_parts h1
            rw [h2] at hun
            clear h1 h2
            go_wp2_with (first | (go_at_call 54; refine (hun _).mono ?_; rintro rr wx ⟨rfl, hwx⟩; subst wx) | (go_at_call 53; refine hcl2.mono ?_; clear hcl2; rintro rr w3 ⟨rfl, hN⟩))
            go_roundg (n - (k + 1))
            case measure => omega
            case rel => exact ⟨k + 1, by omega, by omega, by go_num, OW2.out.below hN hlt2, Below.onto hB2 hN, HNB.out⟩
    · obtain rfl : k = n := by omega
      have hltz : ¬ (k : Int) < (k : Int) := by omega
      have HGOOD : Aside (badMove t frm to = false) := by
        show _ = _
        have := NB.out
        rw [HN.out, List.take_length] at this
        rw [HB.out]; exact this
      have hso := hsort wr g c (by rw [HM.out]; exact OW.out) (fun e he => by
        unfold movedPre at he
        obtain ⟨x, hx, rfl⟩ := List.mem_map.1 he
        have h80 := HP80.out x (by rw [← HRR.out]; exact hx)
        unfold mvF maxLen
        split
        · simp [mvE]; omega
        · omega) hR80
      clear hsort
      go_wp2_with (go_at_call 91; refine hso.mono ?_; clear hso; rintro rr w4 ⟨rfl, l', hp, hs, hLi, hgb⟩; have HS : Aside _ := hs; clear hs)
      go_ret2
      refine .inr ⟨HGOOD.out, l', hp, HS.out.imp (fun h => by omega), some ⟨g, 0, none⟩, c, ?_, hLi, ?_, nofun, BW.out.grown hgb BW.out.size (fun j hj => by simp at hj; omega)⟩
      · rw [hp.length_eq, hml2.out]; rfl
      · rw [hp.length_eq, hml2.out]; have := OW.out.len; rw [dkL_len, ← HN.out] at this; exact this
end Go.Proofs.YtampldoimpfjgabGreatDoor
