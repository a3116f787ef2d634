/-
  tree.moved: the paths are turned, looked at, and sorted.
-/
import Derived.Test.YthfeoiffoeagkaaGreatDoorQA6
import Derived.Laws.StructEq
import Derived.Shelf.SlicesE.Equal
namespace Go.Proofs.YthfeoiffoeagkaaGreatDoor
open Go.RowKit PM Go.Sort
set_option linter.unusedVariables false
theorem Own.setPath {w : World} {g cap : Nat} {l : List Ent} (h : Own w g cap l) {j : Nat} {y : Ent} (hy : l[j]? = .some y) (q : ByteArray) : Own (w.setCell ⟨g, j * 4, none⟩ (.string q)) g cap (l.set j { y with path := q }) := by
 obtain ⟨hj, hyy⟩ := List.getElem?_eq_some_iff.1 hy
 obtain ⟨cur, hc, hs, hl, hm, hh⟩ := h
 refine ⟨_, heap_set hc (j * 4) (.string q), by simpa using hs, by simpa using hl, hm, fun k e he i v hv => ?_⟩
 have hi := encE_lt hv
 rw [List.getElem?_set] at he
 rw [Array.getElem?_setIfInBounds]
 by_cases hk : j = k
 ·subst hk
  rw [if_pos rfl, if_pos hj] at he
  simp only [Option.some.injEq] at he
  subst he
  match i, hi, hv with
  | 0, _, hv => rw [if_pos (by omega), if_pos (by rw [hs]; omega)]; simpa [encE] using hv
  | 1, _, hv => rw [if_neg (by omega)]; exact hh j y hy 1 v (by simpa [encE] using hv)
  | 2, _, hv => rw [if_neg (by omega)]; exact hh j y hy 2 v (by simpa [encE] using hv)
  | 3, _, hv => rw [if_neg (by omega)]; exact hh j y hy 3 v (by simpa [encE] using hv)
 ·rw [if_neg hk] at he
  rw [if_neg (by omega)]
  exact hh k e he i v hv
def dkL (R : List Ent) (frm to : ByteArray) (k : Nat) : List Ent := (R.take k).map (mvF frm to) ++ R.drop k
theorem dkL_len (R : List Ent) (frm to : ByteArray) (k : Nat) : (dkL R frm to k).length = R.length := by
 simp [dkL]; omega
theorem dkL_at {R : List Ent} {frm to : ByteArray} {k : Nat} {y : Ent} (hy : R[k]? = some y) : (dkL R frm to k)[k]? = some y := by
 have hk := (List.getElem?_eq_some_iff.1 hy).1
 unfold dkL
 rw [List.getElem?_append_right (by simp; omega)]
 simp [Nat.min_eq_left (Nat.le_of_lt hk), hy]
theorem dkL_step {R : List Ent} {frm to : ByteArray} {k : Nat} {y : Ent} (hy : R[k]? = some y) : dkL R frm to (k + 1) = (dkL R frm to k).set k (mvF frm to y) := by
 obtain ⟨hk, hyy⟩ := List.getElem?_eq_some_iff.1 hy
 apply List.ext_getElem?
 intro j
 unfold dkL
 rw [List.getElem?_set]
 by_cases e1 : k = j
 ·subst e1
  rw [if_pos rfl, if_pos (by simp; omega), List.getElem?_append_left (by simp; omega)]
  simp [hy]
 ·rw [if_neg e1]
  by_cases e2 : j < k
  ·rw [List.getElem?_append_left (by simp; omega), List.getElem?_append_left (by simp; omega), List.getElem?_map, List.getElem?_map, List.getElem?_take, List.getElem?_take, if_pos (by omega), if_pos e2]
  ·rw [List.getElem?_append_right (by simp; omega), List.getElem?_append_right (by simp; omega)]
   simp only [List.length_map, List.length_take, List.getElem?_drop]
   congr 1; omega
theorem dkL_same {R : List Ent} {frm to : ByteArray} {k : Nat} {y : Ent} (hy : R[k]? = some y) (hn : inM frm.data.toList y = false) : dkL R frm to (k + 1) = dkL R frm to k := by
 rw [dkL_step hy, mvF, hn]
 apply List.ext_getElem?
 intro j
 rw [List.getElem?_set]
 by_cases e : k = j
 ·subst e
  have hk := (List.getElem?_eq_some_iff.1 hy).1
  rw [if_pos rfl, if_pos (by rw [dkL_len]; exact hk), dkL_at hy]; rfl
 ·rw [if_neg e]
def MovedPost (t : List Ent) (frm to : ByteArray) (w : World) (r : Ending) (w' : World) : Prop :=
 (badMove t frm to = true ∧ TreePost 4 [] w r w') ∨ (badMove t frm to = false ∧ ∃ l : List Ent, l.Perm (movedPre t frm to) ∧ l.Pairwise (fun a b => ¬ cmp b.p a.p < 0) ∧ TreePost 0 l w r w')
theorem bad_at {R : List Ent} {frm to : ByteArray} {y : Ent} (hy : y ∈ R) (hi : inM frm.data.toList y = true) (hc : clean (mvE frm to y).p = false) : (R.any fun e => inM frm.data.toList e && !clean (mvE frm to e).p) = true :=
 List.any_eq_true.2 ⟨y, hy, by simp [hi, hc]⟩
theorem bad_step {R : List Ent} {frm to : ByteArray} {k : Nat} {y : Ent} (hy : R[k]? = some y) (h : ((R.take k).any fun e => inM frm.data.toList e && !clean (mvE frm to e).p) = false) (hb : (inM frm.data.toList y && !clean (mvE frm to y).p) = false) : ((R.take (k + 1)).any fun e => inM frm.data.toList e && !clean (mvE frm to e).p) = false := by
 rw [take_step hy, List.any_append, h]; simp [hb]
theorem eq_parts {a b : ByteArray} (h : a.data.toList = b.data.toList) : (a.toList == b.toList) = true ∧ a.toList = b.toList := by
 rw [Lib.toList_data, Lib.toList_data, h]; simp
theorem ne_parts {a b : ByteArray} (h : ¬ a.data.toList = b.data.toList) : (a.toList == b.toList) = false ∧ ¬ a.toList = b.toList := by
 rw [Lib.toList_data, Lib.toList_data]; exact ⟨by simpa using h, h⟩
set_option maxHeartbeats 4000000 in
set_option maxRecDepth 100000 in
theorem moved_any (t : List Ent) (frm to : ByteArray) (m : Int) (p : Option Addr) (cap : Nat) (w : World) (hL : Lies w p t) (hnil : p = none → cap = 0) (hr : Right false t) (hf : frm.size ≤ 80) (ht : to.size ≤ 80) (hm : w.cell? ⟨0, 0, none⟩ = some (.int .i64 m)) :
  Calls Tryz.prog 224 #[.slice p t.length cap, .string frm, .string to] w (MovedPost t frm to w) := by
 have hwo := without_any t to p cap w hL hnil hr.len
 have hR80 : (remL t to.data.toList).length ≤ 80 := Nat.le_trans (List.length_filter_le _ _) hr.len
 have HP80 : Aside (∀ y ∈ remL t to.data.toList, y.path.size ≤ 80) := fun y hy => clean_size (hr.clean (mem_remL.1 hy).1)
 have hsort := fun W g c (hO : Own W g c (movedPre t frm to)) => sort_any (movedPre t frm to) g c W hO
 have hml : (movedPre t frm to).length = (remL t to.data.toList).length := by simp [movedPre]
 rw [hml] at hsort
 have HB : Aside (badMove t frm to = (remL t to.data.toList).any fun e => inM frm.data.toList e && !clean (mvE frm to e).p) := rfl
 have HM : Aside (movedPre t frm to = dkL (remL t to.data.toList) frm to (remL t to.data.toList).length) := by show _ = _; simp [movedPre, dkL]
 obtain ⟨R, hRR⟩ : ∃ R, R = remL t to.data.toList := ⟨_, rfl⟩
 have HRR : Aside (remL t to.data.toList = R) := hRR.symm
 clear hL hnil hr
 unfold WithoutPost at hwo
 rw [← hRR] at hwo hR80 HP80 hsort hml HB HM
 clear hRR
 obtain ⟨n, hnl⟩ : ∃ n, n = R.length := ⟨_, rfl⟩
 have HN : Aside (n = R.length) := hnl
 rw [← hnl] at hwo hR80 hsort HM hml
 have hml2 : Aside ((movedPre t frm to).length = n) := hml
 clear hnl hml
 go_enter Tryz.func224, Tryz.ntmps224
 go_wp2_with (go_at_call 219; refine hwo.mono ?_; clear hwo; rintro e w1 ⟨g, c, rfl, hg, hO, hB⟩; have HO : Aside (Own w1 g c R) := hO; have HBl : Aside (Below w.heap.size w w1) := hB; clear hO hB)
 go_loopg [16] n (fun gg s16 wr => ∃ k : Nat, k ≤ n ∧ n - k ≤ gg ∧ s16 = .int .i64 k ∧ Aside (Own wr g c (dkL R frm to k)) ∧ Aside (Below w.heap.size w wr) ∧ Aside (((R.take k).any fun e => inM frm.data.toList e && !clean (mvE frm to e).p) = false))
 case atStart => exact ⟨0, Nat.zero_le _, by omega, rfl, by simpa [dkL, Aside] using HO.out, HBl.out, by simp [Aside]⟩
 case round =>
  obtain ⟨k, hk, hgg, rfl, OW, BW, NB⟩ := hrel
  have hglt := OW.out.lt
  have hne : g ≠ wr.heap.size := by omega
  by_cases hlt : k < n
  ·have hltz : (k : Int) < (n : Int) := by omega
   obtain ⟨y, hy⟩ : ∃ y, R[k]? = some y := ⟨_, List.getElem?_eq_getElem (by have := HN.out; omega)⟩
   have HY : Aside (R[k]? = some y) := hy
   have hy80 := HP80.out y (List.mem_of_getElem? hy)
   obtain ⟨⟨c0, c1, c2, c3⟩, ⟨f0, f1, f2, f3⟩⟩ := OW.out.cells (dkL_at hy)
   have hym : y.path.size ≤ maxLen := by unfold maxLen; omega
   have hfm : frm.size ≤ maxLen := by unfold maxLen; omega
   have hun := fun W => under_any y.path frm W hym hfm
   have hcl := fun W (hB : Below w.heap.size w W) => clean_any (to ++ y.path.extract frm.size y.path.size) m W (by unfold maxLen; simp; omega) (held hB hm)
   clear hy
   cases hin : inM frm.data.toList y with
   | false =>
    have hp1 : ¬ y.path.data.toList = frm.data.toList := fun e => by
     unfold inM at hin; rw [show y.p = y.path.data.toList from rfl, e] at hin; simp at hin
    have hp2 : under y.path.data.toList frm.data.toList = false := by
     unfold inM at hin; exact (Bool.or_eq_false_iff.1 hin).2
    obtain ⟨e1, e2⟩ := ne_parts hp1
    rw [hp2] at hun
    clear hp1 hp2
    go_wp2_with (go_at_call 186; refine (hun _).mono ?_; rintro rr wx ⟨rfl, hwx⟩; subst wx)
    go_roundg (n - (k + 1))
    case measure => omega
    case rel => exact ⟨k + 1, by omega, by omega, by go_num, by rw [dkL_same HY.out hin]; exact OW.out.grown ((Grown.refl wr).alloc _), (BW.out.alloc BW.out.size _ : Below _ _ _), bad_step HY.out NB.out (by rw [hin]; rfl)⟩
   | true =>
    have hsz := inM_size hin
    have hszz : (frm.size : Int) ≤ (y.path.size : Int) := by omega
    have hways : (y.path.data.toList = frm.data.toList) ∨ (¬ y.path.data.toList = frm.data.toList ∧ under y.path.data.toList frm.data.toList = true) := by
     unfold inM at hin
     by_cases h : y.path.data.toList = frm.data.toList
     ·exact .inl h
     ·refine .inr ⟨h, ?_⟩
      rcases Bool.or_eq_true_iff.1 hin with g | g
      ·exact absurd (of_decide_eq_true g) h
      ·exact g
    have HE : Aside ((mvE frm to y).p = (to ++ y.path.extract frm.size y.path.size).data.toList) := rfl
    have HMV : Aside (mvF frm to y = { y with path := to ++ y.path.extract frm.size y.path.size }) := by show _ = _; rw [mvF, hin]; rfl
    have hcc : (to ++ y.path.extract frm.size y.path.size).size ≤ 160 := by simp; omega
    have hB2 : Below w.heap.size w ((wr.setCell ⟨g, k * 4, none⟩ (.string (to ++ y.path.extract frm.size y.path.size))).alloc (.cells #[.string y.path, .int .i64 y.kind, .string y.text, .bool y.opq] 53)) := (BW.out.setCell hg _).alloc (by have := BW.out.size; simpa [World.setCell] using this) _
    have OW2 : Aside (Own ((wr.setCell ⟨g, k * 4, none⟩ (.string (to ++ y.path.extract frm.size y.path.size))).alloc (.cells #[.string y.path, .int .i64 y.kind, .string y.text, .bool y.opq] 53)) g c (dkL R frm to (k + 1))) := by
     have := (OW.out.setPath (dkL_at HY.out) (to ++ y.path.extract frm.size y.path.size)).grown ((Grown.refl _).alloc (.cells #[.string y.path, .int .i64 y.kind, .string y.text, .bool y.opq] 53))
     rw [← HMV.out, ← dkL_step HY.out] at this
     exact this
    have hcl2 := hcl _ hB2
    clear hcl
    generalize hnew : to ++ y.path.extract frm.size y.path.size = new at hcl2 HE HMV hcc hB2 OW2
    have HNW : Aside (to ++ y.path.extract frm.size y.path.size = new) := hnew
    cases hcn : clean new.data.toList with
    | false =>
     rw [hcn] at hcl2
     have HBAD : Aside (badMove t frm to = true) := by show _ = _; rw [HB.out]; exact bad_at (List.mem_of_getElem? HY.out) hin (by rw [HE.out]; exact hcn)
     rcases hways with h1 | ⟨h1, h2⟩
     ·obtain ⟨e1, e2⟩ := eq_parts h1
      clear h1
      go_wp2_with (go_at_call 26; refine hcl2.mono ?_; clear hcl2; rintro rr w3 ⟨rfl, hN⟩)
      go_ret2
      exact .inl ⟨HBAD.out, TreePost.none (Below.onto hB2 hN)⟩
     ·obtain ⟨e1, e2⟩ := ne_parts h1
      rw [h2] at hun
      clear h1 h2
      go_wp2_with (first | (go_at_call 186; refine (hun _).mono ?_; rintro rr wx ⟨rfl, hwx⟩; subst wx) | (go_at_call 26; refine hcl2.mono ?_; clear hcl2; rintro rr w3 ⟨rfl, hN⟩))
      go_ret2
      exact .inl ⟨HBAD.out, TreePost.none (Below.onto hB2 hN)⟩
    | true =>
     rw [hcn] at hcl2
     have hNB : ((R.take (k + 1)).any fun e => inM frm.data.toList e && !clean (mvE frm to e).p) = false := bad_step HY.out NB.out (by rw [HE.out, hcn]; simp)
     have HNB : Aside (((R.take (k + 1)).any fun e => inM frm.data.toList e && !clean (mvE frm to e).p) = false) := hNB
     have hlt2 := OW2.out.lt
     clear hNB
     rcases hways with h1 | ⟨h1, h2⟩
     ·obtain ⟨e1, e2⟩ := eq_parts h1
      clear h1
      go_wp2_with (go_at_call 26; refine hcl2.mono ?_; clear hcl2; rintro rr w3 ⟨rfl, hN⟩)
      go_roundg (n - (k + 1))
      case measure => omega
      case rel => exact ⟨k + 1, by omega, by omega, by go_num, OW2.out.below hN hlt2, Below.onto hB2 hN, HNB.out⟩
     ·obtain ⟨e1, e2⟩ := ne_parts h1
      rw [h2] at hun
      clear h1 h2
      go_wp2_with (first | (go_at_call 186; refine (hun _).mono ?_; rintro rr wx ⟨rfl, hwx⟩; subst wx) | (go_at_call 26; refine hcl2.mono ?_; clear hcl2; rintro rr w3 ⟨rfl, hN⟩))
      go_roundg (n - (k + 1))
      case measure => omega
      case rel => exact ⟨k + 1, by omega, by omega, by go_num, OW2.out.below hN hlt2, Below.onto hB2 hN, HNB.out⟩
  ·obtain rfl : k = n := by omega
   have hltz : ¬ (k : Int) < (k : Int) := by omega
   have HGOOD : Aside (badMove t frm to = false) := by
    show _ = _
    have := NB.out
    rw [HN.out, List.take_length] at this
    rw [HB.out]; exact this
   have hso := hsort wr g c (by rw [HM.out]; exact OW.out) (fun e he => by
    unfold movedPre at he
    obtain ⟨x, hx, rfl⟩ := List.mem_map.1 he
    have h80 := HP80.out x (by rw [← HRR.out]; exact hx)
    unfold mvF maxLen
    split
    ·simp [mvE]; omega
    ·omega) hR80
   clear hsort
   go_wp2_with (go_at_call 160; refine hso.mono ?_; clear hso; rintro rr w4 ⟨rfl, l', hp, hs, hLi, hgb⟩; have HS : Aside _ := hs; clear hs)
   go_ret2
   refine .inr ⟨HGOOD.out, l', hp, HS.out.imp (fun h => by omega), some ⟨g, 0, none⟩, c, ?_, hLi, ?_, nofun, BW.out.grown hgb BW.out.size (fun j hj => by simp at hj; omega)⟩
   ·rw [hp.length_eq, hml2.out]; rfl
   ·rw [hp.length_eq, hml2.out]; have := OW.out.len; rw [dkL_len, ← HN.out] at this; exact this
def moveAsk (t : List Ent) (f : List UInt8) : Int := orL [(faultL false t).1, missL t f]
def moveAsk2 (t : List Ent) (f to : List UInt8) : Int := orL [noDirL t (dirOf to), roomL t f to]
def moveErr (t : List Ent) (frm to : ByteArray) : Int :=
 if moveAsk t frm.data.toList = 0 then
  if clean to.data.toList = true then
   if frm.data.toList = to.data.toList then 0
   else if under to.data.toList frm.data.toList = true then 8
   else if moveAsk2 t frm.data.toList to.data.toList = 0 then (if badMove t frm to = true then 4 else 0)
   else moveAsk2 t frm.data.toList to.data.toList
  else 7
 else moveAsk t frm.data.toList
def MovePost (t : List Ent) (frm to : ByteArray) (w : World) (r : Ending) (w' : World) : Prop :=
 ∃ l, TreePost (moveErr t frm to) l w r w' ∧ (moveErr t frm to ≠ 0 → l = []) ∧
  (moveErr t frm to = 0 → (frm.data.toList = to.data.toList → l = t) ∧ (frm.data.toList ≠ to.data.toList → l.Perm (movedPre t frm to) ∧ l.Pairwise fun a b => ¬ cmp b.p a.p < 0))
theorem moveAsk_of (t : List Ent) (f : List UInt8) (r : Int) (hr : Sorted t → r = missL t f) : orL [(faultL false t).1, r] = moveAsk t f := by
 unfold moveAsk
 by_cases h : (faultL false t).1 = 0
 ·rw [hr (faultL_zero.1 h).sorted]
 ·simp [orL, h]
theorem moveAsk_zero {t : List Ent} {f : List UInt8} (h : moveAsk t f = 0) : Right false t ∧ ∃ e ∈ t, e.p = f := by
 unfold moveAsk at h
 obtain ⟨h1, h⟩ := orL_zero.1 h
 obtain ⟨h2, _⟩ := orL_zero.1 h
 refine ⟨faultL_zero.1 h1, ?_⟩
 unfold missL at h2
 split at h2
 ·assumption
 ·omega
theorem MovePost.err {t : List Ent} {frm to : ByteArray} {w w' : World} {er : Int} (he : er = moveErr t frm to) (h0 : er ≠ 0) (hB : Below w.heap.size w w') : MovePost t frm to w (.returned (.tuple #[.slice none 0 0, .int .i64 er])) w' := by
 subst he
 exact ⟨[], TreePost.none hB, fun _ => rfl, fun h => absurd h h0⟩
set_option maxHeartbeats 8000000 in
set_option maxRecDepth 100000 in
theorem move_any (t : List Ent) (frm to : ByteArray) (m : Int) (p : Option Addr) (cap : Nat) (w : World) (hL : Lies w p t) (hF : Fits t) (hn : t.length < 4611686018427387904) (hcap : t.length ≤ cap) (hnil : p = none → cap = 0)
  (hf : frm.size ≤ maxLen) (ht : to.size ≤ maxLen) (hm : w.cell? ⟨0, 0, none⟩ = some (.int .i64 m)) :
  Calls Tryz.prog 183 #[.slice p t.length cap, .string frm, .string to] w (MovePost t frm to w) := by
 have hwr := fun W (hB : Below w.heap.size w W) => wrong_any t m p cap W (hL.kept hB) hF hn hcap (held hB hm)
 have hms := fun W (hB : Below w.heap.size w W) => missing_any t frm p cap W (hL.kept hB) hF hn hf
 have hcl := fun W (hB : Below w.heap.size w W) => clean_any to m W ht (held hB hm)
 have HA : Aside (∀ r : Int, (Sorted t → r = missL t frm.data.toList) → orL [(faultL false t).1, r] = moveAsk t frm.data.toList) := moveAsk_of t frm.data.toList
 have hB : Below w.heap.size w w := Below.refl _ _
 have hfld := field40
 have HER : Aside (moveErr t frm to = if moveAsk t frm.data.toList = 0 then
  if clean to.data.toList = true then
   if frm.data.toList = to.data.toList then 0
   else if under to.data.toList frm.data.toList = true then 8
   else if moveAsk2 t frm.data.toList to.data.toList = 0 then (if badMove t frm to = true then 4 else 0)
   else moveAsk2 t frm.data.toList to.data.toList
  else 7
 else moveAsk t frm.data.toList) := rfl
 have HZ : Aside (moveAsk t frm.data.toList = 0 → Right false t ∧ ∃ e ∈ t, e.p = frm.data.toList) := moveAsk_zero
 obtain ⟨n, hnl⟩ : ∃ n, n = t.length := ⟨_, rfl⟩
 have HN : Aside (n = t.length) := hnl
 generalize (faultL false t).1 = f at hwr HA
 generalize ((faultL false t).2 : Int) = fa at hwr
 generalize moveAsk t frm.data.toList = ask at HA HER HZ
 by_cases hask : ask = 0
 ·subst hask
  have HRT := HZ.out rfl
  have HR : Aside (Right false t ∧ ∃ e ∈ t, e.p = frm.data.toList) := HRT
  have hf80 : frm.size ≤ 80 := by
   obtain ⟨hr, x, hx, hxp⟩ := HRT
   have := hr.clean hx
   rw [hxp] at this
   exact clean_size this
  have HL : Aside (Lies w p t) := hL
  have HFt : Aside (Fits t) := hF
  rw [if_pos rfl] at HER
  cases hct : clean to.data.toList with
  | false =>
   have HE7 : Aside (7 = moveErr t frm to) := by show _ = _; rw [HER.out, hct]; rfl
   rw [hct] at hcl
   rw [← hnl] at hwr hms ⊢
   clear hnl HRT hL hF hn hcap
   go_enter Tryz.func183, Tryz.ntmps183
   go_wp2_with (first
    | (go_at_call 24; refine (hwr _ hB).mono ?_; clear hwr; rintro e w1 ⟨rfl, hN⟩; replace hB := Below.onto hB hN; clear hN)
    | (go_at_call 217; refine (hms _ hB).mono ?_; clear hms; rintro e w2 ⟨r, rfl, hr, hN⟩; have HE : Aside (orL [f, r] = 0) := HA.out r hr; clear hr HA; replace hB := Below.onto hB hN; clear hN)
    | (go_at_call 157; refine (or2_any _ _ _).mono ?_; rintro e w4 ⟨rfl, hw⟩; subst hw; replace hB := hB.alloc hB.size (.cells #[.int .i64 f, .int .i64 r] 31); rw [HE.out])
    | (go_at_call 26; refine (hcl _ hB).mono ?_; clear hcl; rintro e w5 ⟨rfl, hN⟩; replace hB := Below.onto hB hN; clear hN))
   go_ret2
   exact MovePost.err HE7.out (by decide) hB
  | true =>
   have ht80 : to.size ≤ 80 := clean_size hct
   rw [hct, if_pos rfl] at HER
   rw [hct] at hcl
   have hn80 : n ≤ 80 := by rw [hnl]; exact HRT.1.len
   have hun := fun W => under_any to frm W ht hf
   have hnd : ∀ W, Below w.heap.size w W → Calls Tryz.prog 114 #[.slice p t.length cap, .string to] W fun r w' => r = .returned (.int .i64 (noDirL t (dirOf to.data.toList))) ∧ Below W.heap.size W w' := fun W hB => (noDirFor_any t to p cap W (hL.kept hB) hF hn ht (by omega)).mono fun r w' ⟨x, h1, h2, h3⟩ => ⟨by rw [h1, h2 HRT.1.sorted], h3⟩
   have hro := fun W (hB : Below w.heap.size w W) => noRoom_any t frm to p cap W (hL.kept hB) hF hn hf ht HRT.1.sorted
   have hmo := fun W (hB : Below w.heap.size w W) => moved_any t frm to m p cap W (hL.kept hB) hnil HRT.1 hf80 ht80 (held hB hm)
   have HA2 : Aside (orL [noDirL t (dirOf to.data.toList), roomL t frm.data.toList to.data.toList] = moveAsk2 t frm.data.toList to.data.toList) := rfl
   generalize noDirL t (dirOf to.data.toList) = nd at hnd HA2
   generalize roomL t frm.data.toList to.data.toList = rm at hro HA2
   generalize moveAsk2 t frm.data.toList to.data.toList = ask2 at HA2 HER
   rw [← hnl] at hwr hms hnd hro hmo ⊢
   clear hnl HRT hL hF hn hcap
   by_cases hft : frm.data.toList = to.data.toList
   ·have HE0 : Aside (moveErr t frm to = 0) := by show _ = _; rw [HER.out, if_pos hft]
    obtain ⟨e1, e2⟩ := eq_parts hft
    have HFT : Aside (frm.data.toList = to.data.toList) := hft
    clear hft hun hnd hro hmo HER HA2
    go_enter Tryz.func183, Tryz.ntmps183
    go_wp2_with (first
    | (go_at_call 24; refine (hwr _ hB).mono ?_; clear hwr; rintro e w1 ⟨rfl, hN⟩; replace hB := Below.onto hB hN; clear hN)
    | (go_at_call 217; refine (hms _ hB).mono ?_; clear hms; rintro e w2 ⟨r, rfl, hr, hN⟩; have HE : Aside (orL [f, r] = 0) := HA.out r hr; clear hr HA; replace hB := Below.onto hB hN; clear hN)
    | (go_at_call 157; refine (or2_any _ _ _).mono ?_; rintro e w4 ⟨rfl, hw⟩; subst hw; replace hB := hB.alloc hB.size (.cells #[.int .i64 f, .int .i64 r] 31); rw [HE.out]; clear HE)
    | (go_at_call 26; refine (hcl _ hB).mono ?_; clear hcl; rintro e w5 ⟨rfl, hN⟩; replace hB := Below.onto hB hN; clear hN)
    | (at_builtin; refine append_copy _ rfl _ _ rfl w5.heap.size rfl ?_ p n cap t rfl HN.out ?_ hnil hn80 ?_ ?_))
    ·exact empty_row w5 _ rfl
    ·exact (HL.out.kept hB).grown ((Grown.refl _).alloc _)
    ·simp
    ·intro g c w6 hO hg hB6
     have hX : Below w5.heap.size w5 w6 := ((Below.refl _ _).alloc (Nat.le_refl _) _).trans hB6
     have H6 : Aside (Own w6 g c t ∧ Below w.heap.size w w6) := ⟨hO, Below.onto hB hX⟩
     clear hO hB6 hX
     go_wp2
     go_ret2
     refine ⟨t, ?_, fun h => absurd HE0.out h, fun _ => ⟨fun _ => rfl, fun h => absurd HFT.out h⟩⟩
     rw [HE0.out]
     exact ⟨some ⟨g, 0, none⟩, c, by rw [← HN.out]; rfl, H6.out.1.lies, H6.out.1.len, nofun, H6.out.2⟩
   ·rw [if_neg hft] at HER
    obtain ⟨e1, e2⟩ := ne_parts hft
    have HFT : Aside (frm.data.toList ≠ to.data.toList) := hft
    clear hft
    cases hut : under to.data.toList frm.data.toList with
    | true =>
     have HE8 : Aside (8 = moveErr t frm to) := by show _ = _; rw [HER.out, hut]; rfl
     rw [hut] at hun
     clear hnd hro hmo HER HA2
     go_enter Tryz.func183, Tryz.ntmps183
     go_wp2_with (first
    | (go_at_call 24; refine (hwr _ hB).mono ?_; clear hwr; rintro e w1 ⟨rfl, hN⟩; replace hB := Below.onto hB hN; clear hN)
    | (go_at_call 217; refine (hms _ hB).mono ?_; clear hms; rintro e w2 ⟨r, rfl, hr, hN⟩; have HE : Aside (orL [f, r] = 0) := HA.out r hr; clear hr HA; replace hB := Below.onto hB hN; clear hN)
    | (go_at_call 157; refine (or2_any _ _ _).mono ?_; rintro e w4 ⟨rfl, hw⟩; subst hw; replace hB := hB.alloc hB.size (.cells #[.int .i64 f, .int .i64 r] 31); rw [HE.out]; clear HE)
    | (go_at_call 26; refine (hcl _ hB).mono ?_; clear hcl; rintro e w5 ⟨rfl, hN⟩; replace hB := Below.onto hB hN; clear hN)
    | (go_at_call 186; refine (hun _).mono ?_; rintro rr wx ⟨rfl, hwx⟩; subst wx))
     go_ret2
     exact MovePost.err HE8.out (by decide) hB
    | false =>
     rw [hut] at hun HER
     rw [if_neg (by decide)] at HER
     by_cases hask2 : ask2 = 0
     ·rw [if_pos hask2] at HER
      subst hask2
      go_enter Tryz.func183, Tryz.ntmps183
      go_wp2_with (first
    | (go_at_call 24; refine (hwr _ hB).mono ?_; clear hwr; rintro e w1 ⟨rfl, hN⟩; replace hB := Below.onto hB hN; clear hN)
    | (go_at_call 217; refine (hms _ hB).mono ?_; clear hms; rintro e w2 ⟨r, rfl, hr, hN⟩; have HE : Aside (orL [f, r] = 0) := HA.out r hr; clear hr HA; replace hB := Below.onto hB hN; clear hN)
    | (go_at_call 157; refine (or2_any _ _ _).mono ?_; rintro e w4 ⟨rfl, hw⟩; subst hw; replace hB := hB.alloc hB.size (.cells #[.int .i64 f, .int .i64 r] 31); rw [HE.out]; clear HE)
    | (go_at_call 26; refine (hcl _ hB).mono ?_; clear hcl; rintro e w5 ⟨rfl, hN⟩; replace hB := Below.onto hB hN; clear hN)
    | (go_at_call 186; refine (hun _).mono ?_; rintro rr wx ⟨rfl, hwx⟩; subst wx)
    | (go_at_call 114; refine (hnd _ hB).mono ?_; clear hnd; rintro rr w6 ⟨rfl, hN⟩; replace hB := Below.onto hB hN; clear hN)
    | (go_at_call 223; refine (hro _ hB).mono ?_; clear hro; rintro rr w7 ⟨rfl, hN⟩; replace hB := Below.onto hB hN; clear hN)
    | (go_at_call 157; refine (or2_any _ _ _).mono ?_; rintro rr w8 ⟨rfl, hw⟩; subst hw; replace hB := hB.alloc hB.size (.cells #[.int .i64 nd, .int .i64 rm] 31); rw [HA2.out])
    | (go_at_call 224; refine (hmo _ hB).mono ?_; clear hmo; rintro rr w9 (⟨hbad, p9, c9, rfl, hl9, hc9, hn9, hB9⟩ | ⟨hbad, l9, hp9, hs9, p9, c9, rfl, hl9, hc9, hn9, hB9⟩)))
      ·go_ret2
       have h4 : moveErr t frm to = 4 := by rw [HER.out, if_pos hbad]
       refine ⟨[], ?_, fun _ => rfl, fun h => by rw [h4] at h; cases h⟩
       rw [h4]
       exact ⟨p9, c9, rfl, hl9, hc9, hn9, Below.onto hB hB9⟩
      ·go_ret2
       have h0 : moveErr t frm to = 0 := by rw [HER.out, if_neg (by rw [hbad]; decide)]
       refine ⟨l9, ?_, fun h => absurd h0 h, fun _ => ⟨fun h => absurd h HFT.out, fun _ => ⟨hp9, hs9.imp (fun h => by omega)⟩⟩⟩
       rw [h0]
       exact ⟨p9, c9, rfl, hl9, hc9, hn9, Below.onto hB hB9⟩
     ·rw [if_neg hask2] at HER
      clear hmo
      go_enter Tryz.func183, Tryz.ntmps183
      go_wp2_with (first
    | (go_at_call 24; refine (hwr _ hB).mono ?_; clear hwr; rintro e w1 ⟨rfl, hN⟩; replace hB := Below.onto hB hN; clear hN)
    | (go_at_call 217; refine (hms _ hB).mono ?_; clear hms; rintro e w2 ⟨r, rfl, hr, hN⟩; have HE : Aside (orL [f, r] = 0) := HA.out r hr; clear hr HA; replace hB := Below.onto hB hN; clear hN)
    | (go_at_call 157; refine (or2_any _ _ _).mono ?_; rintro e w4 ⟨rfl, hw⟩; subst hw; replace hB := hB.alloc hB.size (.cells #[.int .i64 f, .int .i64 r] 31); rw [HE.out]; clear HE)
    | (go_at_call 26; refine (hcl _ hB).mono ?_; clear hcl; rintro e w5 ⟨rfl, hN⟩; replace hB := Below.onto hB hN; clear hN)
    | (go_at_call 186; refine (hun _).mono ?_; rintro rr wx ⟨rfl, hwx⟩; subst wx)
    | (go_at_call 114; refine (hnd _ hB).mono ?_; clear hnd; rintro rr w6 ⟨rfl, hN⟩; replace hB := Below.onto hB hN; clear hN)
    | (go_at_call 223; refine (hro _ hB).mono ?_; clear hro; rintro rr w7 ⟨rfl, hN⟩; replace hB := Below.onto hB hN; clear hN)
    | (go_at_call 157; refine (or2_any _ _ _).mono ?_; rintro rr w8 ⟨rfl, hw⟩; subst hw; replace hB := hB.alloc hB.size (.cells #[.int .i64 nd, .int .i64 rm] 31); rw [HA2.out]))
      go_ret2
      exact MovePost.err HER.out.symm hask2 hB
 ·have HEA : Aside (ask = moveErr t frm to) := by show _ = _; rw [HER.out, if_neg hask]
  rw [← hnl] at hwr hms ⊢
  clear hnl hL hF hn hcap hcl
  go_enter Tryz.func183, Tryz.ntmps183
  go_wp2_with (first
   | (go_at_call 24; refine (hwr _ hB).mono ?_; clear hwr; rintro e w1 ⟨rfl, hN⟩; replace hB := Below.onto hB hN; clear hN)
   | (go_at_call 217; refine (hms _ hB).mono ?_; clear hms; rintro e w2 ⟨r, rfl, hr, hN⟩; have HE : Aside (orL [f, r] = ask) := HA.out r hr; clear hr HA; replace hB := Below.onto hB hN; clear hN)
   | (go_at_call 157; refine (or2_any _ _ _).mono ?_; rintro e w4 ⟨rfl, hw⟩; subst hw; replace hB := hB.alloc hB.size (.cells #[.int .i64 f, .int .i64 r] 31); rw [HE.out]))
  go_ret2
  exact MovePost.err HEA.out hask hB
theorem getL_congr {a b : List Ent} {q : List UInt8} (ha : Sorted a) (hb : Sorted b) (h : ∀ x, x.p = q → (x ∈ a ↔ x ∈ b)) : getL a q = getL b q := by
 by_cases hq : q = []
 ·rw [hq, getL_nil, getL_nil]
 cases h1 : getL a q with
 | none =>
  have := (getL_none h1).2
  exact (getL_none_of hq fun e he hp => this e ((h e hp).2 he) hp).symm
 | some x =>
  obtain ⟨hx, hp⟩ := getL_some hq h1
  have := getL_of hb ((h x hp).1 hx) (by rw [hp]; exact hq)
  rw [hp] at this; exact this.symm
theorem getL_put_same {t : List Ent} {e : Ent} (hs : Sorted t) (he : e.p ≠ []) : getL (putL t e) e.p = some e := getL_of (sorted_putL hs e) (mem_putL.2 (.inl rfl)) he
theorem getL_put_other {t : List Ent} {e : Ent} {q : List UInt8} (hs : Sorted t) (hq : q ≠ e.p) : getL (putL t e) q = getL t q :=
 getL_congr (sorted_putL hs e) hs fun x hx => by
  rw [mem_putL]
  constructor
  ·rintro (rfl | ⟨h, _⟩)
   ·exact absurd hx.symm hq
   ·exact h
  ·intro h; exact .inr ⟨h, by rw [hx]; exact hq⟩
theorem getL_rem_other {t : List Ent} {p q : List UInt8} (hs : Sorted t) (hq : q ≠ p) : getL (remL t p) q = getL t q :=
 getL_congr (sorted_remL hs p) hs fun x hx => by
  rw [mem_remL]
  exact ⟨fun h => h.1, fun h => ⟨h, by rw [hx]; exact hq⟩⟩
theorem get_det (t : List Ent) (q : ByteArray) (p : Option Addr) (cap : Nat) (w : World) (hL : Lies w p t) (hF : Fits t) (hn : t.length < 4611686018427387904) (hq : q.size ≤ maxLen) (hs : Sorted t) (x : Ent) (b : Bool) (hx : (getL t q.data.toList).getD zeroE = x) (hb : (getL t q.data.toList).isSome = b) :
  Calls Tryz.prog 27 #[.slice p t.length cap, .string q] w fun r w' => r = .returned (.tuple #[.agg #[.string x.path, .int .i64 x.kind, .string x.text, .bool x.opq], .bool b]) ∧ Below w.heap.size w w' := by
 refine (get_any t q p cap w hL hF hn hq).mono ?_
 rintro r w' ⟨x', b', rfl, hg, hz, _, hB⟩
 have h1 := getD_of (hg hs) hz
 have h2 : (getL t q.data.toList).isSome = b' := by rw [hg hs]; cases b' <;> rfl
 rw [← hx, h1, ← hb, h2]
 exact ⟨rfl, hB⟩
theorem upA {w W : World} {o o2 : Obj} (h : Below (w.heap.size + 1) (w.alloc o) W) : Below (w.heap.size + 1) (w.alloc o) (W.alloc o2) := h.alloc (by have := h.size; simpa using this) _
def namesL (t : List Ent) (q : List UInt8) : List (List UInt8) := (t.filter fun e => decide (dirOf e.p = q)).map fun e => (cutL e.p).2
def listL (t : List Ent) (q : List UInt8) : List (List UInt8) × Int := if noDirL t q = 0 then (namesL t q, 0) else ([], noDirL t q)
theorem names_step {t : List Ent} {k : Nat} {y : Ent} {q : List UInt8} (hy : t[k]? = some y) : namesL (t.take (k + 1)) q = namesL (t.take k) q ++ (if dirOf y.p = q then [(cutL y.p).2] else []) := by
 rw [take_step hy]
 unfold namesL
 rw [List.filter_append, List.map_append]
 by_cases h : dirOf y.p = q <;> simp [h]
theorem cut_grown (s : ByteArray) (w : World) (hs : s.size < 4611686018427387904) : Calls Tryz.prog 162 #[.string s] w fun e w' => (∃ d n : ByteArray, e = .returned (.tuple #[.string d, .string n]) ∧ d.data.toList = (cutL s.data.toList).1 ∧ n.data.toList = (cutL s.data.toList).2) ∧ Grown w w' :=
 (cut_any s w hs).mono fun e w' ⟨h, n, hw⟩ => ⟨h, by rw [hw]; exact (Grown.refl w).drewN n⟩
theorem below_build {w wr w3 w1 : World} {o : Obj} {base : Nat} {r : Option Nat} (hB : Below base w wr) (hb : base ≤ wr.heap.size) (hG : Grown (wr.alloc o) w3) (o2 : Obj) (hg : (w3.alloc o2).grownBy w1 r) (hr : ∀ k, r = some k → base ≤ k) : Below base w w1 := by
 have h1 : Below base w w3 := (hB.alloc hb o).trans (hG.below.mono (by simp; omega))
 have h3 := hG.size
 simp at h3
 exact (h1.alloc (by omega) o2).grown hg (by simp; omega) hr
theorem eq_cases (d q : ByteArray) : ((d.toList == q.toList) = true ∧ Aside (d.data.toList = q.data.toList)) ∨ ((d.toList == q.toList) = false ∧ Aside (¬ d.data.toList = q.data.toList)) := by
 by_cases h : d.data.toList = q.data.toList
 ·exact .inl ⟨(eq_parts h).1, h⟩
 ·exact .inr ⟨(ne_parts h).1, h⟩
set_option maxHeartbeats 4000000 in
set_option maxRecDepth 100000 in
theorem list_any (t : List Ent) (q : ByteArray) (p : Option Addr) (cap : Nat) (w : World) (hL : Lies w p t) (hF : Fits t) (hr : Right false t) (hq : q.size ≤ maxLen) :
  Calls Tryz.prog 134 #[.slice p t.length cap, .string q] w (ParsePost w (listL t q.data.toList).1 (listL t q.data.toList).2) := by
 have hn80 := hr.len
 have hnd := noDir_any t q p cap w hL hF (by omega) hq
 have HR : Aside (Right false t) := hr
 have HL : Aside (Lies w p t) := hL
 have HLL : Aside (listL t q.data.toList = if noDirL t q.data.toList = 0 then (namesL t q.data.toList, 0) else ([], noDirL t q.data.toList)) := rfl
 obtain ⟨i0, hi, hz0, hz1, hz2⟩ := info9
 obtain ⟨n, hnl⟩ : ∃ n, n = t.length := ⟨_, rfl⟩
 have HN : Aside (n = t.length) := hnl
 rw [← hnl] at hnd hn80 ⊢
 clear hnl hr hL hF
 go_enter Tryz.func134, Tryz.ntmps134
 go_wp2_with (go_at_call 163; refine hnd.mono ?_; clear hnd; rintro e w1 ⟨r, rfl, hrr, hB⟩; have HD : Aside (r = noDirL t q.data.toList) := hrr HR.out.sorted; clear hrr; by_cases hr0 : r = 0)
 ·subst hr0
  go_loopg [7, 20] n (fun gg v i wr => ∃ (k : Nat) (bs : List ByteArray), k ≤ n ∧ n - k ≤ gg ∧ i = .int .i64 k ∧ bs.length ≤ k ∧ Aside (Strs wr w.heap.size v bs) ∧ Aside (Below w.heap.size w wr) ∧ Aside (bs.map (·.data.toList) = namesL (t.take k) q.data.toList))
  case atStart => exact ⟨0, [], Nat.zero_le _, by omega, rfl, Nat.le_refl _, Strs.nil _ _, hB, by simp [namesL, Aside]⟩
  case round =>
   obtain ⟨k, bs, hk, hgg, rfl, hbl, ST, BW, NM⟩ := hrel
   by_cases hlt : k < n
   ·have hltz : (k : Int) < (n : Int) := by omega
    obtain ⟨y, hy⟩ : ∃ y, t[k]? = some y := ⟨_, List.getElem?_eq_getElem (by have := HN.out; omega)⟩
    have HY : Aside (t[k]? = some y) := hy
    have hy80 := clean_size (HR.out.clean (List.mem_of_getElem? hy))
    rcases HL.out with h0 | ⟨b, off, rfl, hb, hc⟩
    ·rw [h0] at hy; simp at hy
    obtain ⟨c0, c1, c2, c3⟩ := Lies.cells hc hb BW.out hy
    clear hc hy
    have hcu := fun W => cut_grown y.path W (by omega)
    go_wp2_with (first
     | (go_at_call 162; refine (hcu _).mono ?_; clear hcu; rintro e w3 ⟨⟨d, nm, rfl, hd, hnm⟩, hG⟩; have HDN : Aside (d.data.toList = dirOf y.p ∧ nm.data.toList = (cutL y.p).2) := ⟨hd, hnm⟩; clear hd hnm; have hS3 : w3.ownsRow w.heap.size 9 1 u7 bs.length (bs.map Value.string) := ST.out.below (((Grown.refl wr).alloc _).trans hG).below; rcases eq_cases d q with ⟨hdq, HDQ⟩ | ⟨hdq, HDQ⟩)
     | (at_builtin; refine wpList_append_own _ rfl _ _ 36 rfl w.heap.size 9 i0 (.string ByteArray.empty) 1 16 Tryz.underlying36 hi hz0 hz1 hz2 rfl (by decide) _ _ _ rfl (hS3.alloc _) ⟨w3.heap.size, 0, none⟩ 1 1 [.string nm] rfl rfl ?c1 ?c2 ?c3 ?c4 ?c5 ?_))
    case c1 => exact cell_one_new _ _ _
    case c2 => intro u hu; simp at hu; subst hu; rfl
    case c3 => unfold maxLen; omega
    case c4 => omega
    case c5 => have := hG.size; have := BW.out.size; simp at *; omega
    ·intro v' w4 hown hgrow _
     have HB4 : Aside (Below w.heap.size w w4) := below_build BW.out BW.out.size hG _ hgrow (fun j hj => (hS3.lt j hj).1)
     have HS4 : Aside (Strs w4 w.heap.size v' (bs ++ [nm])) := by simpa [Strs, Aside] using hown
     clear hown hgrow
     go_wp2
     go_roundg (n - (k + 1))
     case measure => omega
     case rel => exact ⟨k + 1, bs ++ [nm], by omega, by omega, by go_num, by simp; omega, HS4.out, HB4.out, by
       show _ = _
       rw [names_step HY.out, if_pos (HDN.out.1.symm.trans HDQ.out), ← NM.out, ← HDN.out.2]; simp⟩
    ·go_roundg (n - (k + 1))
     case measure => omega
     case rel => exact ⟨k + 1, bs, by omega, by omega, by go_num, by omega, hS3, (BW.out.alloc BW.out.size _).trans (hG.below.mono (by have := BW.out.size; simp; omega)), by
       show _ = _
       rw [names_step HY.out, if_neg (fun h => HDQ.out (HDN.out.1.trans h)), NM.out]; simp⟩
   ·have hltz : ¬ (k : Int) < (n : Int) := by omega
    have HE : Aside (listL t q.data.toList = (bs.map (·.data.toList), 0)) := by
     show _ = _
     rw [HLL.out, if_pos HD.out.symm, NM.out, List.take_of_length_le (by have := HN.out; omega)]
    go_wp2
    go_ret2
    exact ParsePost.mk HE.out rfl rfl ST.out rfl BW.out
 ·have HE : Aside (listL t q.data.toList = ([], r)) := by show _ = _; rw [HLL.out, if_neg (by rw [← HD.out]; exact hr0), HD.out]
  go_ret2
  exact ParsePost.mk HE.out rfl rfl (Strs.nil _ _) rfl hB
theorem perm_strict {l m : List Ent} (hp : l.Perm m) (hd : m.Pairwise fun a b => a.p ≠ b.p) (hs : l.Pairwise fun a b => ¬ cmp b.p a.p < 0) : Sorted l := by
 have hd' : l.Pairwise fun a b => a.p ≠ b.p := (hp.pairwise_iff (fun h => h.symm)).2 hd
 refine (hd'.and hs).imp ?_
 rintro a b ⟨h1, h2⟩
 exact cmp_ge h2 (fun e => h1 e.symm)
end Go.Proofs.YthfeoiffoeagkaaGreatDoor
