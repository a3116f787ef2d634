/-
  Plain mathematics for traceref1.Move: what is made there entry by entry is what is moved.
-/
import Derived.Test.YtampldoimpfjgaaDoorTMath4
import Derived.Test.YtampldoimpfjgaaDoorRTWalks5
import Derived.Test.YtampldoimpfjgaaDoorLMath
namespace Go.Proofs.YtampldoimpfjgaaDoor
open Go.RowKit PM Go.Sort
set_option linter.unusedVariables false

theorem puts_sorted : ∀ (ms b : List Ent), Sorted b → Sorted (putsL b ms)
  | [], b, h => h
  | m :: ms, b, h => puts_sorted ms (putL b m) (sorted_putL h m)
theorem puts_le : ∀ (ms b : List Ent), Sorted b → (putsL b ms).length ≤ b.length + ms.length
  | [], b, h => Nat.le_refl _
  | m :: ms, b, h => by
    have h1 := puts_le ms (putL b m) (sorted_putL h m)
    have h2 := putL_length (e := m) h
    have h3 : (putL b m).length ≤ b.length + 1 := by rw [h2]; split <;> omega
    show (putsL (putL b m) ms).length ≤ _
    rw [List.length_cons]; omega
theorem puts_all {P : Ent → Prop} : ∀ (ms b : List Ent), (∀ x ∈ b, P x) → (∀ m ∈ ms, P m) → ∀ x ∈ putsL b ms, P x
  | [], b, hb, _ => hb
  | m :: ms, b, hb, hm => puts_all ms (putL b m) (fun x hx => by
      rcases mem_putL.1 hx with rfl | ⟨hx, _⟩
      · exact hm _ (by simp)
      · exact hb x hx) (fun y hy => hm y (List.mem_cons_of_mem _ hy))
theorem puts_snoc (b ms : List Ent) (m : Ent) : putsL b (ms ++ [m]) = putL (putsL b ms) m := by simp [putsL]

def baseL (t : List Ent) (f to : List UInt8) : List Ent := remUnder (remUnder t f) to
theorem mem_remUnder {t : List Ent} {q : List UInt8} {x : Ent} : x ∈ remUnder t q ↔ x ∈ t ∧ inM q x = false := by
  unfold remUnder inM
  rw [List.mem_filter]
  simp
theorem mem_baseL {t : List Ent} {f to : List UInt8} {x : Ent} : x ∈ baseL t f to ↔ x ∈ t ∧ inM f x = false ∧ inM to x = false := by
  unfold baseL
  rw [mem_remUnder, mem_remUnder, and_assoc]
theorem sorted_remUnder {t : List Ent} {q : List UInt8} (h : Sorted t) : Sorted (remUnder t q) := List.Pairwise.filter _ h
theorem sorted_baseL {t : List Ent} {f to : List UInt8} (h : Sorted t) : Sorted (baseL t f to) := sorted_remUnder (sorted_remUnder h)
/-- What the loop has made behind k entries. -/
def rmK (t : List Ent) (frm to : ByteArray) (k : Nat) : List Ent := putsL (baseL t frm.data.toList to.data.toList) (((t.take k).filter (inM frm.data.toList)).map (mvE frm to))
theorem rmK_zero (t : List Ent) (frm to : ByteArray) : rmK t frm to 0 = baseL t frm.data.toList to.data.toList := rfl
theorem rmK_skip {t : List Ent} {frm to : ByteArray} {k : Nat} {y : Ent} (hy : t[k]? = some y) (h : inM frm.data.toList y = false) : rmK t frm to (k + 1) = rmK t frm to k := by
  unfold rmK
  rw [take_step hy, List.filter_append]
  simp [h]
theorem rmK_step {t : List Ent} {frm to : ByteArray} {k : Nat} {y : Ent} (hs : Sorted t) (hy : t[k]? = some y) (h : inM frm.data.toList y = true) : rmK t frm to (k + 1) = withL (rmK t frm to k) (mvE frm to y) := by
  unfold rmK
  rw [withL_put (puts_sorted _ _ (sorted_baseL hs))]
  rw [take_step hy, List.filter_append, List.map_append]
  simp [h, putsL]
theorem rmK_len {t : List Ent} {frm to : ByteArray} {k : Nat} (hs : Sorted t) : (rmK t frm to k).length ≤ t.length := by
  have h1 := puts_le (((t.take k).filter (inM frm.data.toList)).map (mvE frm to)) _ (sorted_baseL (f := frm.data.toList) (to := to.data.toList) hs)
  unfold rmK
  rw [List.length_map] at h1
  have h2 : ((t.take k).filter (inM frm.data.toList)).length ≤ (t.filter (inM frm.data.toList)).length := ((List.take_sublist k t).filter _).length_le
  have h3 : (baseL t frm.data.toList to.data.toList).length ≤ (t.filter (fun x => !inM frm.data.toList x)).length := by
    unfold baseL
    refine Nat.le_trans (List.length_filter_le _ _) ?_
    unfold remUnder
    refine Nat.le_of_eq (congrArg List.length (List.filter_congr fun x _ => ?_))
    simp [inM]
  have h4 := List.length_eq_countP_add_countP (inM frm.data.toList) (l := t)
  rw [List.countP_eq_length_filter, List.countP_eq_length_filter] at h4
  have h5 : (t.filter (fun x => decide ¬inM frm.data.toList x = true)).length = (t.filter (fun x => !inM frm.data.toList x)).length := congrArg List.length (List.filter_congr fun x _ => by cases inM frm.data.toList x <;> rfl)
  omega
theorem rmK_all {P : Ent → Prop} {t : List Ent} {frm to : ByteArray} {k : Nat} (h1 : ∀ x ∈ t, P x) (h2 : ∀ x ∈ t.take k, inM frm.data.toList x = true → P (mvE frm to x)) : ∀ x ∈ rmK t frm to k, P x := by
  refine puts_all _ _ (fun x hx => h1 x (mem_baseL.1 hx).1) fun m hm => ?_
  obtain ⟨y, hy, rfl⟩ := List.mem_map.1 hm
  exact h2 y (List.mem_filter.1 hy).1 (List.mem_filter.1 hy).2

def moveL (t : List Ent) (frm to : ByteArray) : List Ent := if moveErr t frm to = 0 then (if frm.data.toList = to.data.toList then t else rmK t frm to t.length) else []
theorem MvOK.notTo {t : List Ent} {frm to : ByteArray} (h : MvOK t frm to) {y : Ent} (hi : inM frm.data.toList y = true) : y.p ≠ to.data.toList := fun e => by
  unfold inM at hi
  rw [e] at hi
  rcases Bool.or_eq_true _ _ ▸ hi with h1 | h1
  · exact h.ne (of_decide_eq_true h1).symm
  · rw [h.nund] at h1; cases h1
theorem rm_eq {t : List Ent} {frm to : ByteArray} (h : MvOK t frm to) {l : List Ent} (hp : l.Perm (movedPre t frm to)) (hs : l.Pairwise fun a b => ¬ cmp b.p a.p < 0) : l = rmK t frm to t.length := by
  have hd : (((t.take t.length).filter (inM frm.data.toList)).map (mvE frm to)).Pairwise fun a b => a.p ≠ b.p := by
    rw [List.take_length, List.pairwise_map]
    have h1 : (t.filter (inM frm.data.toList)).Pairwise fun a b => a.p ≠ b.p := sorted_distinct (List.Pairwise.filter _ h.right.sorted)
    refine h1.imp_of_mem fun {a b} ha hb hab => ?_
    rw [List.mem_filter] at ha hb
    have := h.inj ha.1 hb.1 (h.notTo ha.2) (h.notTo hb.2) hab
    unfold mvF at this
    rwa [if_pos ha.2, if_pos hb.2] at this
  obtain ⟨h1, h2⟩ := puts_mem _ _ (sorted_baseL (f := frm.data.toList) (to := to.data.toList) h.right.sorted) hd
  refine sorted_ext (h.rightL hp hs).sorted h1 fun x => ?_
  rw [h.mem hp]
  show _ ↔ x ∈ putsL _ _
  rw [h2, mem_baseL, List.take_length]
  constructor
  · rintro ⟨y, hy, hT, rfl⟩
    cases hi : inM frm.data.toList y with
    | true => exact .inl (List.mem_map.2 ⟨y, List.mem_filter.2 ⟨hy, hi⟩, by rw [mvF, if_pos hi]⟩)
    | false =>
      have hm : mvF frm to y = y := by rw [mvF, hi]; rfl
      rw [hm]
      refine .inr ⟨⟨hy, hi, ?_⟩, fun m hmm => ?_⟩
      · unfold inM
        rw [h.free y hy]
        simpa using hT
      · obtain ⟨z, hz, rfl⟩ := List.mem_map.1 hmm
        rw [List.mem_filter] at hz
        have := h.inj hy hz.1 hT (h.notTo hz.2) (fun e => by
          have h1 : inM frm.data.toList y = inM frm.data.toList z := by unfold inM; rw [e]
          rw [hi, hz.2] at h1; cases h1)
        rw [hm] at this
        unfold mvF at this
        rwa [if_pos hz.2] at this
  · rintro (hx | ⟨⟨hx, hi, ht⟩, _⟩)
    · obtain ⟨y, hy, rfl⟩ := List.mem_map.1 hx
      rw [List.mem_filter] at hy
      exact ⟨y, hy.1, h.notTo hy.2, by rw [mvF, if_pos hy.2]⟩
    · refine ⟨x, hx, fun e => ?_, by rw [mvF, hi]; rfl⟩
      unfold inM at ht
      simp [e] at ht
theorem MovePost.tree {t : List Ent} {frm to : ByteArray} {w w' : World} {r : Ending} (h : MovePost t frm to w r w') : TreePost (moveErr t frm to) (moveL t frm to) w r w' := by
  obtain ⟨l, hT, h1, h2⟩ := h
  have : l = moveL t frm to := by
    unfold moveL
    by_cases h0 : moveErr t frm to = 0
    · rw [if_pos h0]
      by_cases hft : frm.data.toList = to.data.toList
      · rw [if_pos hft]; exact (h2 h0).1 hft
      · rw [if_neg hft]
        exact rm_eq (mvOK_of h0 hft) ((h2 h0).2 hft).1 ((h2 h0).2 hft).2
    · rw [if_neg h0]; exact h1 h0
  rw [← this]; exact hT
theorem bad_all {t : List Ent} {frm to : ByteArray} (hne : frm.data.toList ≠ to.data.toList) (hnu : under to.data.toList frm.data.toList = false) : badMove t frm to = t.any fun e => inM frm.data.toList e && !clean (mvE frm to e).p := by
  rw [Bool.eq_iff_iff]
  unfold badMove
  rw [List.any_eq_true, List.any_eq_true]
  constructor
  · rintro ⟨x, hx, h⟩; exact ⟨x, (mem_remL.1 hx).1, h⟩
  · rintro ⟨x, hx, h⟩
    refine ⟨x, mem_remL.2 ⟨hx, fun e => ?_⟩, h⟩
    have hi : inM frm.data.toList x = true := by
      cases hh : inM frm.data.toList x with
      | true => rfl
      | false => rw [hh] at h; simp at h
    unfold inM at hi
    rw [e, hnu, Bool.or_false] at hi
    exact hne (of_decide_eq_true hi).symm
end Go.Proofs.YtampldoimpfjgaaDoor
