/-
  Plain mathematics of trees, on: what is moved, and moved back.
-/
import Derived.Test.YthfeoiffoeagkaaGreatDoorQA7
namespace Go.Proofs.YthfeoiffoeagkaaGreatDoor
open Go.RowKit PM Go.Sort
set_option linter.unusedVariables false
theorem mvE_p (frm to : ByteArray) (e : Ent) : (mvE frm to e).p = to.data.toList ++ e.p.drop frm.data.toList.length := by
 show (to ++ e.path.extract frm.size e.path.size).data.toList = _
 rw [data_append, Lib.extract_to_end, szl]; rfl
theorem inM_form {f : List UInt8} {e : Ent} (hf : f ≠ []) (h : inM f e = true) : ∃ r, e.p = f ++ r ∧ (r = [] ∨ ∃ s, r = 47 :: s) := by
 unfold inM at h
 rcases Bool.or_eq_true_iff.1 h with h | h
 ·exact ⟨[], by simpa using of_decide_eq_true h, .inl rfl⟩
 ·obtain ⟨r, hr⟩ := (under_iff _ _ hf).1 h
  exact ⟨47 :: r, hr, .inr ⟨r, rfl⟩⟩
theorem inM_of {f : List UInt8} {e : Ent} (hf : f ≠ []) {r : List UInt8} (h : e.p = f ++ r) (hr : r = [] ∨ ∃ s, r = 47 :: s) : inM f e = true := by
 unfold inM
 rcases hr with rfl | ⟨s, rfl⟩
 ·simp [h]
 ·rw [(under_iff _ _ hf).2 ⟨s, h⟩]; simp
theorem inM_false {f : List UInt8} {e : Ent} (h : inM f e = false) : e.p ≠ f ∧ under e.p f = false := by
 unfold inM at h
 have := Bool.or_eq_false_iff.1 h
 exact ⟨of_decide_eq_false this.1, this.2⟩
theorem mvE_form {frm to : ByteArray} {e : Ent} {r : List UInt8} (h : e.p = frm.data.toList ++ r) : (mvE frm to e).p = to.data.toList ++ r := by
 rw [mvE_p, h, List.drop_left']; rfl
theorem under_of {a b c : List UInt8} (hb : b ≠ []) (hc : c ≠ []) (h1 : under a b = true) (h2 : under b c = true) : under a c = true := by
 obtain ⟨r, rfl⟩ := (under_iff _ _ hb).1 h1
 obtain ⟨s, rfl⟩ := (under_iff _ _ hc).1 h2
 exact (under_iff _ _ hc).2 ⟨s ++ 47 :: r, by simp⟩
structure MvOK (t : List Ent) (frm to : ByteArray) : Prop where
 right : Right false t
 src : ∃ a ∈ t, a.p = frm.data.toList
 tocl : clean to.data.toList = true
 ne : frm.data.toList ≠ to.data.toList
 nund : under to.data.toList frm.data.toList = false
 dir : dirOf to.data.toList = [] ∨ ∃ d ∈ t, d.p = dirOf to.data.toList ∧ d.kind = 2
 free : ∀ x ∈ t, under x.p to.data.toList = false
 cl : ∀ x ∈ t, x.p ≠ to.data.toList → inM frm.data.toList x = true → clean (mvE frm to x).p = true
section
variable {t : List Ent} {frm to : ByteArray} (h : MvOK t frm to)
include h
theorem MvOK.fne : frm.data.toList ≠ [] := by obtain ⟨a, ha, hp⟩ := h.src; rw [← hp]; exact h.right.ne ha
theorem MvOK.tne : to.data.toList ≠ [] := clean_ne h.tocl
theorem MvOK.inj {x y : Ent} (hx : x ∈ t) (hy : y ∈ t) (hxT : x.p ≠ to.data.toList) (hyT : y.p ≠ to.data.toList) (hne : x.p ≠ y.p) : (mvF frm to x).p ≠ (mvF frm to y).p := by
 have key : ∀ {x y : Ent}, inM frm.data.toList x = true → y ∈ t → y.p ≠ to.data.toList → (mvE frm to x).p ≠ y.p := by
  intro x y hx hy hyT e
  obtain ⟨r, hr, hr'⟩ := inM_form h.fne hx
  rw [mvE_form hr] at e
  rcases hr' with rfl | ⟨s, rfl⟩
  ·exact hyT (by rw [← e]; simp)
  ·have := h.free y hy
   rw [(under_iff _ _ h.tne).2 ⟨s, e.symm⟩] at this
   cases this
 unfold mvF
 cases h1 : inM frm.data.toList x <;> cases h2 : inM frm.data.toList y <;> simp only [if_true, if_false, Bool.false_eq_true]
 ·exact hne
 ·exact fun e => key h2 hx hxT e.symm
 ·exact key h1 hy hyT
 ·obtain ⟨r, hr, _⟩ := inM_form h.fne h1
  obtain ⟨s, hs, _⟩ := inM_form h.fne h2
  rw [mvE_form hr, mvE_form hs]
  intro e
  rw [List.append_cancel_left e] at hr
  exact hne (hr.trans hs.symm)
theorem MvOK.distinct : (movedPre t frm to).Pairwise fun a b => a.p ≠ b.p := by
 unfold movedPre
 rw [List.pairwise_map]
 have h1 : (remL t to.data.toList).Pairwise fun a b => a.p ≠ b.p := (sorted_remL h.right.sorted _).imp fun hh => ltE_ne hh
 refine h1.imp_of_mem fun {a b} ha hb hab => ?_
 exact h.inj (mem_remL.1 ha).1 (mem_remL.1 hb).1 (mem_remL.1 ha).2 (mem_remL.1 hb).2 hab
theorem MvOK.mem {l : List Ent} (hp : l.Perm (movedPre t frm to)) {x : Ent} : x ∈ l ↔ ∃ y ∈ t, y.p ≠ to.data.toList ∧ mvF frm to y = x := by
 have _ := h.fne
 rw [hp.mem_iff]
 unfold movedPre
 simp only [List.mem_map, mem_remL]
 constructor
 ·rintro ⟨y, ⟨h1, h2⟩, h3⟩; exact ⟨y, h1, h2, h3⟩
 ·rintro ⟨y, h1, h2, h3⟩; exact ⟨y, ⟨h1, h2⟩, h3⟩
theorem MvOK.stays {l : List Ent} (hp : l.Perm (movedPre t frm to)) {y : Ent} (hy : y ∈ t) (hT : y.p ≠ to.data.toList) (hi : inM frm.data.toList y = false) : y ∈ l := (h.mem hp).2 ⟨y, hy, hT, by rw [mvF, hi]; rfl⟩
theorem MvOK.goes {l : List Ent} (hp : l.Perm (movedPre t frm to)) {y : Ent} (hy : y ∈ t) (hi : inM frm.data.toList y = true) : mvE frm to y ∈ l := by
 refine (h.mem hp).2 ⟨y, hy, fun e => ?_, by rw [mvF, hi]; rfl⟩
 obtain ⟨r, hr, hr'⟩ := inM_form h.fne hi
 rcases hr' with rfl | ⟨s, rfl⟩
 ·exact h.ne (by rw [← e, hr]; simp)
 ·have := h.nund
  rw [(under_iff _ _ h.fne).2 ⟨s, by rw [← e, hr]⟩] at this
  cases this
theorem MvOK.rightL {l : List Ent} (hp : l.Perm (movedPre t frm to)) (hs : l.Pairwise fun a b => ¬ cmp b.p a.p < 0) : Right false l := by
 refine ⟨?_, fun x hx => ?_, perm_strict hp h.distinct hs, fun x hx => ?_⟩
 ·rw [hp.length_eq, movedPre, List.length_map]
  exact Nat.le_trans (List.length_filter_le _ _) h.right.len
 ·obtain ⟨y, hy, hT, rfl⟩ := (h.mem hp).1 hx
  unfold mvF
  split
  ·rename_i hi; exact wrongE_path (h.right.each y hy) rfl rfl rfl (h.cl y hy hT hi)
  ·exact h.right.each y hy
 ·obtain ⟨y, hy, hT, rfl⟩ := (h.mem hp).1 hx
  cases hi : inM frm.data.toList y with
  | false =>
   have e1 : mvF frm to y = y := by rw [mvF, hi]; rfl
   rw [e1]
   rcases h.right.dir y hy with hd | ⟨d, hd, hdp, hdk⟩
   ·exact .inl hd
   ·by_cases hd0 : dirOf y.p = []
    ·exact .inl hd0
    have hu := dir_under (h.right.ne hy) hd0
    refine .inr ⟨d, h.stays hp hd (fun e => ?_) ?_, hdp, hdk⟩
    ·have := h.free y hy
     rw [← e, hdp, hu] at this; cases this
    ·cases hdi : inM frm.data.toList d with
     | false => rfl
     | true =>
      have hyu : under y.p frm.data.toList = true := by
       unfold inM at hdi
       rcases Bool.or_eq_true_iff.1 hdi with g | g
       ·rw [← of_decide_eq_true g, hdp]; exact hu
       ·rw [hdp] at g; exact under_of hd0 h.fne hu g
      rw [(inM_false hi).2] at hyu; cases hyu
  | true =>
   have e1 : mvF frm to y = mvE frm to y := by rw [mvF, hi]; rfl
   rw [e1]
   obtain ⟨r, hr, hr'⟩ := inM_form h.fne hi
   rw [mvE_form hr]
   rcases hr' with rfl | ⟨s, rfl⟩
   ·rw [List.append_nil]
    rcases h.dir with hd | ⟨d, hd, hdp, hdk⟩
    ·exact .inl hd
    ·by_cases hd0 : dirOf to.data.toList = []
     ·exact .inl hd0
     have hu := dir_under h.tne hd0
     refine .inr ⟨d, h.stays hp hd (fun e => ?_) ?_, hdp, hdk⟩
     ·have := dirOf_short h.tne; rw [← hdp, e] at this; omega
     ·cases hdi : inM frm.data.toList d with
      | false => rfl
      | true =>
       have : under to.data.toList frm.data.toList = true := by
        unfold inM at hdi
        rcases Bool.or_eq_true_iff.1 hdi with g | g
        ·rw [← of_decide_eq_true g, hdp]; exact hu
        ·rw [hdp] at g; exact under_of hd0 h.fne hu g
       rw [h.nund] at this; cases this
   ·have hdy : ∃ a, dirOf y.p = frm.data.toList ++ a ∧ dirOf (to.data.toList ++ 47 :: s) = to.data.toList ++ a ∧ (a = [] ∨ ∃ b, a = 47 :: b) := by
     rw [hr]
     rcases cases_last s with hf | ⟨a, b, rfl, hb⟩
     ·exact ⟨[], by rw [dirOf, cutL_slash _ s hf]; simp, by rw [dirOf, cutL_slash _ s hf]; simp, .inl rfl⟩
     ·refine ⟨47 :: a, ?_, ?_, .inr ⟨a, rfl⟩⟩
      ·rw [dirOf, show frm.data.toList ++ 47 :: (a ++ 47 :: b) = (frm.data.toList ++ 47 :: a) ++ 47 :: b by simp, cutL_slash _ b hb]
      ·rw [dirOf, show to.data.toList ++ 47 :: (a ++ 47 :: b) = (to.data.toList ++ 47 :: a) ++ 47 :: b by simp, cutL_slash _ b hb]
    obtain ⟨a, ha1, ha2, ha3⟩ := hdy
    rcases h.right.dir y hy with hd | ⟨d, hd, hdp, hdk⟩
    ·rw [hd] at ha1
     have := congrArg List.length ha1
     have h0 := h.fne
     cases hff : frm.data.toList with
     | nil => exact absurd hff h0
     | cons => rw [hff] at this; simp at this
    ·have hdi : inM frm.data.toList d = true := inM_of h.fne (hdp.trans ha1) ha3
     exact .inr ⟨mvE frm to d, h.goes hp hd hdi, by rw [mvE_form (hdp.trans ha1), ha2], hdk⟩
theorem MvOK.notUnder : under frm.data.toList to.data.toList = false := by
 obtain ⟨a, ha, hp⟩ := h.src
 rw [← hp]; exact h.free a ha
end
theorem mvOK_of {t : List Ent} {frm to : ByteArray} (h0 : moveErr t frm to = 0) (hne : frm.data.toList ≠ to.data.toList) : MvOK t frm to := by
 unfold moveErr at h0
 split at h0
 ·rename_i ha
  obtain ⟨hr, hsrc⟩ := moveAsk_zero ha
  split at h0
  ·rename_i hc
   split at h0
   ·cases h0
   ·rename_i hu
    have hu' : under to.data.toList frm.data.toList = false := by simpa using hu
    split at h0
    ·rename_i ha2
     split at h0
     ·cases h0
     ·rename_i hb
      unfold moveAsk2 at ha2
      obtain ⟨hnd, hx⟩ := orL_zero.1 ha2
      obtain ⟨hrm, _⟩ := orL_zero.1 hx
      refine ⟨hr, hsrc, hc, hne, hu', ?_, ?_, ?_⟩
      ·rcases noDirL_zero.1 hnd with g | ⟨d, h1, h2, h3, _⟩
       ·exact .inl g
       ·exact .inr ⟨d, h1, h2, h3⟩
      ·intro x hx
       cases hux : under x.p to.data.toList with
       | false => rfl
       | true =>
        obtain ⟨d, hd, hdp, _⟩ := hr.below (clean_ne hc) x.p.length (Nat.le_refl _) hx hux
        have hg := getL_of hr.sorted hd (hr.ne hd)
        rw [hdp] at hg
        unfold roomL at hrm
        rw [hg] at hrm
        simp only at hrm
        split at hrm
        ·cases hrm
        ·split at hrm
         ·cases hrm
         ·unfold fullL at hrm
          rw [if_pos (List.any_eq_true.2 ⟨x, hx, hux⟩)] at hrm
          cases hrm
      ·intro x hx hT hi
       cases hcl : clean (mvE frm to x).p with
       | true => rfl
       | false => exact absurd (bad_at (mem_remL.2 ⟨hx, hT⟩) hi hcl) (by unfold badMove at hb; exact hb)
    ·rename_i ha2; exact absurd h0 ha2
  ·cases h0
 ·rename_i ha; exact absurd h0 ha
theorem right_fits {t : List Ent} (h : Right false t) : Fits t := fun e he => by
 have hw := h.each e he
 have h1 := clean_size (wrongE_clean hw)
 have h2 : e.text.size ≤ 100 := by
  unfold wrongE at hw
  split at hw
  ·cases hw
  ·split at hw
   ·cases hw
   ·split at hw
    ·cases hw
    ·omega
 unfold maxLen
 omega
end Go.Proofs.YthfeoiffoeagkaaGreatDoor
