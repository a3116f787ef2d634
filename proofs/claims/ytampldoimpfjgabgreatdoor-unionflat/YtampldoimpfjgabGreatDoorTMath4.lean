/-
  Plain mathematics of trees, on: all that a move leaves, and that it can be taken back.
-/
import Derived.Test.YtampldoimpfjgabGreatDoorTMath3
namespace Go.Proofs.YtampldoimpfjgabGreatDoor
open Go.RowKit PM Go.Sort
set_option linter.unusedVariables false

theorem mvOK_of {t : List Ent} {frm to : ByteArray} (h0 : moveErr t frm to = 0) (hne : frm.data.toList ≠ to.data.toList) : MvOK t frm to := by
  unfold moveErr at h0
  split at h0
  · rename_i ha
    obtain ⟨hr, hsrc⟩ := moveAsk_zero ha
    split at h0
    · rename_i hc
      split at h0
      · cases h0
      · rename_i hu
        have hu' : under to.data.toList frm.data.toList = false := by simpa using hu
        split at h0
        · rename_i ha2
          split at h0
          · cases h0
          · rename_i hb
            unfold moveAsk2 at ha2
            obtain ⟨hnd, hx⟩ := orL_zero.1 ha2
            obtain ⟨hrm, _⟩ := orL_zero.1 hx
            refine ⟨hr, hsrc, hc, hne, hu', ?_, ?_, ?_⟩
            · rcases noDirL_zero.1 hnd with g | ⟨d, h1, h2, h3, _⟩
              · exact .inl g
              · exact .inr ⟨d, h1, h2, h3⟩
            · intro x hx
              cases hux : under x.p to.data.toList with
              | false => rfl
              | true =>
                obtain ⟨d, hd, hdp, _⟩ := hr.below (clean_ne hc) x.p.length (Nat.le_refl _) hx hux
                have hg := getL_of hr.sorted hd (hr.ne hd)
                rw [hdp] at hg
                unfold roomL at hrm
                rw [hg] at hrm
                simp only at hrm
                split at hrm
                · cases hrm
                · split at hrm
                  · cases hrm
                  · unfold fullL at hrm
                    rw [if_pos (List.any_eq_true.2 ⟨x, hx, hux⟩)] at hrm
                    cases hrm
            · intro x hx hT hi
              cases hcl : clean (mvE frm to x).p with
              | true => rfl
              | false => exact absurd (bad_at (mem_remL.2 ⟨hx, hT⟩) hi hcl) (by unfold badMove at hb; exact hb)
        · rename_i ha2; exact absurd h0 ha2
    · cases h0
  · rename_i ha; exact absurd h0 ha
/-- All that a move leaves. -/
structure MvRes (t : List Ent) (frm to : ByteArray) (l : List Ent) : Prop where
  right : Right false l
  a1 : ∀ (q : ByteArray) (a : Ent), (q.data.toList = frm.data.toList ∨ under q.data.toList frm.data.toList = true) → getL t q.data.toList = some a → getL l (to ++ q.extract frm.size q.size).data.toList = some { a with path := to ++ q.extract frm.size q.size }
  a2 : ∀ (q : List UInt8) (a : Ent), q ≠ frm.data.toList → under q frm.data.toList = false → q ≠ to.data.toList → getL t q = some a → getL l q = some a
  a3 : getL t to.data.toList = none → moveErr l to frm = 0 ∧ ∀ l2 : List Ent, l2.Perm (movedPre l to frm) → l2.Pairwise (fun a b => ¬ cmp b.p a.p < 0) → l2 = t
theorem src_ne {t : List Ent} {frm to : ByteArray} (h0 : moveErr t frm to = 0) : Right false t ∧ ∃ a ∈ t, a.p = frm.data.toList := by
  unfold moveErr at h0
  split at h0
  · rename_i ha; exact moveAsk_zero ha
  · rename_i ha; exact absurd h0 ha
theorem same_path {frm to q : ByteArray} (h : frm.data.toList = to.data.toList) (hi : q.data.toList = frm.data.toList ∨ under q.data.toList frm.data.toList = true) (hf : frm.data.toList ≠ []) : to ++ q.extract frm.size q.size = q := by
  apply ba_ext
  rw [data_append, Lib.extract_to_end, ← szl, ← h]
  rcases hi with hi | hi
  · rw [hi]; simp
  · obtain ⟨r, hr⟩ := (under_iff _ _ hf).1 hi
    rw [hr]; simp
theorem res_same {t : List Ent} {frm to : ByteArray} (h0 : moveErr t frm to = 0) (he : frm.data.toList = to.data.toList) : MvRes t frm to t := by
  obtain ⟨hr, a0, ha0, hp0⟩ := src_ne h0
  have hf : frm.data.toList ≠ [] := by rw [← hp0]; exact hr.ne ha0
  refine ⟨hr, fun q a hi hg => ?_, fun q a _ _ _ hg => hg, fun hg => ?_⟩
  · rw [same_path he hi hf, hg]
    have hq : q.data.toList ≠ [] := by
      rcases hi with hi | hi
      · rw [hi]; exact hf
      · obtain ⟨r, hr⟩ := (under_iff _ _ hf).1 hi; rw [hr]; simp
    have := (getL_some hq hg).2
    have hpa : a.path = q := ba_ext this
    obtain ⟨x, y, z, w⟩ := a
    subst hpa; rfl
  · have := (getL_none hg).2 a0 ha0
    exact absurd (hp0.trans he) this
theorem res_moved {t : List Ent} {frm to : ByteArray} (h : MvOK t frm to) {l : List Ent} (hp : l.Perm (movedPre t frm to)) (hs : l.Pairwise fun a b => ¬ cmp b.p a.p < 0) : MvRes t frm to l := by
  have hR := h.rightL hp hs
  refine ⟨hR, fun q a hi hg => ?_, fun q a h1 h2 h3 hg => ?_, fun hg => ?_⟩
  · have hq : q.data.toList ≠ [] := by
      rcases hi with hi | hi
      · rw [hi]; exact h.fne
      · obtain ⟨r, hr⟩ := (under_iff _ _ h.fne).1 hi; rw [hr]; simp
    obtain ⟨ha, hap⟩ := getL_some hq hg
    have hpa : a.path = q := ba_ext hap
    have hia : inM frm.data.toList a = true := by
      unfold inM
      rw [show a.p = q.data.toList from hap]
      rcases hi with hi | hi <;> simp [hi]
    have hm := h.goes hp ha hia
    have := getL_of hR.sorted hm (hR.ne hm)
    have e1 : mvE frm to a = { a with path := to ++ q.extract frm.size q.size } := by unfold mvE; rw [hpa]
    rw [e1] at this
    exact this
  · by_cases hq : q = []
    · rw [hq, getL_nil] at hg ⊢; exact hg
    obtain ⟨ha, hap⟩ := getL_some hq hg
    have hm := h.stays hp ha (by rw [hap]; exact h3) (by unfold inM; rw [hap, h2]; simp [h1])
    have := getL_of hR.sorted hm (hR.ne hm)
    rw [hap] at this; exact this
  · have hno := (getL_none hg).2
    obtain ⟨a0, ha0, hp0⟩ := h.src
    have hnf := h.notUnder
    have hia0 : inM frm.data.toList a0 = true := by unfold inM; simp [hp0]
    have hT : ∃ x ∈ l, x.p = to.data.toList := ⟨mvE frm to a0, h.goes hp ha0 hia0, by rw [mvE_form (r := []) (by rw [hp0]; simp)]; simp⟩
    have hfc : clean frm.data.toList = true := by rw [← hp0]; exact h.right.clean ha0
    have hgone : ∀ x ∈ l, x.p ≠ frm.data.toList := fun x hx => h.gone hp hnf hx
    have hinv : ∀ y ∈ t, mvF to frm (mvF frm to y) = y := fun y hy => by
      cases hi : inM frm.data.toList y with
      | false =>
        have e1 : mvF frm to y = y := by rw [mvF, hi]; rfl
        rw [e1, mvF]
        have : inM to.data.toList y = false := by unfold inM; rw [h.free y hy]; simp [hno y hy]
        rw [this]; rfl
      | true =>
        have e1 : mvF frm to y = mvE frm to y := by rw [mvF, hi]; rfl
        obtain ⟨r, hr, hr'⟩ := inM_form h.fne hi
        rw [e1, mvF, inM_of h.tne (mvE_form hr) hr']
        exact mv_back hr
    have hdir : dirOf frm.data.toList = [] ∨ ∃ d ∈ l, d.p = dirOf frm.data.toList ∧ d.kind = 2 := by
      rcases h.right.dir a0 ha0 with hd | ⟨d, hd, hdp, hdk⟩
      · rw [hp0] at hd; exact .inl hd
      · rw [hp0] at hdp
        refine .inr ⟨d, h.stays hp hd (hno d hd) ?_, hdp, hdk⟩
        have hsh := dirOf_short h.fne
        unfold inM
        rw [hdp]
        have n1 : dirOf frm.data.toList ≠ frm.data.toList := fun e => by rw [e] at hsh; omega
        have n2 : under (dirOf frm.data.toList) frm.data.toList = false := by
          cases hu : under (dirOf frm.data.toList) frm.data.toList with
          | false => rfl
          | true =>
            obtain ⟨r, hr⟩ := (under_iff _ _ h.fne).1 hu
            rw [hr] at hsh; simp at hsh; omega
        rw [n2]; simp [n1]
    have hback : MvOK l to frm := by
      refine ⟨hR, hT, hfc, fun e => h.ne e.symm, hnf, hdir, fun x hx => ?_, fun x hx hxf hi => ?_⟩
      · cases hu : under x.p frm.data.toList with
        | false => rfl
        | true =>
          obtain ⟨d, hd, hdp, _⟩ := hR.below h.fne x.p.length (Nat.le_refl _) hx hu
          exact absurd hdp (hgone d hd)
      · obtain ⟨y, hy, hyT, rfl⟩ := (h.mem hp).1 hx
        have := hinv y hy
        rw [mvF, if_pos hi] at this
        rw [this]; exact h.right.clean hy
    refine ⟨?_, fun l2 hp2 hs2 => ?_⟩
    · have e1 : moveAsk l to.data.toList = 0 := by unfold moveAsk; rw [faultL_right hR, missL, if_pos hT]; rfl
      have hgf : getL l frm.data.toList = none := getL_none_of h.fne hgone
      have e2 : moveAsk2 l to.data.toList frm.data.toList = 0 := by
        unfold moveAsk2 roomL
        rw [hgf]
        have : noDirL l (dirOf frm.data.toList) = 0 := by
          refine noDirL_zero.2 ?_
          rcases hdir with g | ⟨d, h1, h2, h3⟩
          · exact .inl g
          · exact .inr ⟨d, h1, h2, h3, by rw [← h2]; exact getL_of hR.sorted h1 (hR.ne h1)⟩
        rw [this]; rfl
      have e3 : badMove l to frm = false := by
        unfold badMove
        rw [List.any_eq_false]
        intro x hx
        obtain ⟨hx1, hx2⟩ := mem_remL.1 hx
        cases hi : inM to.data.toList x with
        | false => simp
        | true => rw [hback.cl x hx1 hx2 hi]; simp
      unfold moveErr
      rw [if_pos e1, if_pos hfc, if_neg (fun e => h.ne e.symm), hnf, if_neg (by decide), if_pos e2, e3]; rfl
    · refine sorted_ext (hback.rightL hp2 hs2).sorted h.right.sorted fun x => ?_
      rw [hback.mem hp2]
      constructor
      · rintro ⟨z, hz, hzf, rfl⟩
        obtain ⟨y, hy, _, rfl⟩ := (h.mem hp).1 hz
        rw [hinv y hy]; exact hy
      · intro hx
        have hm : mvF frm to x ∈ l := (h.mem hp).2 ⟨x, hx, hno x hx, rfl⟩
        exact ⟨mvF frm to x, hm, hgone _ hm, hinv x hx⟩
theorem right_fits {t : List Ent} (h : Right false t) : Fits t := fun e he => by
  have hw := h.each e he
  have h1 := clean_size (wrongE_clean hw)
  have h2 : e.text.size ≤ 100 := by
    unfold wrongE at hw
    split at hw
    · cases hw
    · split at hw
      · cases hw
      · split at hw
        · cases hw
        · omega
  unfold maxLen
  omega
end Go.Proofs.YtampldoimpfjgabGreatDoor
