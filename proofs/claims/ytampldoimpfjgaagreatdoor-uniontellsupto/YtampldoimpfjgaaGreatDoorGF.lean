/-
  Plain mathematics of layers as lists of entries: what a layer hides, what is seen, what layers come to; nothing of a program stands in it.
-/
import Derived.Test.YtampldoimpfjgaaGreatDoorGC
import Derived.Test.YtampldoimpfjgaaGreatDoorGE
namespace Go.Proofs.YtampldoimpfjgaaGreatDoor.PM
set_option linter.unusedVariables false

/-- Entries put one by one. -/
def putsL (b ms : List Ent) : List Ent := ms.foldl putL b
theorem puts_mem : ∀ (ms b : List Ent), Sorted b → ms.Pairwise (fun a b => a.p ≠ b.p) → Sorted (putsL b ms) ∧ ∀ x, x ∈ putsL b ms ↔ x ∈ ms ∨ x ∈ b ∧ ∀ m ∈ ms, x.p ≠ m.p
  | [], b, hs, _ => ⟨hs, fun x => by simp [putsL]⟩
  | m :: ms, b, hs, hd => by
    have hd' := List.pairwise_cons.1 hd
    obtain ⟨h1, h2⟩ := puts_mem ms (putL b m) (sorted_putL hs m) hd'.2
    refine ⟨h1, fun x => ?_⟩
    show x ∈ putsL (putL b m) ms ↔ _
    rw [h2, mem_putL]
    constructor
    · rintro (hx | ⟨rfl | ⟨hb, hne⟩, hm⟩)
      · exact .inl (List.mem_cons_of_mem _ hx)
      · exact .inl (by simp)
      · refine .inr ⟨hb, fun y hy => ?_⟩
        rcases List.mem_cons.1 hy with rfl | hy
        · exact hne
        · exact hm y hy
    · rintro (hx | ⟨hb, hm⟩)
      · rcases List.mem_cons.1 hx with rfl | hx
        · exact .inr ⟨.inl rfl, fun y hy => hd'.1 y hy⟩
        · exact .inl hx
      · exact .inr ⟨.inr ⟨hb, hm m (by simp)⟩, fun y hy => hm y (List.mem_cons_of_mem _ hy)⟩
theorem puts_len : ∀ (ms b : List Ent), Sorted b → ms.Pairwise (fun a b => a.p ≠ b.p) → (∀ x ∈ b, ∀ m ∈ ms, x.p ≠ m.p) → (putsL b ms).length = ms.length + b.length
  | [], b, hs, _, _ => by simp [putsL]
  | m :: ms, b, hs, hd, hb => by
    have hd' := List.pairwise_cons.1 hd
    have h1 : (putL b m).length = b.length + 1 := by
      rw [putL_length hs, if_neg]
      rintro ⟨x, hx, hp⟩
      exact hb x hx m (by simp) hp
    have := puts_len ms (putL b m) (sorted_putL hs m) hd'.2 (fun x hx y hy => by
      rcases mem_putL.1 hx with rfl | ⟨hx, _⟩
      · exact hd'.1 y hy
      · exact hb x hx y (List.mem_cons_of_mem _ hy))
    show (putsL (putL b m) ms).length = _
    rw [this, h1, List.length_cons]; omega
theorem sorted_distinct {l : List Ent} (h : Sorted l) : l.Pairwise fun a b => a.p ≠ b.p := h.imp ltE_ne
/-- Rising, with no path twice. -/
theorem sorted_of_weak {l : List Ent} (hd : l.Pairwise fun a b => a.p ≠ b.p) (hs : l.Pairwise fun a b => ¬ cmp b.p a.p < 0) : Sorted l := by
  have := hd.and hs
  refine this.imp ?_
  rintro a b ⟨h1, h2⟩
  exact cmp_ge h2 (Ne.symm h1)
theorem perm_sorted {l pre : List Ent} (hp : l.Perm pre) (hd : pre.Pairwise fun a b => a.p ≠ b.p) (hs : l.Pairwise fun a b => ¬ cmp b.p a.p < 0) : Sorted l :=
  sorted_of_weak ((hp.pairwise_iff (fun {a b} h => Ne.symm h)).2 hd) hs

theorem under_tr {a b c : List UInt8} (hb : b ≠ []) (hc : c ≠ []) (h1 : under a b = true) (h2 : under b c = true) : under a c = true := by
  obtain ⟨r, rfl⟩ := (under_iff _ _ hb).1 h1
  obtain ⟨s, rfl⟩ := (under_iff _ _ hc).1 h2
  exact (under_iff _ _ hc).2 ⟨s ++ 47 :: r, by simp⟩

/-! layers -/
def clearE (e : Ent) : Ent := { e with opq := false }
theorem clearE_p (e : Ent) : (clearE e).p = e.p := rfl
def ownL (l : List Ent) : List Ent := (l.filter fun e => !(e.kind == 4)).map clearE
def hidesE (q : List UInt8) (e : Ent) : Bool := decide (e.p = q) && !(e.kind == 2) || under q e.p && (!(e.kind == 2) || e.opq)
def hidesL (l : List Ent) (q : List UInt8) : Bool := l.any (hidesE q)
def seenThru (l : List Ent) (e : Ent) : Bool := (getL l e.p).isNone && !hidesL l e.p
def thruL (l t : List Ent) : List Ent := t.filter (seenThru l)
def overL (l t : List Ent) : List Ent := putsL (thruL l t) (ownL l)
def overN (l t : List Ent) : Nat := (ownL l ++ thruL l t).length
def overErr (l t : List Ent) : Int := if (faultL true l).1 = 0 then (if (faultL false t).1 = 0 then (if 80 < overN l t then 5 else 0) else (faultL false t).1) else (faultL true l).1

theorem overErr_zero {l t : List Ent} : overErr l t = 0 ↔ Right true l ∧ Right false t ∧ overN l t ≤ 80 := by
  unfold overErr
  by_cases h1 : (faultL true l).1 = 0
  · rw [if_pos h1]
    by_cases h2 : (faultL false t).1 = 0
    · rw [if_pos h2]
      by_cases h3 : 80 < overN l t
      · rw [if_pos h3]
        exact ⟨fun h => absurd h (by decide), fun h => by omega⟩
      · rw [if_neg h3]
        exact ⟨fun _ => ⟨faultL_zero.1 h1, faultL_zero.1 h2, by omega⟩, fun _ => rfl⟩
    · rw [if_neg h2]
      exact ⟨fun h => absurd h h2, fun h => absurd (faultL_zero.2 h.2.1) h2⟩
  · rw [if_neg h1]
    exact ⟨fun h => absurd h h1, fun h => absurd (faultL_zero.2 h.1) h1⟩

theorem mem_ownL {l : List Ent} {x : Ent} : x ∈ ownL l ↔ ∃ y ∈ l, ¬ y.kind = 4 ∧ clearE y = x := by
  unfold ownL
  rw [List.mem_map]
  constructor
  · rintro ⟨y, hy, rfl⟩
    rw [List.mem_filter] at hy
    exact ⟨y, hy.1, by simpa using hy.2, rfl⟩
  · rintro ⟨y, hy, hk, rfl⟩
    exact ⟨y, List.mem_filter.2 ⟨hy, by simpa using hk⟩, rfl⟩
theorem mem_thruL {l t : List Ent} {x : Ent} : x ∈ thruL l t ↔ x ∈ t ∧ getL l x.p = none ∧ hidesL l x.p = false := by
  unfold thruL seenThru
  rw [List.mem_filter]
  simp
theorem own_distinct {l : List Ent} (h : Sorted l) : (ownL l).Pairwise fun a b => a.p ≠ b.p := by
  unfold ownL
  rw [List.pairwise_map]
  exact (List.Pairwise.filter _ h).imp fun h => ltE_ne h
theorem thru_own {l t : List Ent} : ∀ x ∈ thruL l t, ∀ m ∈ ownL l, x.p ≠ m.p := by
  intro x hx m hm he
  obtain ⟨y, hy, _, rfl⟩ := mem_ownL.1 hm
  exact (getL_none (mem_thruL.1 hx).2.1).2 y hy he.symm
theorem sorted_thru {l t : List Ent} (h : Sorted t) : Sorted (thruL l t) := List.Pairwise.filter _ h
theorem over_sorted {l t : List Ent} (hl : Sorted l) (ht : Sorted t) : Sorted (overL l t) := (puts_mem _ _ (sorted_thru ht) (own_distinct hl)).1
theorem mem_over {l t : List Ent} (hl : Sorted l) (ht : Sorted t) {x : Ent} : x ∈ overL l t ↔ x ∈ ownL l ∨ x ∈ thruL l t := by
  unfold overL
  rw [(puts_mem _ _ (sorted_thru ht) (own_distinct hl)).2]
  exact ⟨fun h => h.imp id (·.1), fun h => h.imp id fun h => ⟨h, thru_own x h⟩⟩
theorem over_len {l t : List Ent} (hl : Sorted l) (ht : Sorted t) : (overL l t).length = overN l t := by
  unfold overL overN
  rw [puts_len _ _ (sorted_thru ht) (own_distinct hl) thru_own, List.length_append]
theorem pre_distinct {l t : List Ent} (hl : Sorted l) (ht : Sorted t) : (ownL l ++ thruL l t).Pairwise fun a b => a.p ≠ b.p := by
  rw [List.pairwise_append]
  exact ⟨own_distinct hl, sorted_distinct (sorted_thru ht), fun a ha b hb => Ne.symm (thru_own b hb a ha)⟩
/-- What is sorted out of a layer's own and what is seen through it is what is seen. -/
theorem over_of {l t r : List Ent} (hl : Sorted l) (ht : Sorted t) (hp : r.Perm (ownL l ++ thruL l t)) (hs : r.Pairwise fun a b => ¬ cmp b.p a.p < 0) : r = overL l t := by
  refine sorted_ext (perm_sorted hp (pre_distinct hl ht) hs) (over_sorted hl ht) fun x => ?_
  rw [mem_over hl ht, hp.mem_iff, List.mem_append]
/-- As the document's own answer has it: what is not hidden, and then the layer's own, one by one. -/
theorem over_ref {l t : List Ent} (hl : Sorted l) (ht : Sorted t) (hne : ∀ e ∈ t, e.p ≠ []) : putsL (t.filter fun e => !hidesL l e.p) (ownL l) = overL l t := by
  have hsf : Sorted (t.filter fun e => !hidesL l e.p) := List.Pairwise.filter _ ht
  obtain ⟨h1, h2⟩ := puts_mem (ownL l) _ hsf (own_distinct hl)
  refine sorted_ext h1 (over_sorted hl ht) fun x => ?_
  rw [h2, mem_over hl ht, mem_thruL, List.mem_filter]
  constructor
  · rintro (h | ⟨⟨hx, hh⟩, hm⟩)
    · exact .inl h
    · refine .inr ⟨hx, getL_none_of (hne x hx) (fun y hy hp => ?_), by simpa using hh⟩
      by_cases hk : y.kind = 4
      · have : hidesL l x.p = true := List.any_eq_true.2 ⟨y, hy, by simp [hidesE, hp, hk]⟩
        rw [this] at hh; cases hh
      · exact hm (clearE y) (mem_ownL.2 ⟨y, hy, hk, rfl⟩) hp.symm
  · rintro (h | ⟨hx, hg, hh⟩)
    · exact .inl h
    · refine .inr ⟨⟨hx, by simpa using hh⟩, fun m hm he => ?_⟩
      obtain ⟨y, hy, _, rfl⟩ := mem_ownL.1 hm
      exact (getL_none hg).2 y hy he.symm

theorem kind_layer {e : Ent} (h : wrongE e false = 0) : ¬ e.kind = 4 ∧ e.opq = false := by
  unfold wrongE at h
  split at h
  · omega
  rename_i h1
  split at h
  · omega
  split at h
  · omega
  split at h
  · omega
  rename_i h4
  refine ⟨fun hk => h1 (by simp [hk]), ?_⟩
  cases ho : e.opq with
  | false => rfl
  | true => exact absurd (by simp [ho]) h4
theorem wrongE_layer {e : Ent} (h : wrongE e false = 0) : wrongE e true = 0 := by
  obtain ⟨h4, ho⟩ := kind_layer h
  unfold wrongE at h ⊢
  rw [ho] at h ⊢
  simp [h4] at h ⊢
  exact h
theorem wrongE_clear {e : Ent} (h : wrongE e true = 0) (hk : ¬ e.kind = 4) : wrongE (clearE e) false = 0 := by
  unfold wrongE at h ⊢
  have hp : (clearE e).p = e.p := rfl
  have h2 : (clearE e).kind = e.kind := rfl
  have h3 : (clearE e).text = e.text := rfl
  have h4 : (clearE e).opq = false := rfl
  rw [hp, h2, h3, h4]
  simp only [hk, decide_false, Bool.and_false, Bool.false_and, Bool.not_false, Bool.and_true, Bool.or_false] at h ⊢
  split at h
  · omega
  rename_i c1
  rw [if_neg c1]
  split at h
  · omega
  rename_i c2
  rw [if_neg c2]
  split at h
  · omega
  rename_i c3
  rw [if_neg c3]
  split at h
  · omega
  rename_i c4
  rw [if_neg]
  intro c
  apply c4
  rw [c]
  rfl
theorem clearE_id {e : Ent} (h : e.opq = false) : clearE e = e := by
  obtain ⟨p, k, t, o⟩ := e
  simp at h
  subst h; rfl
theorem Right.layer {t : List Ent} (h : Right false t) : Right true t := ⟨h.len, fun e he => wrongE_layer (h.each e he), h.sorted, h.dir⟩
theorem own_tree {t : List Ent} (h : Right false t) : ownL t = t := by
  unfold ownL
  have h1 : (t.filter fun e => !(e.kind == 4)) = t := List.filter_eq_self.2 fun e he => by simpa using (kind_layer (h.each e he)).1
  rw [h1]
  conv => rhs; rw [← List.map_id t]
  exact List.map_congr_left fun e he => clearE_id (kind_layer (h.each e he)).2

/-- What is seen is right. -/
theorem over_right {l t : List Ent} (h : overErr l t = 0) : Right false (overL l t) := by
  obtain ⟨hl, ht, hn⟩ := overErr_zero.1 h
  refine ⟨by rw [over_len hl.sorted ht.sorted]; exact hn, fun e he => ?_, over_sorted hl.sorted ht.sorted, fun e he => ?_⟩
  · rcases (mem_over hl.sorted ht.sorted).1 he with he | he
    · obtain ⟨y, hy, hk, rfl⟩ := mem_ownL.1 he
      exact wrongE_clear (hl.each y hy) hk
    · exact ht.each e (mem_thruL.1 he).1
  · have own_dir : ∀ d ∈ l, d.kind = 2 → ∃ x ∈ overL l t, x.p = d.p ∧ x.kind = 2 := fun d hd hk =>
      ⟨clearE d, (mem_over hl.sorted ht.sorted).2 (.inl (mem_ownL.2 ⟨d, hd, by omega, rfl⟩)), rfl, hk⟩
    rcases (mem_over hl.sorted ht.sorted).1 he with he | he
    · obtain ⟨y, hy, hk, rfl⟩ := mem_ownL.1 he
      rcases hl.dir y hy with g | ⟨d, hd, hp, hk2⟩
      · exact .inl g
      · obtain ⟨x, h1, h2, h3⟩ := own_dir d hd hk2
        exact .inr ⟨x, h1, h2.trans hp, h3⟩
    · obtain ⟨hm, hg, hh⟩ := mem_thruL.1 he
      rcases ht.dir e hm with g | ⟨d, hd, hp, hk2⟩
      · exact .inl g
      · have hdn : d.p ≠ [] := ht.ne hd
        have hu : under e.p d.p = true := by rw [hp]; exact dir_under (ht.ne hm) (by rw [← hp]; exact hdn)
        have hno : ∀ y ∈ l, hidesE e.p y = false := fun y hy => by
          cases hc : hidesE e.p y with
          | false => rfl
          | true => rw [show hidesL l e.p = true from List.any_eq_true.2 ⟨y, hy, hc⟩] at hh; cases hh
        cases hgl : getL l d.p with
        | some y =>
          obtain ⟨hy, hyp⟩ := getL_some hdn hgl
          have hky : y.kind = 2 := by
            have := hno y hy
            unfold hidesE at this
            rw [hyp, hu] at this
            by_cases hk : y.kind = 2
            · exact hk
            · simp [hk] at this
          obtain ⟨x, h1, h2, h3⟩ := own_dir y hy hky
          exact .inr ⟨x, h1, h2.trans (hyp.trans hp), h3⟩
        | none =>
          refine .inr ⟨d, (mem_over hl.sorted ht.sorted).2 (.inr (mem_thruL.2 ⟨hd, hgl, ?_⟩)), hp, hk2⟩
          cases hc : hidesL l d.p with
          | false => rfl
          | true =>
            obtain ⟨y, hy, hhy⟩ := List.any_eq_true.1 hc
            have := hno y hy
            have hyd : ¬ y.p = d.p := (getL_none hgl).2 y hy
            unfold hidesE at this hhy
            simp [hyd] at hhy
            rw [under_tr hdn (hl.ne hy) hu hhy.1] at this
            rcases hhy.2 with h | h <;> simp [h] at this

theorem get_over_own {l t : List Ent} (hl : Right true l) (ht : Right false t) {y : Ent} (hy : y ∈ l) : getL (overL l t) y.p = if y.kind = 4 then none else some (clearE y) := by
  have hne := hl.ne hy
  by_cases hk : y.kind = 4
  · rw [if_pos hk]
    refine getL_none_of hne fun x hx he => ?_
    rcases (mem_over hl.sorted ht.sorted).1 hx with hx | hx
    · obtain ⟨z, hz, hkz, rfl⟩ := mem_ownL.1 hx
      have := sorted_inj hl.sorted hz hy he
      subst this
      exact hkz hk
    · exact (getL_none (mem_thruL.1 hx).2.1).2 y hy he.symm
  · rw [if_neg hk]
    exact getL_of (over_sorted hl.sorted ht.sorted) ((mem_over hl.sorted ht.sorted).2 (.inl (mem_ownL.2 ⟨y, hy, hk, rfl⟩))) hne
theorem get_over_thru {l t : List Ent} (hl : Right true l) (ht : Right false t) {q : List UInt8} (hq : q ≠ []) (hn : ∀ y ∈ l, y.p ≠ q) : getL (overL l t) q = if hidesL l q then none else getL t q := by
  have hgl : getL l q = none := getL_none_of hq hn
  cases hh : hidesL l q with
  | true =>
    rw [if_pos rfl]
    refine getL_none_of hq fun x hx he => ?_
    rcases (mem_over hl.sorted ht.sorted).1 hx with hx | hx
    · obtain ⟨z, hz, _, rfl⟩ := mem_ownL.1 hx
      exact hn z hz he
    · have := (mem_thruL.1 hx).2.2
      rw [he, hh] at this; cases this
  | false =>
    rw [if_neg (by decide)]
    cases hg : getL t q with
    | none =>
      refine getL_none_of hq fun x hx he => ?_
      rcases (mem_over hl.sorted ht.sorted).1 hx with hx | hx
      · obtain ⟨z, hz, _, rfl⟩ := mem_ownL.1 hx
        exact hn z hz he
      · exact (getL_none hg).2 x (mem_thruL.1 hx).1 he
    | some z =>
      obtain ⟨hz, hp⟩ := getL_some hq hg
      have := getL_of (over_sorted hl.sorted ht.sorted) ((mem_over hl.sorted ht.sorted).2 (.inr (mem_thruL.2 ⟨hz, by rw [hp]; exact hgl, by rw [hp]; exact hh⟩))) (by rw [hp]; exact hq)
      rwa [hp] at this

theorem right_nil (b : Bool) : Right b [] := ⟨by simp, by simp, List.Pairwise.nil, by simp⟩
theorem over_clear {t : List Ent} (h : Right false t) : overErr [] t = 0 ∧ overL [] t = t := by
  have h1 : thruL [] t = t := List.filter_eq_self.2 fun e he => by
    have : getL [] e.p = none := getL_none_of (h.ne he) (by simp)
    simp [seenThru, this, hidesL]
  refine ⟨overErr_zero.2 ⟨right_nil _, h, ?_⟩, ?_⟩
  · show (ownL [] ++ thruL [] t).length ≤ 80
    rw [h1]; exact h.len
  · show putsL (thruL [] t) [] = t
    rw [h1]; rfl
theorem over_bare {t : List Ent} (h : Right false t) : overErr t [] = 0 ∧ overL t [] = t := by
  refine ⟨overErr_zero.2 ⟨h.layer, right_nil _, ?_⟩, ?_⟩
  · show (ownL t ++ thruL t []).length ≤ 80
    rw [own_tree h]; simpa [thruL] using h.len
  · refine sorted_ext (over_sorted h.sorted List.Pairwise.nil) h.sorted fun x => ?_
    rw [mem_over h.sorted List.Pairwise.nil, own_tree h]
    simp [thruL]

/-! many layers -/
def mergeF : List (List Ent) → Int × List Ent
  | [] => (0, [])
  | x :: r => if (mergeF r).1 = 0 then (overErr x (mergeF r).2, if overErr x (mergeF r).2 = 0 then overL x (mergeF r).2 else []) else ((mergeF r).1, [])
def mergeL (ls : List (List Ent)) : Int × List Ent := if 5 < ls.length then (5, []) else mergeF ls
theorem mergeF_ok {x : List Ent} {r : List (List Ent)} (h : (mergeF r).1 = 0) : mergeF (x :: r) = (overErr x (mergeF r).2, if overErr x (mergeF r).2 = 0 then overL x (mergeF r).2 else []) := by rw [mergeF, if_pos h]
theorem mergeF_err {x : List Ent} {r : List (List Ent)} (h : ¬ (mergeF r).1 = 0) : mergeF (x :: r) = ((mergeF r).1, []) := by rw [mergeF, if_neg h]
theorem mergeF_zero {x : List Ent} {r : List (List Ent)} (h : (mergeF (x :: r)).1 = 0) : (mergeF r).1 = 0 ∧ overErr x (mergeF r).2 = 0 ∧ (mergeF (x :: r)).2 = overL x (mergeF r).2 := by
  by_cases h1 : (mergeF r).1 = 0
  · rw [mergeF_ok h1] at h
    refine ⟨h1, h, ?_⟩
    rw [mergeF_ok h1]
    show (if _ then _ else _) = _
    rw [if_pos h]
  · rw [mergeF_err h1] at h
    exact absurd h h1
theorem mergeF_none : ∀ {ls : List (List Ent)}, ¬ (mergeF ls).1 = 0 → (mergeF ls).2 = []
  | [], h => absurd rfl h
  | x :: r, h => by
    by_cases h1 : (mergeF r).1 = 0
    · rw [mergeF_ok h1] at h ⊢
      show (if _ then _ else _) = _
      rw [if_neg h]
    · rw [mergeF_err h1]
theorem mergeF_right : ∀ {ls : List (List Ent)}, (mergeF ls).1 = 0 → Right false (mergeF ls).2
  | [], _ => right_nil _
  | x :: r, h => by
    obtain ⟨h1, h2, h3⟩ := mergeF_zero h
    rw [h3]
    exact over_right h2
/-- A clear layer is none. -/
theorem mergeF_clear : ∀ {a b : List (List Ent)}, (mergeF (a ++ b)).1 = 0 → mergeF (a ++ [] :: b) = mergeF (a ++ b)
  | [], b, h => by
    have hr := mergeF_right h
    obtain ⟨e1, e2⟩ := over_clear hr
    show mergeF ([] :: b) = mergeF b
    have h : (mergeF b).1 = 0 := h
    rw [mergeF_ok h]
    have hr : Right false (mergeF b).2 := hr
    have e1 : overErr [] (mergeF b).2 = 0 := e1
    have e2 : overL [] (mergeF b).2 = (mergeF b).2 := e2
    rw [e1, e2, if_pos rfl]
    exact Prod.ext h.symm rfl
  | x :: a, b, h => by
    have h' : (mergeF (x :: (a ++ b))).1 = 0 := h
    obtain ⟨h1, h2, h3⟩ := mergeF_zero h'
    have ih := mergeF_clear h1
    show mergeF (x :: (a ++ [] :: b)) = mergeF (x :: (a ++ b))
    rw [mergeF, mergeF, ih]
/-- Two by two. -/
theorem mergeF_parts : ∀ {a b : List (List Ent)}, (mergeF (a ++ b)).1 = 0 → (mergeF b).1 = 0 ∧ mergeF (a ++ [(mergeF b).2]) = mergeF (a ++ b)
  | [], b, h => by
    have h : (mergeF b).1 = 0 := h
    refine ⟨h, ?_⟩
    obtain ⟨e1, e2⟩ := over_bare (mergeF_right h)
    show mergeF ((mergeF b).2 :: []) = mergeF b
    rw [mergeF_ok (show (mergeF []).1 = 0 from rfl)]
    have e3 : (mergeF []).2 = [] := rfl
    rw [e3, e1, e2, if_pos rfl]
    exact Prod.ext h.symm rfl
  | x :: a, b, h => by
    have h' : (mergeF (x :: (a ++ b))).1 = 0 := h
    obtain ⟨h1, h2, h3⟩ := mergeF_zero h'
    obtain ⟨i1, i2⟩ := mergeF_parts h1
    refine ⟨i1, ?_⟩
    show mergeF (x :: (a ++ [(mergeF b).2])) = mergeF (x :: (a ++ b))
    rw [mergeF, mergeF, i2]
end Go.Proofs.YtampldoimpfjgaaGreatDoor.PM
namespace Go.Proofs.YtampldoimpfjgaaGreatDoor
open Go.RowKit PM Go.Sort
set_option linter.unusedVariables false

def namesL (t : List Ent) (q : List UInt8) : List (List UInt8) := (t.filter fun e => decide (dirOf e.p = q)).map fun e => (cutL e.p).2
def listL (t : List Ent) (q : List UInt8) : List (List UInt8) × Int := if noDirL t q = 0 then (namesL t q, 0) else ([], noDirL t q)
theorem names_step {t : List Ent} {k : Nat} {y : Ent} {q : List UInt8} (hy : t[k]? = some y) : namesL (t.take (k + 1)) q = namesL (t.take k) q ++ (if dirOf y.p = q then [(cutL y.p).2] else []) := by
  rw [take_step hy]
  unfold namesL
  rw [List.filter_append, List.map_append]
  by_cases h : dirOf y.p = q <;> simp [h]
theorem cut_grown (s : ByteArray) (w : World) (hs : s.size < 4611686018427387904) : Calls Tryz.prog 69 #[.string s] w fun e w' => (∃ d n : ByteArray, e = .returned (.tuple #[.string d, .string n]) ∧ d.data.toList = (cutL s.data.toList).1 ∧ n.data.toList = (cutL s.data.toList).2) ∧ Grown w w' :=
  (cut_any s w hs).mono fun e w' ⟨h, n, hw⟩ => ⟨h, by rw [hw]; exact (Grown.refl w).drewN n⟩
theorem below_build {w wr w3 w1 : World} {o : Obj} {base : Nat} {r : Option Nat} (hB : Below base w wr) (hb : base ≤ wr.heap.size) (hG : Grown (wr.alloc o) w3) (o2 : Obj) (hg : (w3.alloc o2).grownBy w1 r) (hr : ∀ k, r = some k → base ≤ k) : Below base w w1 := by
  have h1 : Below base w w3 := (hB.alloc hb o).trans (hG.below.mono (by simp; omega))
  have h3 := hG.size
  simp at h3
  exact (h1.alloc (by omega) o2).grown hg (by simp; omega) hr

theorem eq_cases (d q : ByteArray) : ((d.toList == q.toList) = true ∧ Aside (d.data.toList = q.data.toList)) ∨ ((d.toList == q.toList) = false ∧ Aside (¬ d.data.toList = q.data.toList)) := by
  by_cases h : d.data.toList = q.data.toList
  · exact .inl ⟨(eq_parts h).1, h⟩
  · exact .inr ⟨(ne_parts h).1, h⟩
end Go.Proofs.YtampldoimpfjgaaGreatDoor
namespace Go.Proofs.YtampldoimpfjgaaGreatDoor
open Go.RowKit PM Go.Sort
set_option linter.unusedVariables false

theorem perm_strict {l m : List Ent} (hp : l.Perm m) (hd : m.Pairwise fun a b => a.p ≠ b.p) (hs : l.Pairwise fun a b => ¬ cmp b.p a.p < 0) : Sorted l := by
  have hd' : l.Pairwise fun a b => a.p ≠ b.p := (hp.pairwise_iff (fun h => h.symm)).2 hd
  refine (hd'.and hs).imp ?_
  rintro a b ⟨h1, h2⟩
  exact cmp_ge h2 (fun e => h1 e.symm)
def smallT : List Ent := [⟨⟨#[97]⟩, 2, ⟨#[]⟩, false⟩, ⟨⟨#[97, 47, 98]⟩, 1, ⟨#[120]⟩, false⟩, ⟨⟨#[99]⟩, 3, ⟨#[97]⟩, false⟩]
def smallM : List Ent := [⟨⟨#[99]⟩, 3, ⟨#[97]⟩, false⟩, ⟨⟨#[100]⟩, 2, ⟨#[]⟩, false⟩, ⟨⟨#[100, 47, 98]⟩, 1, ⟨#[120]⟩, false⟩]
theorem smallT_right : Right false smallT := faultL_zero.1 (by decide)
theorem smallM_right : Right false smallM := faultL_zero.1 (by decide)
theorem small_pre : movedPre smallT ⟨#[97]⟩ ⟨#[100]⟩ = [⟨⟨#[100]⟩, 2, ⟨#[]⟩, false⟩, ⟨⟨#[100, 47, 98]⟩, 1, ⟨#[120]⟩, false⟩, ⟨⟨#[99]⟩, 3, ⟨#[97]⟩, false⟩] := by decide
theorem small_err : moveErr smallT ⟨#[97]⟩ ⟨#[100]⟩ = 0 := by decide
theorem small_rem : remErr smallT [97] = 11 := by decide
theorem small_list : listL smallM [100] = ([[98]], 0) := by decide
theorem small_fits : Fits smallT := by unfold Fits smallT maxLen; decide
theorem smallM_fits : Fits smallM := by unfold Fits smallM maxLen; decide
theorem small_moved {l : List Ent} (hp : l.Perm (movedPre smallT ⟨#[97]⟩ ⟨#[100]⟩)) (hs : l.Pairwise fun a b => ¬ cmp b.p a.p < 0) : l = smallM := by
  rw [small_pre] at hp
  refine sorted_ext (perm_strict hp (by decide) hs) smallM_right.sorted fun x => ?_
  rw [hp.mem_iff]
  simp [smallM]
  constructor
  · rintro (h | h | h) <;> simp [h]
  · rintro (h | h | h) <;> simp [h]
end Go.Proofs.YtampldoimpfjgaaGreatDoor
namespace Go.Proofs.YtampldoimpfjgaaGreatDoor
open Go.RowKit PM Go.Sort
set_option linter.unusedVariables false

theorem mvE_p (frm to : ByteArray) (e : Ent) : (mvE frm to e).p = to.data.toList ++ e.p.drop frm.data.toList.length := by
  show (to ++ e.path.extract frm.size e.path.size).data.toList = _
  rw [data_append, Lib.extract_to_end, szl]; rfl
theorem inM_form {f : List UInt8} {e : Ent} (hf : f ≠ []) (h : inM f e = true) : ∃ r, e.p = f ++ r ∧ (r = [] ∨ ∃ s, r = 47 :: s) := by
  unfold inM at h
  rcases Bool.or_eq_true_iff.1 h with h | h
  · exact ⟨[], by simpa using of_decide_eq_true h, .inl rfl⟩
  · obtain ⟨r, hr⟩ := (under_iff _ _ hf).1 h
    exact ⟨47 :: r, hr, .inr ⟨r, rfl⟩⟩
theorem inM_of {f : List UInt8} {e : Ent} (hf : f ≠ []) {r : List UInt8} (h : e.p = f ++ r) (hr : r = [] ∨ ∃ s, r = 47 :: s) : inM f e = true := by
  unfold inM
  rcases hr with rfl | ⟨s, rfl⟩
  · simp [h]
  · rw [(under_iff _ _ hf).2 ⟨s, h⟩]; simp
theorem inM_false {f : List UInt8} {e : Ent} (h : inM f e = false) : e.p ≠ f ∧ under e.p f = false := by
  unfold inM at h
  have := Bool.or_eq_false_iff.1 h
  exact ⟨of_decide_eq_false this.1, this.2⟩
theorem mvE_form {frm to : ByteArray} {e : Ent} {r : List UInt8} (h : e.p = frm.data.toList ++ r) : (mvE frm to e).p = to.data.toList ++ r := by
  rw [mvE_p, h, List.drop_left']; rfl
theorem mv_back {frm to : ByteArray} {e : Ent} {r : List UInt8} (h : e.p = frm.data.toList ++ r) : mvE to frm (mvE frm to e) = e := by
  have hp : (mvE to frm (mvE frm to e)).p = e.p := by rw [mvE_form (r := r) (mvE_form h), h]
  have := Ent.path_eq hp
  obtain ⟨a, b, c, d⟩ := e
  show Ent.mk _ b c d = Ent.mk a b c d
  congr 1
theorem under_of {a b c : List UInt8} (hb : b ≠ []) (hc : c ≠ []) (h1 : under a b = true) (h2 : under b c = true) : under a c = true := by
  obtain ⟨r, rfl⟩ := (under_iff _ _ hb).1 h1
  obtain ⟨s, rfl⟩ := (under_iff _ _ hc).1 h2
  exact (under_iff _ _ hc).2 ⟨s ++ 47 :: r, by simp⟩

/-- What holds where a move is let by. -/
structure MvOK (t : List Ent) (frm to : ByteArray) : Prop where
  right : Right false t
  src : ∃ a ∈ t, a.p = frm.data.toList
  tocl : clean to.data.toList = true
  ne : frm.data.toList ≠ to.data.toList
  nund : under to.data.toList frm.data.toList = false
  dir : dirOf to.data.toList = [] ∨ ∃ d ∈ t, d.p = dirOf to.data.toList ∧ d.kind = 2
  free : ∀ x ∈ t, under x.p to.data.toList = false
  cl : ∀ x ∈ t, x.p ≠ to.data.toList → inM frm.data.toList x = true → clean (mvE frm to x).p = true
section
variable {t : List Ent} {frm to : ByteArray} (h : MvOK t frm to)
include h
theorem MvOK.fne : frm.data.toList ≠ [] := by obtain ⟨a, ha, hp⟩ := h.src; rw [← hp]; exact h.right.ne ha
theorem MvOK.tne : to.data.toList ≠ [] := clean_ne h.tocl
theorem MvOK.inj {x y : Ent} (hx : x ∈ t) (hy : y ∈ t) (hxT : x.p ≠ to.data.toList) (hyT : y.p ≠ to.data.toList) (hne : x.p ≠ y.p) : (mvF frm to x).p ≠ (mvF frm to y).p := by
  have key : ∀ {x y : Ent}, inM frm.data.toList x = true → y ∈ t → y.p ≠ to.data.toList → (mvE frm to x).p ≠ y.p := by
    intro x y hx hy hyT e
    obtain ⟨r, hr, hr'⟩ := inM_form h.fne hx
    rw [mvE_form hr] at e
    rcases hr' with rfl | ⟨s, rfl⟩
    · exact hyT (by rw [← e]; simp)
    · have := h.free y hy
      rw [(under_iff _ _ h.tne).2 ⟨s, e.symm⟩] at this
      cases this
  unfold mvF
  cases h1 : inM frm.data.toList x <;> cases h2 : inM frm.data.toList y <;> simp only [if_true, if_false, Bool.false_eq_true]
  · exact hne
  · exact fun e => key h2 hx hxT e.symm
  · exact key h1 hy hyT
  · obtain ⟨r, hr, _⟩ := inM_form h.fne h1
    obtain ⟨s, hs, _⟩ := inM_form h.fne h2
    rw [mvE_form hr, mvE_form hs]
    intro e
    rw [List.append_cancel_left e] at hr
    exact hne (hr.trans hs.symm)
theorem MvOK.distinct : (movedPre t frm to).Pairwise fun a b => a.p ≠ b.p := by
  unfold movedPre
  rw [List.pairwise_map]
  have h1 : (remL t to.data.toList).Pairwise fun a b => a.p ≠ b.p := (sorted_remL h.right.sorted _).imp fun hh => ltE_ne hh
  refine h1.imp_of_mem fun {a b} ha hb hab => ?_
  exact h.inj (mem_remL.1 ha).1 (mem_remL.1 hb).1 (mem_remL.1 ha).2 (mem_remL.1 hb).2 hab
theorem MvOK.mem {l : List Ent} (hp : l.Perm (movedPre t frm to)) {x : Ent} : x ∈ l ↔ ∃ y ∈ t, y.p ≠ to.data.toList ∧ mvF frm to y = x := by
  have _ := h.fne
  rw [hp.mem_iff]
  unfold movedPre
  simp only [List.mem_map, mem_remL]
  constructor
  · rintro ⟨y, ⟨h1, h2⟩, h3⟩; exact ⟨y, h1, h2, h3⟩
  · rintro ⟨y, h1, h2, h3⟩; exact ⟨y, ⟨h1, h2⟩, h3⟩
/-- What stays where it is. -/
theorem MvOK.stays {l : List Ent} (hp : l.Perm (movedPre t frm to)) {y : Ent} (hy : y ∈ t) (hT : y.p ≠ to.data.toList) (hi : inM frm.data.toList y = false) : y ∈ l := (h.mem hp).2 ⟨y, hy, hT, by rw [mvF, hi]; rfl⟩
theorem MvOK.goes {l : List Ent} (hp : l.Perm (movedPre t frm to)) {y : Ent} (hy : y ∈ t) (hi : inM frm.data.toList y = true) : mvE frm to y ∈ l := by
  refine (h.mem hp).2 ⟨y, hy, fun e => ?_, by rw [mvF, hi]; rfl⟩
  obtain ⟨r, hr, hr'⟩ := inM_form h.fne hi
  rcases hr' with rfl | ⟨s, rfl⟩
  · exact h.ne (by rw [← e, hr]; simp)
  · have := h.nund
    rw [(under_iff _ _ h.fne).2 ⟨s, by rw [← e, hr]⟩] at this
    cases this
theorem MvOK.rightL {l : List Ent} (hp : l.Perm (movedPre t frm to)) (hs : l.Pairwise fun a b => ¬ cmp b.p a.p < 0) : Right false l := by
  refine ⟨?_, fun x hx => ?_, perm_strict hp h.distinct hs, fun x hx => ?_⟩
  · rw [hp.length_eq, movedPre, List.length_map]
    exact Nat.le_trans (List.length_filter_le _ _) h.right.len
  · obtain ⟨y, hy, hT, rfl⟩ := (h.mem hp).1 hx
    unfold mvF
    split
    · rename_i hi; exact wrongE_path (h.right.each y hy) rfl rfl rfl (h.cl y hy hT hi)
    · exact h.right.each y hy
  · obtain ⟨y, hy, hT, rfl⟩ := (h.mem hp).1 hx
    cases hi : inM frm.data.toList y with
    | false =>
      have e1 : mvF frm to y = y := by rw [mvF, hi]; rfl
      rw [e1]
      rcases h.right.dir y hy with hd | ⟨d, hd, hdp, hdk⟩
      · exact .inl hd
      · by_cases hd0 : dirOf y.p = []
        · exact .inl hd0
        have hu := dir_under (h.right.ne hy) hd0
        refine .inr ⟨d, h.stays hp hd (fun e => ?_) ?_, hdp, hdk⟩
        · have := h.free y hy
          rw [← e, hdp, hu] at this; cases this
        · cases hdi : inM frm.data.toList d with
          | false => rfl
          | true =>
            have hyu : under y.p frm.data.toList = true := by
              unfold inM at hdi
              rcases Bool.or_eq_true_iff.1 hdi with g | g
              · rw [← of_decide_eq_true g, hdp]; exact hu
              · rw [hdp] at g; exact under_of hd0 h.fne hu g
            rw [(inM_false hi).2] at hyu; cases hyu
    | true =>
      have e1 : mvF frm to y = mvE frm to y := by rw [mvF, hi]; rfl
      rw [e1]
      obtain ⟨r, hr, hr'⟩ := inM_form h.fne hi
      rw [mvE_form hr]
      rcases hr' with rfl | ⟨s, rfl⟩
      · rw [List.append_nil]
        rcases h.dir with hd | ⟨d, hd, hdp, hdk⟩
        · exact .inl hd
        · by_cases hd0 : dirOf to.data.toList = []
          · exact .inl hd0
          have hu := dir_under h.tne hd0
          refine .inr ⟨d, h.stays hp hd (fun e => ?_) ?_, hdp, hdk⟩
          · have := dirOf_short h.tne; rw [← hdp, e] at this; omega
          · cases hdi : inM frm.data.toList d with
            | false => rfl
            | true =>
              have : under to.data.toList frm.data.toList = true := by
                unfold inM at hdi
                rcases Bool.or_eq_true_iff.1 hdi with g | g
                · rw [← of_decide_eq_true g, hdp]; exact hu
                · rw [hdp] at g; exact under_of hd0 h.fne hu g
              rw [h.nund] at this; cases this
      · have hdy : ∃ a, dirOf y.p = frm.data.toList ++ a ∧ dirOf (to.data.toList ++ 47 :: s) = to.data.toList ++ a ∧ (a = [] ∨ ∃ b, a = 47 :: b) := by
          rw [hr]
          rcases cases_last s with hf | ⟨a, b, rfl, hb⟩
          · exact ⟨[], by rw [dirOf, cutL_slash _ s hf]; simp, by rw [dirOf, cutL_slash _ s hf]; simp, .inl rfl⟩
          · refine ⟨47 :: a, ?_, ?_, .inr ⟨a, rfl⟩⟩
            · rw [dirOf, show frm.data.toList ++ 47 :: (a ++ 47 :: b) = (frm.data.toList ++ 47 :: a) ++ 47 :: b by simp, cutL_slash _ b hb]
            · rw [dirOf, show to.data.toList ++ 47 :: (a ++ 47 :: b) = (to.data.toList ++ 47 :: a) ++ 47 :: b by simp, cutL_slash _ b hb]
        obtain ⟨a, ha1, ha2, ha3⟩ := hdy
        rcases h.right.dir y hy with hd | ⟨d, hd, hdp, hdk⟩
        · rw [hd] at ha1
          have := congrArg List.length ha1
          have h0 := h.fne
          cases hff : frm.data.toList with
          | nil => exact absurd hff h0
          | cons => rw [hff] at this; simp at this
        · have hdi : inM frm.data.toList d = true := inM_of h.fne (hdp.trans ha1) ha3
          exact .inr ⟨mvE frm to d, h.goes hp hd hdi, by rw [mvE_form (hdp.trans ha1), ha2], hdk⟩
/-- Nothing is left at the old place. -/
theorem MvOK.gone {l : List Ent} (hp : l.Perm (movedPre t frm to)) (hnf : under frm.data.toList to.data.toList = false) {x : Ent} (hx : x ∈ l) : x.p ≠ frm.data.toList := by
  obtain ⟨y, hy, hT, rfl⟩ := (h.mem hp).1 hx
  cases hi : inM frm.data.toList y with
  | false => rw [mvF, hi]; exact (inM_false hi).1
  | true =>
    rw [mvF, hi]
    obtain ⟨r, hr, hr'⟩ := inM_form h.fne hi
    intro e
    rw [if_pos rfl, mvE_form hr] at e
    rcases hr' with rfl | ⟨s, rfl⟩
    · exact h.ne (by rw [← e]; simp)
    · rw [(under_iff _ _ h.tne).2 ⟨s, e.symm⟩] at hnf; cases hnf
theorem MvOK.notUnder : under frm.data.toList to.data.toList = false := by
  obtain ⟨a, ha, hp⟩ := h.src
  rw [← hp]; exact h.free a ha
end
end Go.Proofs.YtampldoimpfjgaaGreatDoor
namespace Go.Proofs.YtampldoimpfjgaaGreatDoor
open Go.RowKit PM Go.Sort
set_option linter.unusedVariables false

theorem mvOK_of {t : List Ent} {frm to : ByteArray} (h0 : moveErr t frm to = 0) (hne : frm.data.toList ≠ to.data.toList) : MvOK t frm to := by
  unfold moveErr at h0
  split at h0
  · rename_i ha
    obtain ⟨hr, hsrc⟩ := moveAsk_zero ha
    split at h0
    · rename_i hc
      split at h0
      · cases h0
      · rename_i hu
        have hu' : under to.data.toList frm.data.toList = false := by simpa using hu
        split at h0
        · rename_i ha2
          split at h0
          · cases h0
          · rename_i hb
            unfold moveAsk2 at ha2
            obtain ⟨hnd, hx⟩ := orL_zero.1 ha2
            obtain ⟨hrm, _⟩ := orL_zero.1 hx
            refine ⟨hr, hsrc, hc, hne, hu', ?_, ?_, ?_⟩
            · rcases noDirL_zero.1 hnd with g | ⟨d, h1, h2, h3, _⟩
              · exact .inl g
              · exact .inr ⟨d, h1, h2, h3⟩
            · intro x hx
              cases hux : under x.p to.data.toList with
              | false => rfl
              | true =>
                obtain ⟨d, hd, hdp, _⟩ := hr.below (clean_ne hc) x.p.length (Nat.le_refl _) hx hux
                have hg := getL_of hr.sorted hd (hr.ne hd)
                rw [hdp] at hg
                unfold roomL at hrm
                rw [hg] at hrm
                simp only at hrm
                split at hrm
                · cases hrm
                · split at hrm
                  · cases hrm
                  · unfold fullL at hrm
                    rw [if_pos (List.any_eq_true.2 ⟨x, hx, hux⟩)] at hrm
                    cases hrm
            · intro x hx hT hi
              cases hcl : clean (mvE frm to x).p with
              | true => rfl
              | false => exact absurd (bad_at (mem_remL.2 ⟨hx, hT⟩) hi hcl) (by unfold badMove at hb; exact hb)
        · rename_i ha2; exact absurd h0 ha2
    · cases h0
  · rename_i ha; exact absurd h0 ha
/-- All that a move leaves. -/
structure MvRes (t : List Ent) (frm to : ByteArray) (l : List Ent) : Prop where
  right : Right false l
  a1 : ∀ (q : ByteArray) (a : Ent), (q.data.toList = frm.data.toList ∨ under q.data.toList frm.data.toList = true) → getL t q.data.toList = some a → getL l (to ++ q.extract frm.size q.size).data.toList = some { a with path := to ++ q.extract frm.size q.size }
  a2 : ∀ (q : List UInt8) (a : Ent), q ≠ frm.data.toList → under q frm.data.toList = false → q ≠ to.data.toList → getL t q = some a → getL l q = some a
  a3 : getL t to.data.toList = none → moveErr l to frm = 0 ∧ ∀ l2 : List Ent, l2.Perm (movedPre l to frm) → l2.Pairwise (fun a b => ¬ cmp b.p a.p < 0) → l2 = t
theorem src_ne {t : List Ent} {frm to : ByteArray} (h0 : moveErr t frm to = 0) : Right false t ∧ ∃ a ∈ t, a.p = frm.data.toList := by
  unfold moveErr at h0
  split at h0
  · rename_i ha; exact moveAsk_zero ha
  · rename_i ha; exact absurd h0 ha
theorem same_path {frm to q : ByteArray} (h : frm.data.toList = to.data.toList) (hi : q.data.toList = frm.data.toList ∨ under q.data.toList frm.data.toList = true) (hf : frm.data.toList ≠ []) : to ++ q.extract frm.size q.size = q := by
  apply ba_ext
  rw [data_append, Lib.extract_to_end, ← szl, ← h]
  rcases hi with hi | hi
  · rw [hi]; simp
  · obtain ⟨r, hr⟩ := (under_iff _ _ hf).1 hi
    rw [hr]; simp
theorem res_same {t : List Ent} {frm to : ByteArray} (h0 : moveErr t frm to = 0) (he : frm.data.toList = to.data.toList) : MvRes t frm to t := by
  obtain ⟨hr, a0, ha0, hp0⟩ := src_ne h0
  have hf : frm.data.toList ≠ [] := by rw [← hp0]; exact hr.ne ha0
  refine ⟨hr, fun q a hi hg => ?_, fun q a _ _ _ hg => hg, fun hg => ?_⟩
  · rw [same_path he hi hf, hg]
    have hq : q.data.toList ≠ [] := by
      rcases hi with hi | hi
      · rw [hi]; exact hf
      · obtain ⟨r, hr⟩ := (under_iff _ _ hf).1 hi; rw [hr]; simp
    have := (getL_some hq hg).2
    have hpa : a.path = q := ba_ext this
    obtain ⟨x, y, z, w⟩ := a
    subst hpa; rfl
  · have := (getL_none hg).2 a0 ha0
    exact absurd (hp0.trans he) this
theorem res_moved {t : List Ent} {frm to : ByteArray} (h : MvOK t frm to) {l : List Ent} (hp : l.Perm (movedPre t frm to)) (hs : l.Pairwise fun a b => ¬ cmp b.p a.p < 0) : MvRes t frm to l := by
  have hR := h.rightL hp hs
  refine ⟨hR, fun q a hi hg => ?_, fun q a h1 h2 h3 hg => ?_, fun hg => ?_⟩
  · have hq : q.data.toList ≠ [] := by
      rcases hi with hi | hi
      · rw [hi]; exact h.fne
      · obtain ⟨r, hr⟩ := (under_iff _ _ h.fne).1 hi; rw [hr]; simp
    obtain ⟨ha, hap⟩ := getL_some hq hg
    have hpa : a.path = q := ba_ext hap
    have hia : inM frm.data.toList a = true := by
      unfold inM
      rw [show a.p = q.data.toList from hap]
      rcases hi with hi | hi <;> simp [hi]
    have hm := h.goes hp ha hia
    have := getL_of hR.sorted hm (hR.ne hm)
    have e1 : mvE frm to a = { a with path := to ++ q.extract frm.size q.size } := by unfold mvE; rw [hpa]
    rw [e1] at this
    exact this
  · by_cases hq : q = []
    · rw [hq, getL_nil] at hg ⊢; exact hg
    obtain ⟨ha, hap⟩ := getL_some hq hg
    have hm := h.stays hp ha (by rw [hap]; exact h3) (by unfold inM; rw [hap, h2]; simp [h1])
    have := getL_of hR.sorted hm (hR.ne hm)
    rw [hap] at this; exact this
  · have hno := (getL_none hg).2
    obtain ⟨a0, ha0, hp0⟩ := h.src
    have hnf := h.notUnder
    have hia0 : inM frm.data.toList a0 = true := by unfold inM; simp [hp0]
    have hT : ∃ x ∈ l, x.p = to.data.toList := ⟨mvE frm to a0, h.goes hp ha0 hia0, by rw [mvE_form (r := []) (by rw [hp0]; simp)]; simp⟩
    have hfc : clean frm.data.toList = true := by rw [← hp0]; exact h.right.clean ha0
    have hgone : ∀ x ∈ l, x.p ≠ frm.data.toList := fun x hx => h.gone hp hnf hx
    have hinv : ∀ y ∈ t, mvF to frm (mvF frm to y) = y := fun y hy => by
      cases hi : inM frm.data.toList y with
      | false =>
        have e1 : mvF frm to y = y := by rw [mvF, hi]; rfl
        rw [e1, mvF]
        have : inM to.data.toList y = false := by unfold inM; rw [h.free y hy]; simp [hno y hy]
        rw [this]; rfl
      | true =>
        have e1 : mvF frm to y = mvE frm to y := by rw [mvF, hi]; rfl
        obtain ⟨r, hr, hr'⟩ := inM_form h.fne hi
        rw [e1, mvF, inM_of h.tne (mvE_form hr) hr']
        exact mv_back hr
    have hdir : dirOf frm.data.toList = [] ∨ ∃ d ∈ l, d.p = dirOf frm.data.toList ∧ d.kind = 2 := by
      rcases h.right.dir a0 ha0 with hd | ⟨d, hd, hdp, hdk⟩
      · rw [hp0] at hd; exact .inl hd
      · rw [hp0] at hdp
        refine .inr ⟨d, h.stays hp hd (hno d hd) ?_, hdp, hdk⟩
        have hsh := dirOf_short h.fne
        unfold inM
        rw [hdp]
        have n1 : dirOf frm.data.toList ≠ frm.data.toList := fun e => by rw [e] at hsh; omega
        have n2 : under (dirOf frm.data.toList) frm.data.toList = false := by
          cases hu : under (dirOf frm.data.toList) frm.data.toList with
          | false => rfl
          | true =>
            obtain ⟨r, hr⟩ := (under_iff _ _ h.fne).1 hu
            rw [hr] at hsh; simp at hsh; omega
        rw [n2]; simp [n1]
    have hback : MvOK l to frm := by
      refine ⟨hR, hT, hfc, fun e => h.ne e.symm, hnf, hdir, fun x hx => ?_, fun x hx hxf hi => ?_⟩
      · cases hu : under x.p frm.data.toList with
        | false => rfl
        | true =>
          obtain ⟨d, hd, hdp, _⟩ := hR.below h.fne x.p.length (Nat.le_refl _) hx hu
          exact absurd hdp (hgone d hd)
      · obtain ⟨y, hy, hyT, rfl⟩ := (h.mem hp).1 hx
        have := hinv y hy
        rw [mvF, if_pos hi] at this
        rw [this]; exact h.right.clean hy
    refine ⟨?_, fun l2 hp2 hs2 => ?_⟩
    · have e1 : moveAsk l to.data.toList = 0 := by unfold moveAsk; rw [faultL_right hR, missL, if_pos hT]; rfl
      have hgf : getL l frm.data.toList = none := getL_none_of h.fne hgone
      have e2 : moveAsk2 l to.data.toList frm.data.toList = 0 := by
        unfold moveAsk2 roomL
        rw [hgf]
        have : noDirL l (dirOf frm.data.toList) = 0 := by
          refine noDirL_zero.2 ?_
          rcases hdir with g | ⟨d, h1, h2, h3⟩
          · exact .inl g
          · exact .inr ⟨d, h1, h2, h3, by rw [← h2]; exact getL_of hR.sorted h1 (hR.ne h1)⟩
        rw [this]; rfl
      have e3 : badMove l to frm = false := by
        unfold badMove
        rw [List.any_eq_false]
        intro x hx
        obtain ⟨hx1, hx2⟩ := mem_remL.1 hx
        cases hi : inM to.data.toList x with
        | false => simp
        | true => rw [hback.cl x hx1 hx2 hi]; simp
      unfold moveErr
      rw [if_pos e1, if_pos hfc, if_neg (fun e => h.ne e.symm), hnf, if_neg (by decide), if_pos e2, e3]; rfl
    · refine sorted_ext (hback.rightL hp2 hs2).sorted h.right.sorted fun x => ?_
      rw [hback.mem hp2]
      constructor
      · rintro ⟨z, hz, hzf, rfl⟩
        obtain ⟨y, hy, _, rfl⟩ := (h.mem hp).1 hz
        rw [hinv y hy]; exact hy
      · intro hx
        have hm : mvF frm to x ∈ l := (h.mem hp).2 ⟨x, hx, hno x hx, rfl⟩
        exact ⟨mvF frm to x, hm, hgone _ hm, hinv x hx⟩
theorem right_fits {t : List Ent} (h : Right false t) : Fits t := fun e he => by
  have hw := h.each e he
  have h1 := clean_size (wrongE_clean hw)
  have h2 : e.text.size ≤ 100 := by
    unfold wrongE at hw
    split at hw
    · cases hw
    · split at hw
      · cases hw
      · split at hw
        · cases hw
        · omega
  unfold maxLen
  omega
end Go.Proofs.YtampldoimpfjgaaGreatDoor
