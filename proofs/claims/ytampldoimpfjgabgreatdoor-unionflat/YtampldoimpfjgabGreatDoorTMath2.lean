/-
  Plain mathematics of trees, on: what is put, removed, moved, and moved back.
-/
import Derived.Test.YtampldoimpfjgabGreatDoorTMath
namespace Go.Proofs.YtampldoimpfjgabGreatDoor.PM
set_option linter.unusedVariables false

theorem cmp_flip {a b : List UInt8} : 0 < cmp a b ↔ cmp b a < 0 := by rw [cmp_anti a b]; omega
theorem cmp_ge {a b : List UInt8} (h : ¬ cmp a b < 0) (hn : a ≠ b) : cmp b a < 0 := by
  have h0 : cmp a b ≠ 0 := fun e => hn ((cmp_zero a b).1 e)
  rw [cmp_anti b a]; omega

/-! put -/
def putL (t : List Ent) (e : Ent) : List Ent := t.filter (fun x => decide (cmp x.p e.p < 0)) ++ e :: t.filter (fun x => decide (0 < cmp x.p e.p))
theorem mem_putL {t : List Ent} {e x : Ent} : x ∈ putL t e ↔ x = e ∨ x ∈ t ∧ x.p ≠ e.p := by
  unfold putL
  simp only [List.mem_append, List.mem_cons, List.mem_filter, decide_eq_true_eq]
  constructor
  · rintro (⟨h, g⟩ | rfl | ⟨h, g⟩)
    · exact .inr ⟨h, fun e' => by rw [e', cmp_self] at g; omega⟩
    · exact .inl rfl
    · exact .inr ⟨h, fun e' => by rw [e', cmp_self] at g; omega⟩
  · rintro (rfl | ⟨h, g⟩)
    · exact .inr (.inl rfl)
    · by_cases hl : cmp x.p e.p < 0
      · exact .inl ⟨h, hl⟩
      · exact .inr (.inr ⟨h, cmp_flip.2 (cmp_ge hl g)⟩)
theorem sorted_putL {t : List Ent} (h : Sorted t) (e : Ent) : Sorted (putL t e) := by
  unfold putL Sorted
  rw [List.pairwise_append]
  refine ⟨List.Pairwise.filter _ h, List.pairwise_cons.2 ⟨fun x hx => ?_, List.Pairwise.filter _ h⟩, fun x hx y hy => ?_⟩
  · have := (List.mem_filter.1 hx).2; simp at this; exact cmp_flip.1 this
  · have g1 := (List.mem_filter.1 hx).2; simp at g1
    rcases List.mem_cons.1 hy with rfl | hy
    · exact g1
    · have g2 := (List.mem_filter.1 hy).2; simp at g2
      exact cmp_trans _ _ _ g1 (cmp_flip.1 g2)
/-- A place at which what comes ahead of p ends, as a search finds it. -/
structure PlaceAt (t : List Ent) (p : List UInt8) (i : Nat) : Prop where
  le : i ≤ t.length
  lo : ∀ (h : 0 < i) (h' : i - 1 < t.length), cmp (t[i - 1]'h').p p < 0
  hi : ∀ (h : i < t.length), 0 ≤ cmp (t[i]'h).p p
theorem PlaceAt.below {t : List Ent} {p : List UInt8} {i : Nat} (h : PlaceAt t p i) (hs : Sorted t) {j : Nat} (hj : j < t.length) (hji : j < i) : cmp (t[j]'hj).p p < 0 := by
  have hi1 : i - 1 < t.length := by have := h.le; omega
  have h1 := h.lo (by omega) hi1
  by_cases e : j = i - 1
  · subst e; exact h1
  · have := List.pairwise_iff_getElem.1 hs j (i - 1) hj hi1 (by omega)
    exact cmp_trans _ _ _ this h1
theorem PlaceAt.above {t : List Ent} {p : List UInt8} {i : Nat} (h : PlaceAt t p i) (hs : Sorted t) {j : Nat} (hj : j < t.length) (hji : i < j) : 0 < cmp (t[j]'hj).p p := by
  have hi1 : i < t.length := by omega
  have h1 := h.hi hi1
  have h2 : ltE t[i] t[j] := List.pairwise_iff_getElem.1 hs i j hi1 hj hji
  apply cmp_flip.2
  by_cases e : cmp (t[i]'hi1).p p = 0
  · rw [← (cmp_zero _ _).1 e]; exact h2
  · exact cmp_trans _ _ _ (cmp_flip.1 (by omega)) h2
/-- Whether it is there. -/
def isAt (t : List Ent) (p : List UInt8) (i : Nat) : Bool := if h : i < t.length then decide ((t[i]'h).p = p) else false
theorem isAt_iff {t : List Ent} {p : List UInt8} {i : Nat} : isAt t p i = true ↔ ∃ h : i < t.length, (t[i]'h).p = p := by
  unfold isAt; split
  · rename_i h; simp [h]
  · rename_i h; simp; intro g; exact absurd g h
theorem PlaceAt.there {t : List Ent} {p : List UInt8} {i : Nat} (h : PlaceAt t p i) (hs : Sorted t) : isAt t p i = true ↔ ∃ e ∈ t, e.p = p := by
  rw [isAt_iff]
  constructor
  · rintro ⟨g, e⟩; exact ⟨t[i], List.getElem_mem g, e⟩
  · rintro ⟨e, he, hp⟩
    obtain ⟨j, hj, rfl⟩ := List.getElem_of_mem he
    by_cases e1 : j = i
    · subst e1; exact ⟨hj, hp⟩
    · exfalso
      by_cases e2 : j < i
      · have := h.below hs hj e2; rw [hp, cmp_self] at this; omega
      · have := h.above hs hj (by omega); rw [hp, cmp_self] at this; omega
theorem PlaceAt.take {t : List Ent} {p : List UInt8} {i : Nat} (h : PlaceAt t p i) (hs : Sorted t) {x : Ent} : x ∈ t.take i ↔ x ∈ t ∧ cmp x.p p < 0 := by
  constructor
  · intro hx
    obtain ⟨j, hj, rfl⟩ := List.getElem_of_mem hx
    rw [List.length_take] at hj
    rw [List.getElem_take]
    exact ⟨List.getElem_mem _, h.below hs _ (by omega)⟩
  · rintro ⟨hx, hl⟩
    obtain ⟨j, hj, rfl⟩ := List.getElem_of_mem hx
    have hji : j < i := by
      by_cases e : j < i
      · exact e
      · exfalso
        by_cases e1 : j = i
        · subst e1; have := h.hi hj; omega
        · have := h.above hs hj (by omega); omega
    exact List.mem_take_iff_getElem.2 ⟨j, by omega, rfl⟩
theorem PlaceAt.insert {t : List Ent} {e : Ent} {i : Nat} (h : PlaceAt t e.p i) (hs : Sorted t) (hn : isAt t e.p i = false) : t.take i ++ e :: t.drop i = putL t e := by
  have hno : ∀ x ∈ t, x.p ≠ e.p := fun x hx hp => by have := (h.there hs).2 ⟨x, hx, hp⟩; rw [hn] at this; cases this
  have hd : ∀ x ∈ t.drop i, 0 < cmp x.p e.p := by
    intro x hx
    have hxt := List.mem_of_mem_drop hx
    obtain ⟨j, hj, rfl⟩ := List.getElem_of_mem hx
    rw [List.length_drop] at hj
    rw [List.getElem_drop] at hxt ⊢
    by_cases e0 : j = 0
    · subst e0
      have h1 := h.hi (by omega)
      have h2 := hno _ hxt
      simp only [Nat.add_zero] at h1 h2 ⊢
      have : cmp (t[i]'(by omega)).p e.p ≠ 0 := fun g => h2 ((cmp_zero _ _).1 g)
      omega
    · exact h.above hs _ (by omega)
  refine sorted_ext ?_ (sorted_putL hs e) fun x => ?_
  · have hs' : Sorted (t.take i ++ t.drop i) := by rw [List.take_append_drop]; exact hs
    have hs'' := List.pairwise_append.1 hs'
    unfold Sorted
    rw [List.pairwise_append]
    refine ⟨hs''.1, List.pairwise_cons.2 ⟨fun x hx => cmp_flip.1 (hd x hx), hs''.2.1⟩, fun x hx y hy => ?_⟩
    have g := ((h.take hs).1 hx).2
    rcases List.mem_cons.1 hy with rfl | hy
    · exact g
    · exact cmp_trans _ _ _ g (cmp_flip.1 (hd y hy))
  · rw [mem_putL]
    constructor
    · intro hx
      rcases List.mem_append.1 hx with g | g
      · have := List.mem_of_mem_take g; exact .inr ⟨this, hno x this⟩
      · rcases List.mem_cons.1 g with rfl | g
        · exact .inl rfl
        · have := List.mem_of_mem_drop g; exact .inr ⟨this, hno x this⟩
    · rintro (rfl | ⟨hx, _⟩)
      · simp
      · rw [← List.take_append_drop i t] at hx
        rcases List.mem_append.1 hx with g | g
        · simp [g]
        · simp [g]
theorem PlaceAt.set {t : List Ent} {e : Ent} {i : Nat} (h : PlaceAt t e.p i) (hs : Sorted t) (hn : isAt t e.p i = true) : t.set i e = putL t e := by
  obtain ⟨hi, hp⟩ := isAt_iff.1 hn
  refine sorted_ext ?_ (sorted_putL hs e) fun x => ?_
  · unfold Sorted
    rw [List.pairwise_iff_getElem]
    intro a b ha hb hab
    rw [List.length_set] at ha hb
    have h0 := List.pairwise_iff_getElem.1 hs a b ha hb hab
    unfold ltE at h0 ⊢
    rw [List.getElem_set, List.getElem_set]
    split <;> split
    · omega
    · rename_i g _; subst g; rw [← hp]; exact h0
    · rename_i _ g; subst g; rw [← hp]; exact h0
    · exact h0
  · rw [mem_putL]
    constructor
    · intro hx
      obtain ⟨j, hj, rfl⟩ := List.getElem_of_mem hx
      rw [List.length_set] at hj
      rw [List.getElem_set]
      split
      · exact .inl rfl
      · rename_i g
        refine .inr ⟨List.getElem_mem _, fun e' => g ?_⟩
        have hh : t[j] = t[i] := sorted_inj hs (List.getElem_mem _) (List.getElem_mem _) (e'.trans hp.symm)
        by_cases c1 : i < j
        · have := List.pairwise_iff_getElem.1 hs i j hi hj c1; rw [hh] at this; exact absurd rfl (ltE_ne this)
        · by_cases c2 : j < i
          · have := List.pairwise_iff_getElem.1 hs j i hj hi c2; rw [hh] at this; exact absurd rfl (ltE_ne this)
          · omega
    · rintro (rfl | ⟨hx, hne⟩)
      · exact List.mem_iff_getElem.2 ⟨i, by rw [List.length_set]; exact hi, by simp⟩
      · obtain ⟨j, hj, rfl⟩ := List.getElem_of_mem hx
        refine List.mem_iff_getElem.2 ⟨j, by rw [List.length_set]; exact hj, ?_⟩
        rw [List.getElem_set_ne]
        rintro rfl
        exact hne hp
theorem putL_length {t : List Ent} {e : Ent} (hs : Sorted t) : (putL t e).length = if ∃ x ∈ t, x.p = e.p then t.length else t.length + 1 := by
  have hl : (t.filter fun x => decide (cmp x.p e.p < 0)).length + (t.filter fun x => decide (0 < cmp x.p e.p)).length + (t.filter fun x => decide (x.p = e.p)).length = t.length := by
    clear hs
    induction t with
    | nil => rfl
    | cons x t ih =>
      by_cases h0 : x.p = e.p
      · have h1 : ¬ cmp x.p e.p < 0 := by rw [h0, cmp_self]; omega
        have h2 : ¬ 0 < cmp x.p e.p := by rw [h0, cmp_self]; omega
        simp [h0, cmp_self] at ih ⊢; omega
      · have h3 : cmp x.p e.p ≠ 0 := fun g => h0 ((cmp_zero _ _).1 g)
        by_cases h1 : cmp x.p e.p < 0
        · have h2 : ¬ 0 < cmp x.p e.p := by omega
          simp [h0, h1, h2] at ih ⊢; omega
        · have h2 : 0 < cmp x.p e.p := by omega
          simp [h0, h1, h2] at ih ⊢; omega
  have hc : (t.filter fun x => decide (x.p = e.p)).length = if ∃ x ∈ t, x.p = e.p then 1 else 0 := by
    split
    · rename_i h
      obtain ⟨x, hx, hp⟩ := h
      have : (t.filter fun x => decide (x.p = e.p)) = [x] := by
        refine sorted_ext (List.Pairwise.filter _ hs) (List.pairwise_singleton _ _) fun y => ?_
        simp only [List.mem_filter, decide_eq_true_eq, List.mem_singleton]
        constructor
        · rintro ⟨hy, hq⟩; exact sorted_inj hs hy hx (hq.trans hp.symm)
        · rintro rfl; exact ⟨hx, hp⟩
      rw [this]; rfl
    · rename_i h
      rw [List.length_eq_zero_iff, List.filter_eq_nil_iff]
      intro x hx; simp; exact fun g => h ⟨x, hx, g⟩
  unfold putL
  simp only [List.length_append, List.length_cons]
  rw [hc] at hl
  split <;> simp_all <;> omega

/-- What is put into a right tree leaves it right. -/
theorem Right.put {t : List Ent} {e : Ent} (h : Right false t) (hw : wrongE e false = 0) (hd : noDirL t (dirOf e.p) = 0)
    (hk : ∀ x ∈ t, x.p = e.p → (x.kind = 2 ↔ e.kind = 2)) (hm : (∀ x ∈ t, x.p ≠ e.p) → t.length < 80) : Right false (putL t e) := by
  refine ⟨?_, fun x hx => ?_, sorted_putL h.sorted e, fun x hx => ?_⟩
  · rw [putL_length h.sorted]
    split
    · exact h.len
    · rename_i g; have := hm fun x hx hp => g ⟨x, hx, hp⟩; omega
  · rcases mem_putL.1 hx with rfl | ⟨hx, _⟩
    · exact hw
    · exact h.each x hx
  · have key : dirOf x.p = [] ∨ ∃ d ∈ t, d.p = dirOf x.p ∧ d.kind = 2 := by
      rcases mem_putL.1 hx with rfl | ⟨hx, _⟩
      · rcases noDirL_zero.1 hd with g | ⟨d, h1, h2, h3, _⟩
        · exact .inl g
        · exact .inr ⟨d, h1, h2, h3⟩
      · exact h.dir x hx
    rcases key with g | ⟨d, h1, h2, h3⟩
    · exact .inl g
    · by_cases g : d.p = e.p
      · exact .inr ⟨e, mem_putL.2 (.inl rfl), g.symm.trans h2, (hk d h1 g).1 h3⟩
      · exact .inr ⟨d, mem_putL.2 (.inr ⟨h1, g⟩), h2, h3⟩

/-! remove -/
def remL (t : List Ent) (p : List UInt8) : List Ent := t.filter fun x => !decide (x.p = p)
theorem mem_remL {t : List Ent} {p : List UInt8} {x : Ent} : x ∈ remL t p ↔ x ∈ t ∧ x.p ≠ p := by simp [remL]
theorem sorted_remL {t : List Ent} (h : Sorted t) (p : List UInt8) : Sorted (remL t p) := List.Pairwise.filter _ h
theorem Right.rem {b : Bool} {t : List Ent} (h : Right b t) {p : List UInt8} (hp : p ≠ []) (hf : ∀ x ∈ t, under x.p p = false) : Right b (remL t p) := by
  refine ⟨Nat.le_trans (List.length_filter_le _ _) h.len, fun x hx => h.each x (mem_remL.1 hx).1, sorted_remL h.sorted p, fun x hx => ?_⟩
  rcases h.dir x (mem_remL.1 hx).1 with g | ⟨d, h1, h2, h3⟩
  · exact .inl g
  · refine .inr ⟨d, mem_remL.2 ⟨h1, fun e => ?_⟩, h2, h3⟩
    have := hf x (mem_remL.1 hx).1
    have hd : dirOf x.p = p := h2.symm.trans e
    have hu := dir_under (h.ne (mem_remL.1 hx).1) (by rw [hd]; exact hp)
    rw [hd, this] at hu; cases hu
/-- Put where nothing was, and removed. -/
theorem put_rem {t : List Ent} {e : Ent} (hs : Sorted t) (hn : ∀ x ∈ t, x.p ≠ e.p) : remL (putL t e) e.p = t := by
  refine sorted_ext (sorted_remL (sorted_putL hs e) _) hs fun x => ?_
  rw [mem_remL, mem_putL]
  constructor
  · rintro ⟨rfl | ⟨h, _⟩, g⟩
    · exact absurd rfl g
    · exact h
  · intro h; exact ⟨.inr ⟨h, hn x h⟩, hn x h⟩
end Go.Proofs.YtampldoimpfjgabGreatDoor.PM
