/-
  Plain mathematics of trees as lists of entries: right trees, what is put, removed and moved; nothing of a program stands in it.
-/
import Derived.Test.YtampldoimpfjgabGreatDoorMath
namespace Go.Proofs.YtampldoimpfjgabGreatDoor.PM
set_option linter.unusedVariables false

structure Ent where
  path : ByteArray
  kind : Int
  text : ByteArray
  opq : Bool
deriving DecidableEq
instance : Inhabited Ent := ⟨⟨ByteArray.empty, 0, ByteArray.empty, false⟩⟩
def Ent.p (e : Ent) : List UInt8 := e.path.data.toList
theorem ba_ext {a b : ByteArray} (h : a.data.toList = b.data.toList) : a = b := by
  cases a; cases b; simp at h; simp [h]
theorem Ent.path_eq {e f : Ent} (h : e.p = f.p) : e.path = f.path := ba_ext h
def ltE (a b : Ent) : Prop := cmp a.p b.p < 0
def Sorted (t : List Ent) : Prop := t.Pairwise ltE
theorem cmp_self (a : List UInt8) : cmp a a = 0 := (cmp_zero a a).2 rfl
theorem ltE_ne {a b : Ent} (h : ltE a b) : a.p ≠ b.p := by
  intro e; unfold ltE at h; rw [e, cmp_self] at h; omega
theorem ltE_trans {a b c : Ent} (h : ltE a b) (g : ltE b c) : ltE a c := cmp_trans _ _ _ h g
theorem ltE_asymm {a b : Ent} (h : ltE a b) (g : ltE b a) : False := by
  have := ltE_trans h g; exact ltE_ne this rfl

/-- Two rising lists with the same entries are one. -/
theorem sorted_ext : ∀ {a b : List Ent}, Sorted a → Sorted b → (∀ x, x ∈ a ↔ x ∈ b) → a = b
  | [], [], _, _, _ => rfl
  | [], y :: b, _, _, h => absurd ((h y).2 (by simp)) (by simp)
  | x :: a, [], _, _, h => absurd ((h x).1 (by simp)) (by simp)
  | x :: a, y :: b, ha, hb, h => by
    have ha' := List.pairwise_cons.1 ha
    have hb' := List.pairwise_cons.1 hb
    have e : x = y := by
      rcases List.mem_cons.1 ((h x).1 (by simp)) with e | e
      · exact e
      · rcases List.mem_cons.1 ((h y).2 (by simp)) with g | g
        · exact g.symm
        · exact (ltE_asymm (hb'.1 x e) (ha'.1 y g)).elim
    subst e
    rw [sorted_ext ha'.2 hb'.2 fun z => ?_]
    constructor
    · intro hz
      rcases List.mem_cons.1 ((h z).1 (by simp [hz])) with e | e
      · exact absurd (congrArg Ent.p e).symm (ltE_ne (ha'.1 z hz))
      · exact e
    · intro hz
      rcases List.mem_cons.1 ((h z).2 (by simp [hz])) with e | e
      · exact absurd (congrArg Ent.p e).symm (ltE_ne (hb'.1 z hz))
      · exact e
/-- In a rising list a path stands once. -/
theorem sorted_inj {t : List Ent} (h : Sorted t) {x y : Ent} (hx : x ∈ t) (hy : y ∈ t) (e : x.p = y.p) : x = y := by
  induction t with
  | nil => simp at hx
  | cons z t ih =>
    have h' := List.pairwise_cons.1 h
    rcases List.mem_cons.1 hx with gx | gx <;> rcases List.mem_cons.1 hy with gy | gy
    · rw [gx, gy]
    · subst gx; exact absurd e (ltE_ne (h'.1 y gy))
    · subst gy; exact absurd e.symm (ltE_ne (h'.1 x gx))
    · exact ih h'.2 gx gy

def dirE : Ent := ⟨ByteArray.empty, 2, ByteArray.empty, false⟩
/-- What is at a path; the empty path is a directory that is there. -/
def getL (t : List Ent) (p : List UInt8) : Option Ent := if p = [] then some dirE else t.find? fun e => e.p = p
theorem getL_nil (t : List Ent) : getL t [] = some dirE := by simp [getL]
theorem getL_some {t : List Ent} {p : List UInt8} {e : Ent} (h : p ≠ []) (hg : getL t p = some e) : e ∈ t ∧ e.p = p := by
  rw [getL, if_neg h] at hg
  exact ⟨List.mem_of_find?_eq_some hg, by simpa using List.find?_some hg⟩
theorem getL_none {t : List Ent} {p : List UInt8} (hg : getL t p = none) : p ≠ [] ∧ ∀ e ∈ t, e.p ≠ p := by
  by_cases h : p = []
  · rw [h, getL_nil] at hg; cases hg
  · rw [getL, if_neg h] at hg
    exact ⟨h, fun e he => by simpa using List.find?_eq_none.1 hg e he⟩
theorem getL_of {t : List Ent} (hs : Sorted t) {e : Ent} (he : e ∈ t) (h : e.p ≠ []) : getL t e.p = some e := by
  cases hg : getL t e.p with
  | none => exact absurd rfl ((getL_none hg).2 e he)
  | some f => rw [sorted_inj hs he (getL_some h hg).1 (getL_some h hg).2.symm]
theorem getL_none_of {t : List Ent} {p : List UInt8} (h : p ≠ []) (hn : ∀ e ∈ t, e.p ≠ p) : getL t p = none := by
  cases hg : getL t p with
  | none => rfl
  | some f => exact absurd (getL_some h hg).2 (hn f (getL_some h hg).1)

/-- What is wrong with an entry. -/
def wrongE (e : Ent) (layer : Bool) : Int :=
  if !(e.kind = 1 || e.kind = 3) && !(e.kind = 2) && !(layer && e.kind = 4) then 1
  else if !clean e.p then 7
  else if 100 < e.text.size then 4
  else if e.text.size ≠ 0 && !(e.kind = 1 || e.kind = 3) || (e.text.size = 0 && e.kind = 3) || (e.opq && !(layer && e.kind = 2)) then 8
  else 0
theorem wrongE_clean {e : Ent} {layer : Bool} (h : wrongE e layer = 0) : clean e.p = true := by
  unfold wrongE at h
  split at h
  · omega
  · split at h
    · omega
    · rename_i _ h2; simpa using h2
theorem wrongE_path {e f : Ent} {layer : Bool} (h : wrongE e layer = 0) (hk : f.kind = e.kind) (ht : f.text = e.text) (ho : f.opq = e.opq) (hc : clean f.p = true) : wrongE f layer = 0 := by
  have he := wrongE_clean h
  unfold wrongE at h ⊢
  rw [hk, ht, ho, hc]; rw [he] at h; exact h
theorem clean_ne {l : List UInt8} (h : clean l = true) : l ≠ [] := by
  rintro rfl
  simp [clean, parts, pa, named] at h
def dirOf (l : List UInt8) : List UInt8 := (cutL l).1

/-- A right tree, or layer. -/
structure Right (layer : Bool) (t : List Ent) : Prop where
  len : t.length ≤ 80
  each : ∀ e ∈ t, wrongE e layer = 0
  sorted : Sorted t
  dir : ∀ e ∈ t, dirOf e.p = [] ∨ ∃ d ∈ t, d.p = dirOf e.p ∧ d.kind = 2
theorem Right.clean {b : Bool} {t : List Ent} (h : Right b t) {e : Ent} (he : e ∈ t) : clean e.p = true := wrongE_clean (h.each e he)
theorem Right.ne {b : Bool} {t : List Ent} (h : Right b t) {e : Ent} (he : e ∈ t) : e.p ≠ [] := clean_ne (h.clean he)

/-- What lies below p lies in p, or in something that lies below p. -/
theorem under_dir {l p : List UInt8} (hp : p ≠ []) (hu : under l p = true) : dirOf l = p ∨ under (dirOf l) p = true := by
  obtain ⟨r, rfl⟩ := (under_iff l p hp).1 hu
  rcases cases_last r with hf | ⟨a, b, rfl, hb⟩
  · left; rw [dirOf, cutL_slash p r hf]
  · right
    have : dirOf (p ++ 47 :: (a ++ 47 :: b)) = p ++ 47 :: a := by
      rw [dirOf, show p ++ 47 :: (a ++ 47 :: b) = (p ++ 47 :: a) ++ 47 :: b by simp, cutL_slash _ b hb]
    rw [this]; exact (under_iff _ _ hp).2 ⟨a, rfl⟩
theorem dirOf_le (l : List UInt8) : (dirOf l).length ≤ l.length := by
  rcases cases_last l with hf | ⟨a, b, rfl, hb⟩
  · rw [dirOf, cutL_free l hf]; simp
  · rw [dirOf, cutL_slash a b hb]; simp
theorem dirOf_short {l : List UInt8} (h : l ≠ []) : (dirOf l).length < l.length := by
  rcases cases_last l with hf | ⟨a, b, rfl, hb⟩
  · rw [dirOf, cutL_free l hf]; cases l with | nil => exact absurd rfl h | cons => simp
  · rw [dirOf, cutL_slash a b hb]; simp
/-- .. so p itself is there, and a directory. -/
theorem Right.below {b : Bool} {t : List Ent} (h : Right b t) {p : List UInt8} (hp : p ≠ []) : ∀ (n : Nat) {e : Ent}, e.p.length ≤ n → e ∈ t → under e.p p = true → ∃ d ∈ t, d.p = p ∧ d.kind = 2 := by
  intro n
  induction n with
  | zero => intro e hn he _; exact absurd (List.length_eq_zero_iff.1 (by omega)) (h.ne he)
  | succ n ih =>
    intro e hn he hu
    have hd : ∃ d ∈ t, d.p = dirOf e.p ∧ d.kind = 2 := by
      rcases h.dir e he with hd | hd
      · rcases under_dir hp hu with g | g
        · exact absurd (g.symm.trans hd) hp
        · obtain ⟨r, e'⟩ := (under_iff _ _ hp).1 g
          rw [hd] at e'; simp at e'
      · exact hd
    obtain ⟨d, hdt, hdp, hdk⟩ := hd
    rcases under_dir hp hu with g | g
    · exact ⟨d, hdt, hdp.trans g, hdk⟩
    · exact ih (by rw [hdp]; have := dirOf_short (h.ne he); omega) hdt (by rw [hdp]; exact g)
theorem under_self (a : List UInt8) (h : a ≠ []) : under a a = false := by
  cases hu : under a a with
  | false => rfl
  | true =>
    obtain ⟨r, e⟩ := (under_iff a a h).1 hu
    have := congrArg List.length e
    simp at this
theorem dir_under {l : List UInt8} (h : l ≠ []) (hd : dirOf l ≠ []) : under l (dirOf l) = true := by
  rcases cases_last l with hf | ⟨a, b, rfl, hb⟩
  · rw [dirOf, cutL_free l hf] at hd; exact absurd rfl hd
  · rw [dirOf, cutL_slash a b hb] at hd ⊢; exact (under_iff _ _ hd).2 ⟨b, rfl⟩
theorem dir_lt {l : List UInt8} (h : l ≠ []) (hd : dirOf l ≠ []) : cmp (dirOf l) l < 0 := by
  obtain ⟨r, e⟩ := (under_iff _ _ hd).1 (dir_under h hd)
  have := cmp_under (dirOf l) r
  rwa [← e] at this

/-! what is wrong with a list, first -/
/-- Why p can't stand right behind a right tree. -/
def noDirL (t : List Ent) (p : List UInt8) : Int := match getL t p with | none => 6 | some e => if e.kind = 2 then 0 else 10
def notAhead (ahead : List Ent) (p : List UInt8) : Bool := match ahead.getLast? with | none => false | some e => decide (0 ≤ cmp e.p p)
def placeL (ahead : List Ent) (p : List UInt8) : Int :=
  if notAhead ahead p then 2
  else if noDirL ahead (dirOf p) = 0 then 0 else 10
def faultE (layer : Bool) (ahead : List Ent) (e : Ent) : Int := if wrongE e layer = 0 then placeL ahead e.p else wrongE e layer
def faultFrom (layer : Bool) (ahead : List Ent) : List Ent → Int × Nat
  | [] => (0, 0)
  | e :: r => if faultE layer ahead e = 0 then faultFrom layer (ahead ++ [e]) r else (faultE layer ahead e, ahead.length)
def faultL (layer : Bool) (t : List Ent) : Int × Nat := if 80 < t.length then (5, 0) else faultFrom layer [] t

theorem sorted_snoc {a : List Ent} {e : Ent} : Sorted (a ++ [e]) ↔ Sorted a ∧ ∀ x ∈ a, ltE x e := by
  unfold Sorted
  rw [List.pairwise_append]; simp
theorem sorted_snoc_last {a : List Ent} {e : Ent} (h : Sorted a) (hl : ∀ x, a.getLast? = some x → ltE x e) : Sorted (a ++ [e]) := by
  refine sorted_snoc.2 ⟨h, fun x hx => ?_⟩
  rcases List.eq_nil_or_concat a with rfl | ⟨b, y, rfl⟩
  · simp at hx
  · have hy := hl y (by simp)
    rw [List.concat_eq_append] at hx h
    rcases List.mem_append.1 hx with hx | hx
    · exact ltE_trans ((sorted_snoc.1 h).2 x hx) hy
    · simp at hx; subst hx; exact hy
theorem noDirL_zero {t : List Ent} {p : List UInt8} : noDirL t p = 0 ↔ p = [] ∨ ∃ d ∈ t, d.p = p ∧ d.kind = 2 ∧ getL t p = some d := by
  unfold noDirL
  constructor
  · intro h
    by_cases hp : p = []
    · exact .inl hp
    · cases hg : getL t p with
      | none => rw [hg] at h; simp at h
      | some e =>
        rw [hg] at h
        refine .inr ⟨e, (getL_some hp hg).1, (getL_some hp hg).2, ?_, rfl⟩
        by_cases hk : e.kind = 2
        · exact hk
        · simp [hk] at h
  · rintro (rfl | ⟨d, _, _, hk, hg⟩)
    · rw [getL_nil]; rfl
    · rw [hg]; simp [hk]
theorem noDirL_cases (t : List Ent) (p : List UInt8) : noDirL t p = 0 ∨ noDirL t p = 6 ∨ noDirL t p = 10 := by
  unfold noDirL; split
  · simp
  · split <;> simp
/-- A list in the making: what has been met is right. -/
structure Good (layer : Bool) (t : List Ent) : Prop where
  each : ∀ e ∈ t, wrongE e layer = 0
  sorted : Sorted t
  dir : ∀ e ∈ t, dirOf e.p = [] ∨ ∃ d ∈ t, d.p = dirOf e.p ∧ d.kind = 2
theorem Good.snoc {b : Bool} {a : List Ent} {e : Ent} (h : Good b a) (hf : faultE b a e = 0) : Good b (a ++ [e]) := by
  unfold faultE at hf
  split at hf
  · rename_i hw
    unfold placeL at hf
    split at hf
    · omega
    · rename_i hl
      split at hf
      · rename_i hd
        refine ⟨fun x hx => ?_, sorted_snoc_last h.sorted fun x hx => ?_, fun x hx => ?_⟩
        · rcases List.mem_append.1 hx with hx | hx
          · exact h.each x hx
          · simp at hx; subst hx; exact hw
        · unfold notAhead at hl; rw [hx] at hl; simp at hl; exact hl
        · rcases List.mem_append.1 hx with hx | hx
          · rcases h.dir x hx with g | ⟨d, h1, h2⟩
            · exact .inl g
            · exact .inr ⟨d, by simp [h1], h2⟩
          · simp at hx; subst hx
            rcases noDirL_zero.1 hd with g | ⟨d, h1, h2, h3, _⟩
            · exact .inl g
            · exact .inr ⟨d, by simp [h1], h2, h3⟩
      · omega
  · omega
theorem good_nil (b : Bool) : Good b [] := ⟨by simp, List.Pairwise.nil, by simp⟩
/-- The other way: what stands in a right list is not at fault. -/
theorem fault_none {b : Bool} {a : List Ent} {e : Ent} {r : List Ent} (h : Good b (a ++ e :: r)) : faultE b a e = 0 := by
  have hs := List.pairwise_append.1 h.sorted
  have hw := h.each e (by simp)
  have hne := clean_ne (wrongE_clean hw)
  unfold faultE placeL
  rw [if_pos hw]
  have h1 : notAhead a e.p = false := by
    unfold notAhead
    cases hg : a.getLast? with
    | none => rfl
    | some x =>
      have hx := List.mem_of_getLast? hg
      have := hs.2.2 x hx e (by simp)
      unfold ltE at this
      simp; omega
  rw [h1]
  simp only [Bool.false_eq_true, if_false]
  rw [if_pos]
  refine noDirL_zero.2 ?_
  by_cases hd : dirOf e.p = []
  · exact .inl hd
  rcases h.dir e (by simp) with g | ⟨d, hdt, hdp, hdk⟩
  · exact absurd g hd
  · have hlt : ltE d e := by unfold ltE; rw [hdp]; exact dir_lt hne hd
    have hda : d ∈ a := by
      rcases List.mem_append.1 hdt with g | g
      · exact g
      · rcases List.mem_cons.1 g with rfl | g
        · exact absurd rfl (ltE_ne hlt)
        · exact (ltE_asymm hlt ((List.pairwise_cons.1 hs.2.1).1 d g)).elim
    exact .inr ⟨d, hda, hdp, hdk, by rw [← hdp]; exact getL_of hs.1 hda (by rw [hdp]; exact hd)⟩
theorem faultFrom_zero {b : Bool} : ∀ (r a : List Ent), Good b a → ((faultFrom b a r).1 = 0 ↔ Good b (a ++ r))
  | [], a, h => by simp [faultFrom, h]
  | e :: r, a, h => by
    rw [faultFrom]
    split
    · rename_i hf
      rw [faultFrom_zero r (a ++ [e]) (h.snoc hf)]; simp
    · rename_i hf
      constructor
      · intro g; exact absurd g hf
      · intro g; exact absurd (fault_none g) hf
theorem faultFrom_at {b : Bool} : ∀ (r a : List Ent), (faultFrom b a r).1 = 0 → faultFrom b a r = (0, 0)
  | [], _, _ => rfl
  | e :: r, a, h => by
    rw [faultFrom] at h ⊢
    split
    · rename_i hf; rw [if_pos hf] at h; exact faultFrom_at r _ h
    · rename_i hf; rw [if_neg hf] at h; exact absurd h hf
theorem faultL_zero {b : Bool} {t : List Ent} : (faultL b t).1 = 0 ↔ Right b t := by
  unfold faultL
  split
  · rename_i h
    constructor
    · intro g; simp at g
    · intro g; have := g.len; omega
  · rename_i h
    rw [faultFrom_zero t [] (good_nil b), List.nil_append]
    constructor
    · intro g; exact ⟨by omega, g.each, g.sorted, g.dir⟩
    · intro g; exact ⟨g.each, g.sorted, g.dir⟩
theorem faultL_right {b : Bool} {t : List Ent} (h : Right b t) : faultL b t = (0, 0) := by
  have h0 := faultL_zero.2 h
  unfold faultL at h0 ⊢
  rw [if_neg (by have := h.len; omega)] at h0 ⊢
  exact faultFrom_at _ _ h0
end Go.Proofs.YtampldoimpfjgabGreatDoor.PM
