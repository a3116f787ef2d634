/-
  Plain mathematics of trees as lists of entries: right trees, what is put, removed and moved; nothing of a program stands in it.
-/
import Derived.Test.YtampldoimpfjgaaGreatDoorGA
import Derived.Test.YtampldoimpfjgaaGreatDoorGB
import Derived.Shelf.SlSortCmp.QuietGrown
import Derived.Shelf.SlicesQ.Load
import Derived.Deep.LoopGhost
import Derived.Deep.RegionHeld3
namespace Go.Proofs.YtampldoimpfjgaaGreatDoor.PM
set_option linter.unusedVariables false

structure Ent where
  path : ByteArray
  kind : Int
  text : ByteArray
  opq : Bool
deriving DecidableEq
instance : Inhabited Ent := ⟨⟨ByteArray.empty, 0, ByteArray.empty, false⟩⟩
def Ent.p (e : Ent) : List UInt8 := e.path.data.toList
theorem ba_ext {a b : ByteArray} (h : a.data.toList = b.data.toList) : a = b := by
  cases a; cases b; simp at h; simp [h]
theorem Ent.path_eq {e f : Ent} (h : e.p = f.p) : e.path = f.path := ba_ext h
def ltE (a b : Ent) : Prop := cmp a.p b.p < 0
def Sorted (t : List Ent) : Prop := t.Pairwise ltE
theorem cmp_self (a : List UInt8) : cmp a a = 0 := (cmp_zero a a).2 rfl
theorem ltE_ne {a b : Ent} (h : ltE a b) : a.p ≠ b.p := by
  intro e; unfold ltE at h; rw [e, cmp_self] at h; omega
theorem ltE_trans {a b c : Ent} (h : ltE a b) (g : ltE b c) : ltE a c := cmp_trans _ _ _ h g
theorem ltE_asymm {a b : Ent} (h : ltE a b) (g : ltE b a) : False := by
  have := ltE_trans h g; exact ltE_ne this rfl

/-- Two rising lists with the same entries are one. -/
theorem sorted_ext : ∀ {a b : List Ent}, Sorted a → Sorted b → (∀ x, x ∈ a ↔ x ∈ b) → a = b
  | [], [], _, _, _ => rfl
  | [], y :: b, _, _, h => absurd ((h y).2 (by simp)) (by simp)
  | x :: a, [], _, _, h => absurd ((h x).1 (by simp)) (by simp)
  | x :: a, y :: b, ha, hb, h => by
    have ha' := List.pairwise_cons.1 ha
    have hb' := List.pairwise_cons.1 hb
    have e : x = y := by
      rcases List.mem_cons.1 ((h x).1 (by simp)) with e | e
      · exact e
      · rcases List.mem_cons.1 ((h y).2 (by simp)) with g | g
        · exact g.symm
        · exact (ltE_asymm (hb'.1 x e) (ha'.1 y g)).elim
    subst e
    rw [sorted_ext ha'.2 hb'.2 fun z => ?_]
    constructor
    · intro hz
      rcases List.mem_cons.1 ((h z).1 (by simp [hz])) with e | e
      · exact absurd (congrArg Ent.p e).symm (ltE_ne (ha'.1 z hz))
      · exact e
    · intro hz
      rcases List.mem_cons.1 ((h z).2 (by simp [hz])) with e | e
      · exact absurd (congrArg Ent.p e).symm (ltE_ne (hb'.1 z hz))
      · exact e
/-- In a rising list a path stands once. -/
theorem sorted_inj {t : List Ent} (h : Sorted t) {x y : Ent} (hx : x ∈ t) (hy : y ∈ t) (e : x.p = y.p) : x = y := by
  induction t with
  | nil => simp at hx
  | cons z t ih =>
    have h' := List.pairwise_cons.1 h
    rcases List.mem_cons.1 hx with gx | gx <;> rcases List.mem_cons.1 hy with gy | gy
    · rw [gx, gy]
    · subst gx; exact absurd e (ltE_ne (h'.1 y gy))
    · subst gy; exact absurd e.symm (ltE_ne (h'.1 x gx))
    · exact ih h'.2 gx gy

def dirE : Ent := ⟨ByteArray.empty, 2, ByteArray.empty, false⟩
/-- What is at a path; the empty path is a directory that is there. -/
def getL (t : List Ent) (p : List UInt8) : Option Ent := if p = [] then some dirE else t.find? fun e => e.p = p
theorem getL_nil (t : List Ent) : getL t [] = some dirE := by simp [getL]
theorem getL_some {t : List Ent} {p : List UInt8} {e : Ent} (h : p ≠ []) (hg : getL t p = some e) : e ∈ t ∧ e.p = p := by
  rw [getL, if_neg h] at hg
  exact ⟨List.mem_of_find?_eq_some hg, by simpa using List.find?_some hg⟩
theorem getL_none {t : List Ent} {p : List UInt8} (hg : getL t p = none) : p ≠ [] ∧ ∀ e ∈ t, e.p ≠ p := by
  by_cases h : p = []
  · rw [h, getL_nil] at hg; cases hg
  · rw [getL, if_neg h] at hg
    exact ⟨h, fun e he => by simpa using List.find?_eq_none.1 hg e he⟩
theorem getL_of {t : List Ent} (hs : Sorted t) {e : Ent} (he : e ∈ t) (h : e.p ≠ []) : getL t e.p = some e := by
  cases hg : getL t e.p with
  | none => exact absurd rfl ((getL_none hg).2 e he)
  | some f => rw [sorted_inj hs he (getL_some h hg).1 (getL_some h hg).2.symm]
theorem getL_none_of {t : List Ent} {p : List UInt8} (h : p ≠ []) (hn : ∀ e ∈ t, e.p ≠ p) : getL t p = none := by
  cases hg : getL t p with
  | none => rfl
  | some f => exact absurd (getL_some h hg).2 (hn f (getL_some h hg).1)

/-- What is wrong with an entry. -/
def wrongE (e : Ent) (layer : Bool) : Int :=
  if !(e.kind = 1 || e.kind = 3) && !(e.kind = 2) && !(layer && e.kind = 4) then 1
  else if !clean e.p then 7
  else if 100 < e.text.size then 4
  else if e.text.size ≠ 0 && !(e.kind = 1 || e.kind = 3) || (e.text.size = 0 && e.kind = 3) || (e.opq && !(layer && e.kind = 2)) then 8
  else 0
theorem wrongE_clean {e : Ent} {layer : Bool} (h : wrongE e layer = 0) : clean e.p = true := by
  unfold wrongE at h
  split at h
  · omega
  · split at h
    · omega
    · rename_i _ h2; simpa using h2
theorem wrongE_path {e f : Ent} {layer : Bool} (h : wrongE e layer = 0) (hk : f.kind = e.kind) (ht : f.text = e.text) (ho : f.opq = e.opq) (hc : clean f.p = true) : wrongE f layer = 0 := by
  have he := wrongE_clean h
  unfold wrongE at h ⊢
  rw [hk, ht, ho, hc]; rw [he] at h; exact h
theorem clean_ne {l : List UInt8} (h : clean l = true) : l ≠ [] := by
  rintro rfl
  simp [clean, parts, pa, named] at h
def dirOf (l : List UInt8) : List UInt8 := (cutL l).1

/-- A right tree, or layer. -/
structure Right (layer : Bool) (t : List Ent) : Prop where
  len : t.length ≤ 80
  each : ∀ e ∈ t, wrongE e layer = 0
  sorted : Sorted t
  dir : ∀ e ∈ t, dirOf e.p = [] ∨ ∃ d ∈ t, d.p = dirOf e.p ∧ d.kind = 2
theorem Right.clean {b : Bool} {t : List Ent} (h : Right b t) {e : Ent} (he : e ∈ t) : clean e.p = true := wrongE_clean (h.each e he)
theorem Right.ne {b : Bool} {t : List Ent} (h : Right b t) {e : Ent} (he : e ∈ t) : e.p ≠ [] := clean_ne (h.clean he)

/-- What lies below p lies in p, or in something that lies below p. -/
theorem under_dir {l p : List UInt8} (hp : p ≠ []) (hu : under l p = true) : dirOf l = p ∨ under (dirOf l) p = true := by
  obtain ⟨r, rfl⟩ := (under_iff l p hp).1 hu
  rcases cases_last r with hf | ⟨a, b, rfl, hb⟩
  · left; rw [dirOf, cutL_slash p r hf]
  · right
    have : dirOf (p ++ 47 :: (a ++ 47 :: b)) = p ++ 47 :: a := by
      rw [dirOf, show p ++ 47 :: (a ++ 47 :: b) = (p ++ 47 :: a) ++ 47 :: b by simp, cutL_slash _ b hb]
    rw [this]; exact (under_iff _ _ hp).2 ⟨a, rfl⟩
theorem dirOf_le (l : List UInt8) : (dirOf l).length ≤ l.length := by
  rcases cases_last l with hf | ⟨a, b, rfl, hb⟩
  · rw [dirOf, cutL_free l hf]; simp
  · rw [dirOf, cutL_slash a b hb]; simp
theorem dirOf_short {l : List UInt8} (h : l ≠ []) : (dirOf l).length < l.length := by
  rcases cases_last l with hf | ⟨a, b, rfl, hb⟩
  · rw [dirOf, cutL_free l hf]; cases l with | nil => exact absurd rfl h | cons => simp
  · rw [dirOf, cutL_slash a b hb]; simp
/-- .. so p itself is there, and a directory. -/
theorem Right.below {b : Bool} {t : List Ent} (h : Right b t) {p : List UInt8} (hp : p ≠ []) : ∀ (n : Nat) {e : Ent}, e.p.length ≤ n → e ∈ t → under e.p p = true → ∃ d ∈ t, d.p = p ∧ d.kind = 2 := by
  intro n
  induction n with
  | zero => intro e hn he _; exact absurd (List.length_eq_zero_iff.1 (by omega)) (h.ne he)
  | succ n ih =>
    intro e hn he hu
    have hd : ∃ d ∈ t, d.p = dirOf e.p ∧ d.kind = 2 := by
      rcases h.dir e he with hd | hd
      · rcases under_dir hp hu with g | g
        · exact absurd (g.symm.trans hd) hp
        · obtain ⟨r, e'⟩ := (under_iff _ _ hp).1 g
          rw [hd] at e'; simp at e'
      · exact hd
    obtain ⟨d, hdt, hdp, hdk⟩ := hd
    rcases under_dir hp hu with g | g
    · exact ⟨d, hdt, hdp.trans g, hdk⟩
    · exact ih (by rw [hdp]; have := dirOf_short (h.ne he); omega) hdt (by rw [hdp]; exact g)
theorem under_self (a : List UInt8) (h : a ≠ []) : under a a = false := by
  cases hu : under a a with
  | false => rfl
  | true =>
    obtain ⟨r, e⟩ := (under_iff a a h).1 hu
    have := congrArg List.length e
    simp at this
theorem dir_under {l : List UInt8} (h : l ≠ []) (hd : dirOf l ≠ []) : under l (dirOf l) = true := by
  rcases cases_last l with hf | ⟨a, b, rfl, hb⟩
  · rw [dirOf, cutL_free l hf] at hd; exact absurd rfl hd
  · rw [dirOf, cutL_slash a b hb] at hd ⊢; exact (under_iff _ _ hd).2 ⟨b, rfl⟩
theorem dir_lt {l : List UInt8} (h : l ≠ []) (hd : dirOf l ≠ []) : cmp (dirOf l) l < 0 := by
  obtain ⟨r, e⟩ := (under_iff _ _ hd).1 (dir_under h hd)
  have := cmp_under (dirOf l) r
  rwa [← e] at this

/-! what is wrong with a list, first -/
/-- Why p can't stand right behind a right tree. -/
def noDirL (t : List Ent) (p : List UInt8) : Int := match getL t p with | none => 6 | some e => if e.kind = 2 then 0 else 10
def notAhead (ahead : List Ent) (p : List UInt8) : Bool := match ahead.getLast? with | none => false | some e => decide (0 ≤ cmp e.p p)
def placeL (ahead : List Ent) (p : List UInt8) : Int :=
  if notAhead ahead p then 2
  else if noDirL ahead (dirOf p) = 0 then 0 else 10
def faultE (layer : Bool) (ahead : List Ent) (e : Ent) : Int := if wrongE e layer = 0 then placeL ahead e.p else wrongE e layer
def faultFrom (layer : Bool) (ahead : List Ent) : List Ent → Int × Nat
  | [] => (0, 0)
  | e :: r => if faultE layer ahead e = 0 then faultFrom layer (ahead ++ [e]) r else (faultE layer ahead e, ahead.length)
def faultL (layer : Bool) (t : List Ent) : Int × Nat := if 80 < t.length then (5, 0) else faultFrom layer [] t

theorem sorted_snoc {a : List Ent} {e : Ent} : Sorted (a ++ [e]) ↔ Sorted a ∧ ∀ x ∈ a, ltE x e := by
  unfold Sorted
  rw [List.pairwise_append]; simp
theorem sorted_snoc_last {a : List Ent} {e : Ent} (h : Sorted a) (hl : ∀ x, a.getLast? = some x → ltE x e) : Sorted (a ++ [e]) := by
  refine sorted_snoc.2 ⟨h, fun x hx => ?_⟩
  rcases List.eq_nil_or_concat a with rfl | ⟨b, y, rfl⟩
  · simp at hx
  · have hy := hl y (by simp)
    rw [List.concat_eq_append] at hx h
    rcases List.mem_append.1 hx with hx | hx
    · exact ltE_trans ((sorted_snoc.1 h).2 x hx) hy
    · simp at hx; subst hx; exact hy
theorem noDirL_zero {t : List Ent} {p : List UInt8} : noDirL t p = 0 ↔ p = [] ∨ ∃ d ∈ t, d.p = p ∧ d.kind = 2 ∧ getL t p = some d := by
  unfold noDirL
  constructor
  · intro h
    by_cases hp : p = []
    · exact .inl hp
    · cases hg : getL t p with
      | none => rw [hg] at h; simp at h
      | some e =>
        rw [hg] at h
        refine .inr ⟨e, (getL_some hp hg).1, (getL_some hp hg).2, ?_, rfl⟩
        by_cases hk : e.kind = 2
        · exact hk
        · simp [hk] at h
  · rintro (rfl | ⟨d, _, _, hk, hg⟩)
    · rw [getL_nil]; rfl
    · rw [hg]; simp [hk]
theorem noDirL_cases (t : List Ent) (p : List UInt8) : noDirL t p = 0 ∨ noDirL t p = 6 ∨ noDirL t p = 10 := by
  unfold noDirL; split
  · simp
  · split <;> simp
/-- A list in the making: what has been met is right. -/
structure Good (layer : Bool) (t : List Ent) : Prop where
  each : ∀ e ∈ t, wrongE e layer = 0
  sorted : Sorted t
  dir : ∀ e ∈ t, dirOf e.p = [] ∨ ∃ d ∈ t, d.p = dirOf e.p ∧ d.kind = 2
theorem Good.snoc {b : Bool} {a : List Ent} {e : Ent} (h : Good b a) (hf : faultE b a e = 0) : Good b (a ++ [e]) := by
  unfold faultE at hf
  split at hf
  · rename_i hw
    unfold placeL at hf
    split at hf
    · omega
    · rename_i hl
      split at hf
      · rename_i hd
        refine ⟨fun x hx => ?_, sorted_snoc_last h.sorted fun x hx => ?_, fun x hx => ?_⟩
        · rcases List.mem_append.1 hx with hx | hx
          · exact h.each x hx
          · simp at hx; subst hx; exact hw
        · unfold notAhead at hl; rw [hx] at hl; simp at hl; exact hl
        · rcases List.mem_append.1 hx with hx | hx
          · rcases h.dir x hx with g | ⟨d, h1, h2⟩
            · exact .inl g
            · exact .inr ⟨d, by simp [h1], h2⟩
          · simp at hx; subst hx
            rcases noDirL_zero.1 hd with g | ⟨d, h1, h2, h3, _⟩
            · exact .inl g
            · exact .inr ⟨d, by simp [h1], h2, h3⟩
      · omega
  · omega
theorem good_nil (b : Bool) : Good b [] := ⟨by simp, List.Pairwise.nil, by simp⟩
/-- The other way: what stands in a right list is not at fault. -/
theorem fault_none {b : Bool} {a : List Ent} {e : Ent} {r : List Ent} (h : Good b (a ++ e :: r)) : faultE b a e = 0 := by
  have hs := List.pairwise_append.1 h.sorted
  have hw := h.each e (by simp)
  have hne := clean_ne (wrongE_clean hw)
  unfold faultE placeL
  rw [if_pos hw]
  have h1 : notAhead a e.p = false := by
    unfold notAhead
    cases hg : a.getLast? with
    | none => rfl
    | some x =>
      have hx := List.mem_of_getLast? hg
      have := hs.2.2 x hx e (by simp)
      unfold ltE at this
      simp; omega
  rw [h1]
  simp only [Bool.false_eq_true, if_false]
  rw [if_pos]
  refine noDirL_zero.2 ?_
  by_cases hd : dirOf e.p = []
  · exact .inl hd
  rcases h.dir e (by simp) with g | ⟨d, hdt, hdp, hdk⟩
  · exact absurd g hd
  · have hlt : ltE d e := by unfold ltE; rw [hdp]; exact dir_lt hne hd
    have hda : d ∈ a := by
      rcases List.mem_append.1 hdt with g | g
      · exact g
      · rcases List.mem_cons.1 g with rfl | g
        · exact absurd rfl (ltE_ne hlt)
        · exact (ltE_asymm hlt ((List.pairwise_cons.1 hs.2.1).1 d g)).elim
    exact .inr ⟨d, hda, hdp, hdk, by rw [← hdp]; exact getL_of hs.1 hda (by rw [hdp]; exact hd)⟩
theorem faultFrom_zero {b : Bool} : ∀ (r a : List Ent), Good b a → ((faultFrom b a r).1 = 0 ↔ Good b (a ++ r))
  | [], a, h => by simp [faultFrom, h]
  | e :: r, a, h => by
    rw [faultFrom]
    split
    · rename_i hf
      rw [faultFrom_zero r (a ++ [e]) (h.snoc hf)]; simp
    · rename_i hf
      constructor
      · intro g; exact absurd g hf
      · intro g; exact absurd (fault_none g) hf
theorem faultFrom_at {b : Bool} : ∀ (r a : List Ent), (faultFrom b a r).1 = 0 → faultFrom b a r = (0, 0)
  | [], _, _ => rfl
  | e :: r, a, h => by
    rw [faultFrom] at h ⊢
    split
    · rename_i hf; rw [if_pos hf] at h; exact faultFrom_at r _ h
    · rename_i hf; rw [if_neg hf] at h; exact absurd h hf
theorem faultL_zero {b : Bool} {t : List Ent} : (faultL b t).1 = 0 ↔ Right b t := by
  unfold faultL
  split
  · rename_i h
    constructor
    · intro g; simp at g
    · intro g; have := g.len; omega
  · rename_i h
    rw [faultFrom_zero t [] (good_nil b), List.nil_append]
    constructor
    · intro g; exact ⟨by omega, g.each, g.sorted, g.dir⟩
    · intro g; exact ⟨g.each, g.sorted, g.dir⟩
theorem faultL_right {b : Bool} {t : List Ent} (h : Right b t) : faultL b t = (0, 0) := by
  have h0 := faultL_zero.2 h
  unfold faultL at h0 ⊢
  rw [if_neg (by have := h.len; omega)] at h0 ⊢
  exact faultFrom_at _ _ h0
end Go.Proofs.YtampldoimpfjgaaGreatDoor.PM
namespace Go.Proofs.YtampldoimpfjgaaGreatDoor.PM
set_option linter.unusedVariables false

theorem cmp_flip {a b : List UInt8} : 0 < cmp a b ↔ cmp b a < 0 := by rw [cmp_anti a b]; omega
theorem cmp_ge {a b : List UInt8} (h : ¬ cmp a b < 0) (hn : a ≠ b) : cmp b a < 0 := by
  have h0 : cmp a b ≠ 0 := fun e => hn ((cmp_zero a b).1 e)
  rw [cmp_anti b a]; omega

/-! put -/
def putL (t : List Ent) (e : Ent) : List Ent := t.filter (fun x => decide (cmp x.p e.p < 0)) ++ e :: t.filter (fun x => decide (0 < cmp x.p e.p))
theorem mem_putL {t : List Ent} {e x : Ent} : x ∈ putL t e ↔ x = e ∨ x ∈ t ∧ x.p ≠ e.p := by
  unfold putL
  simp only [List.mem_append, List.mem_cons, List.mem_filter, decide_eq_true_eq]
  constructor
  · rintro (⟨h, g⟩ | rfl | ⟨h, g⟩)
    · exact .inr ⟨h, fun e' => by rw [e', cmp_self] at g; omega⟩
    · exact .inl rfl
    · exact .inr ⟨h, fun e' => by rw [e', cmp_self] at g; omega⟩
  · rintro (rfl | ⟨h, g⟩)
    · exact .inr (.inl rfl)
    · by_cases hl : cmp x.p e.p < 0
      · exact .inl ⟨h, hl⟩
      · exact .inr (.inr ⟨h, cmp_flip.2 (cmp_ge hl g)⟩)
theorem sorted_putL {t : List Ent} (h : Sorted t) (e : Ent) : Sorted (putL t e) := by
  unfold putL Sorted
  rw [List.pairwise_append]
  refine ⟨List.Pairwise.filter _ h, List.pairwise_cons.2 ⟨fun x hx => ?_, List.Pairwise.filter _ h⟩, fun x hx y hy => ?_⟩
  · have := (List.mem_filter.1 hx).2; simp at this; exact cmp_flip.1 this
  · have g1 := (List.mem_filter.1 hx).2; simp at g1
    rcases List.mem_cons.1 hy with rfl | hy
    · exact g1
    · have g2 := (List.mem_filter.1 hy).2; simp at g2
      exact cmp_trans _ _ _ g1 (cmp_flip.1 g2)
/-- A place at which what comes ahead of p ends, as a search finds it. -/
structure PlaceAt (t : List Ent) (p : List UInt8) (i : Nat) : Prop where
  le : i ≤ t.length
  lo : ∀ (h : 0 < i) (h' : i - 1 < t.length), cmp (t[i - 1]'h').p p < 0
  hi : ∀ (h : i < t.length), 0 ≤ cmp (t[i]'h).p p
theorem PlaceAt.below {t : List Ent} {p : List UInt8} {i : Nat} (h : PlaceAt t p i) (hs : Sorted t) {j : Nat} (hj : j < t.length) (hji : j < i) : cmp (t[j]'hj).p p < 0 := by
  have hi1 : i - 1 < t.length := by have := h.le; omega
  have h1 := h.lo (by omega) hi1
  by_cases e : j = i - 1
  · subst e; exact h1
  · have := List.pairwise_iff_getElem.1 hs j (i - 1) hj hi1 (by omega)
    exact cmp_trans _ _ _ this h1
theorem PlaceAt.above {t : List Ent} {p : List UInt8} {i : Nat} (h : PlaceAt t p i) (hs : Sorted t) {j : Nat} (hj : j < t.length) (hji : i < j) : 0 < cmp (t[j]'hj).p p := by
  have hi1 : i < t.length := by omega
  have h1 := h.hi hi1
  have h2 : ltE t[i] t[j] := List.pairwise_iff_getElem.1 hs i j hi1 hj hji
  apply cmp_flip.2
  by_cases e : cmp (t[i]'hi1).p p = 0
  · rw [← (cmp_zero _ _).1 e]; exact h2
  · exact cmp_trans _ _ _ (cmp_flip.1 (by omega)) h2
/-- Whether it is there. -/
def isAt (t : List Ent) (p : List UInt8) (i : Nat) : Bool := if h : i < t.length then decide ((t[i]'h).p = p) else false
theorem isAt_iff {t : List Ent} {p : List UInt8} {i : Nat} : isAt t p i = true ↔ ∃ h : i < t.length, (t[i]'h).p = p := by
  unfold isAt; split
  · rename_i h; simp [h]
  · rename_i h; simp; intro g; exact absurd g h
theorem PlaceAt.there {t : List Ent} {p : List UInt8} {i : Nat} (h : PlaceAt t p i) (hs : Sorted t) : isAt t p i = true ↔ ∃ e ∈ t, e.p = p := by
  rw [isAt_iff]
  constructor
  · rintro ⟨g, e⟩; exact ⟨t[i], List.getElem_mem g, e⟩
  · rintro ⟨e, he, hp⟩
    obtain ⟨j, hj, rfl⟩ := List.getElem_of_mem he
    by_cases e1 : j = i
    · subst e1; exact ⟨hj, hp⟩
    · exfalso
      by_cases e2 : j < i
      · have := h.below hs hj e2; rw [hp, cmp_self] at this; omega
      · have := h.above hs hj (by omega); rw [hp, cmp_self] at this; omega
theorem PlaceAt.take {t : List Ent} {p : List UInt8} {i : Nat} (h : PlaceAt t p i) (hs : Sorted t) {x : Ent} : x ∈ t.take i ↔ x ∈ t ∧ cmp x.p p < 0 := by
  constructor
  · intro hx
    obtain ⟨j, hj, rfl⟩ := List.getElem_of_mem hx
    rw [List.length_take] at hj
    rw [List.getElem_take]
    exact ⟨List.getElem_mem _, h.below hs _ (by omega)⟩
  · rintro ⟨hx, hl⟩
    obtain ⟨j, hj, rfl⟩ := List.getElem_of_mem hx
    have hji : j < i := by
      by_cases e : j < i
      · exact e
      · exfalso
        by_cases e1 : j = i
        · subst e1; have := h.hi hj; omega
        · have := h.above hs hj (by omega); omega
    exact List.mem_take_iff_getElem.2 ⟨j, by omega, rfl⟩
theorem PlaceAt.insert {t : List Ent} {e : Ent} {i : Nat} (h : PlaceAt t e.p i) (hs : Sorted t) (hn : isAt t e.p i = false) : t.take i ++ e :: t.drop i = putL t e := by
  have hno : ∀ x ∈ t, x.p ≠ e.p := fun x hx hp => by have := (h.there hs).2 ⟨x, hx, hp⟩; rw [hn] at this; cases this
  have hd : ∀ x ∈ t.drop i, 0 < cmp x.p e.p := by
    intro x hx
    have hxt := List.mem_of_mem_drop hx
    obtain ⟨j, hj, rfl⟩ := List.getElem_of_mem hx
    rw [List.length_drop] at hj
    rw [List.getElem_drop] at hxt ⊢
    by_cases e0 : j = 0
    · subst e0
      have h1 := h.hi (by omega)
      have h2 := hno _ hxt
      simp only [Nat.add_zero] at h1 h2 ⊢
      have : cmp (t[i]'(by omega)).p e.p ≠ 0 := fun g => h2 ((cmp_zero _ _).1 g)
      omega
    · exact h.above hs _ (by omega)
  refine sorted_ext ?_ (sorted_putL hs e) fun x => ?_
  · have hs' : Sorted (t.take i ++ t.drop i) := by rw [List.take_append_drop]; exact hs
    have hs'' := List.pairwise_append.1 hs'
    unfold Sorted
    rw [List.pairwise_append]
    refine ⟨hs''.1, List.pairwise_cons.2 ⟨fun x hx => cmp_flip.1 (hd x hx), hs''.2.1⟩, fun x hx y hy => ?_⟩
    have g := ((h.take hs).1 hx).2
    rcases List.mem_cons.1 hy with rfl | hy
    · exact g
    · exact cmp_trans _ _ _ g (cmp_flip.1 (hd y hy))
  · rw [mem_putL]
    constructor
    · intro hx
      rcases List.mem_append.1 hx with g | g
      · have := List.mem_of_mem_take g; exact .inr ⟨this, hno x this⟩
      · rcases List.mem_cons.1 g with rfl | g
        · exact .inl rfl
        · have := List.mem_of_mem_drop g; exact .inr ⟨this, hno x this⟩
    · rintro (rfl | ⟨hx, _⟩)
      · simp
      · rw [← List.take_append_drop i t] at hx
        rcases List.mem_append.1 hx with g | g
        · simp [g]
        · simp [g]
theorem PlaceAt.set {t : List Ent} {e : Ent} {i : Nat} (h : PlaceAt t e.p i) (hs : Sorted t) (hn : isAt t e.p i = true) : t.set i e = putL t e := by
  obtain ⟨hi, hp⟩ := isAt_iff.1 hn
  refine sorted_ext ?_ (sorted_putL hs e) fun x => ?_
  · unfold Sorted
    rw [List.pairwise_iff_getElem]
    intro a b ha hb hab
    rw [List.length_set] at ha hb
    have h0 := List.pairwise_iff_getElem.1 hs a b ha hb hab
    unfold ltE at h0 ⊢
    rw [List.getElem_set, List.getElem_set]
    split <;> split
    · omega
    · rename_i g _; subst g; rw [← hp]; exact h0
    · rename_i _ g; subst g; rw [← hp]; exact h0
    · exact h0
  · rw [mem_putL]
    constructor
    · intro hx
      obtain ⟨j, hj, rfl⟩ := List.getElem_of_mem hx
      rw [List.length_set] at hj
      rw [List.getElem_set]
      split
      · exact .inl rfl
      · rename_i g
        refine .inr ⟨List.getElem_mem _, fun e' => g ?_⟩
        have hh : t[j] = t[i] := sorted_inj hs (List.getElem_mem _) (List.getElem_mem _) (e'.trans hp.symm)
        by_cases c1 : i < j
        · have := List.pairwise_iff_getElem.1 hs i j hi hj c1; rw [hh] at this; exact absurd rfl (ltE_ne this)
        · by_cases c2 : j < i
          · have := List.pairwise_iff_getElem.1 hs j i hj hi c2; rw [hh] at this; exact absurd rfl (ltE_ne this)
          · omega
    · rintro (rfl | ⟨hx, hne⟩)
      · exact List.mem_iff_getElem.2 ⟨i, by rw [List.length_set]; exact hi, by simp⟩
      · obtain ⟨j, hj, rfl⟩ := List.getElem_of_mem hx
        refine List.mem_iff_getElem.2 ⟨j, by rw [List.length_set]; exact hj, ?_⟩
        rw [List.getElem_set_ne]
        rintro rfl
        exact hne hp
theorem putL_length {t : List Ent} {e : Ent} (hs : Sorted t) : (putL t e).length = if ∃ x ∈ t, x.p = e.p then t.length else t.length + 1 := by
  have hl : (t.filter fun x => decide (cmp x.p e.p < 0)).length + (t.filter fun x => decide (0 < cmp x.p e.p)).length + (t.filter fun x => decide (x.p = e.p)).length = t.length := by
    clear hs
    induction t with
    | nil => rfl
    | cons x t ih =>
      by_cases h0 : x.p = e.p
      · have h1 : ¬ cmp x.p e.p < 0 := by rw [h0, cmp_self]; omega
        have h2 : ¬ 0 < cmp x.p e.p := by rw [h0, cmp_self]; omega
        simp [h0, cmp_self] at ih ⊢; omega
      · have h3 : cmp x.p e.p ≠ 0 := fun g => h0 ((cmp_zero _ _).1 g)
        by_cases h1 : cmp x.p e.p < 0
        · have h2 : ¬ 0 < cmp x.p e.p := by omega
          simp [h0, h1, h2] at ih ⊢; omega
        · have h2 : 0 < cmp x.p e.p := by omega
          simp [h0, h1, h2] at ih ⊢; omega
  have hc : (t.filter fun x => decide (x.p = e.p)).length = if ∃ x ∈ t, x.p = e.p then 1 else 0 := by
    split
    · rename_i h
      obtain ⟨x, hx, hp⟩ := h
      have : (t.filter fun x => decide (x.p = e.p)) = [x] := by
        refine sorted_ext (List.Pairwise.filter _ hs) (List.pairwise_singleton _ _) fun y => ?_
        simp only [List.mem_filter, decide_eq_true_eq, List.mem_singleton]
        constructor
        · rintro ⟨hy, hq⟩; exact sorted_inj hs hy hx (hq.trans hp.symm)
        · rintro rfl; exact ⟨hx, hp⟩
      rw [this]; rfl
    · rename_i h
      rw [List.length_eq_zero_iff, List.filter_eq_nil_iff]
      intro x hx; simp; exact fun g => h ⟨x, hx, g⟩
  unfold putL
  simp only [List.length_append, List.length_cons]
  rw [hc] at hl
  split <;> simp_all <;> omega

/-- What is put into a right tree leaves it right. -/
theorem Right.put {t : List Ent} {e : Ent} (h : Right false t) (hw : wrongE e false = 0) (hd : noDirL t (dirOf e.p) = 0)
    (hk : ∀ x ∈ t, x.p = e.p → (x.kind = 2 ↔ e.kind = 2)) (hm : (∀ x ∈ t, x.p ≠ e.p) → t.length < 80) : Right false (putL t e) := by
  refine ⟨?_, fun x hx => ?_, sorted_putL h.sorted e, fun x hx => ?_⟩
  · rw [putL_length h.sorted]
    split
    · exact h.len
    · rename_i g; have := hm fun x hx hp => g ⟨x, hx, hp⟩; omega
  · rcases mem_putL.1 hx with rfl | ⟨hx, _⟩
    · exact hw
    · exact h.each x hx
  · have key : dirOf x.p = [] ∨ ∃ d ∈ t, d.p = dirOf x.p ∧ d.kind = 2 := by
      rcases mem_putL.1 hx with rfl | ⟨hx, _⟩
      · rcases noDirL_zero.1 hd with g | ⟨d, h1, h2, h3, _⟩
        · exact .inl g
        · exact .inr ⟨d, h1, h2, h3⟩
      · exact h.dir x hx
    rcases key with g | ⟨d, h1, h2, h3⟩
    · exact .inl g
    · by_cases g : d.p = e.p
      · exact .inr ⟨e, mem_putL.2 (.inl rfl), g.symm.trans h2, (hk d h1 g).1 h3⟩
      · exact .inr ⟨d, mem_putL.2 (.inr ⟨h1, g⟩), h2, h3⟩

/-! remove -/
def remL (t : List Ent) (p : List UInt8) : List Ent := t.filter fun x => !decide (x.p = p)
theorem mem_remL {t : List Ent} {p : List UInt8} {x : Ent} : x ∈ remL t p ↔ x ∈ t ∧ x.p ≠ p := by simp [remL]
theorem sorted_remL {t : List Ent} (h : Sorted t) (p : List UInt8) : Sorted (remL t p) := List.Pairwise.filter _ h
theorem Right.rem {b : Bool} {t : List Ent} (h : Right b t) {p : List UInt8} (hp : p ≠ []) (hf : ∀ x ∈ t, under x.p p = false) : Right b (remL t p) := by
  refine ⟨Nat.le_trans (List.length_filter_le _ _) h.len, fun x hx => h.each x (mem_remL.1 hx).1, sorted_remL h.sorted p, fun x hx => ?_⟩
  rcases h.dir x (mem_remL.1 hx).1 with g | ⟨d, h1, h2, h3⟩
  · exact .inl g
  · refine .inr ⟨d, mem_remL.2 ⟨h1, fun e => ?_⟩, h2, h3⟩
    have := hf x (mem_remL.1 hx).1
    have hd : dirOf x.p = p := h2.symm.trans e
    have hu := dir_under (h.ne (mem_remL.1 hx).1) (by rw [hd]; exact hp)
    rw [hd, this] at hu; cases hu
/-- Put where nothing was, and removed. -/
theorem put_rem {t : List Ent} {e : Ent} (hs : Sorted t) (hn : ∀ x ∈ t, x.p ≠ e.p) : remL (putL t e) e.p = t := by
  refine sorted_ext (sorted_remL (sorted_putL hs e) _) hs fun x => ?_
  rw [mem_remL, mem_putL]
  constructor
  · rintro ⟨rfl | ⟨h, _⟩, g⟩
    · exact absurd rfl g
    · exact h
  · intro h; exact ⟨.inr ⟨h, hn x h⟩, hn x h⟩
end Go.Proofs.YtampldoimpfjgaaGreatDoor.PM
namespace Go.Proofs.YtampldoimpfjgaaGreatDoor
open Go.RowKit PM Go.Sort
set_option linter.unusedVariables false

def encE (e : Ent) : List Value := [.string e.path, .int .i64 e.kind, .string e.text, .bool e.opq]
/-- So many draws on, with blocks laid behind it. -/
def Grown (w w' : World) : Prop := ∃ n os, w' = grow (w.drewN n) os
theorem grow_nil (w : World) : grow w #[] = w := by simp [grow]
theorem grow_two (w : World) (a b : Array Obj) : grow (grow w a) b = grow w (a ++ b) := by simp [grow]
theorem Grown.refl (w : World) : Grown w w := ⟨0, #[], by simp [grow, World.drewN]⟩
theorem Grown.trans {a b c : World} (h : Grown a b) (g : Grown b c) : Grown a c := by
  obtain ⟨n, os, rfl⟩ := h
  obtain ⟨m, ps, rfl⟩ := g
  exact ⟨n + m, os ++ ps, by simp [grow, World.drewN, Nat.add_assoc]⟩
theorem Grown.alloc {a b : World} (h : Grown a b) (o : Obj) : Grown a (b.alloc o) := h.trans ⟨0, #[o], by rw [alloc_eq_grow]; rfl⟩
theorem Grown.drewN {a b : World} (h : Grown a b) (n : Nat) : Grown a (b.drewN n) := h.trans ⟨n, #[], by simp [grow, World.drewN]⟩
theorem Grown.below {a b : World} (h : Grown a b) : Below a.heap.size a b := by
  obtain ⟨n, os, rfl⟩ := h
  refine ⟨rfl, rfl, rfl, by simp [grow, World.drewN], fun k hk => ?_⟩
  show (a.heap ++ os)[k]? = _
  rw [Array.getElem?_append_left hk]
theorem Grown.cell {a b : World} (h : Grown a b) {p : Addr} (hp : p.block < a.heap.size) : b.cell? p = a.cell? p := h.below.cell hp
theorem Grown.size {a b : World} (h : Grown a b) : a.heap.size ≤ b.heap.size := h.below.size

/-- The entries lie there. -/
def Lies (w : World) (p : Option Addr) (l : List Ent) : Prop :=
  l = [] ∨ ∃ b off, p = some ⟨b, off, none⟩ ∧ b < w.heap.size ∧ ∀ j e, l[j]? = some e → ∀ i v, (encE e)[i]? = some v → w.cell? ⟨b, off + j * 4 + i, none⟩ = some v
theorem Lies.below {w w' : World} {p : Option Addr} {l : List Ent} (h : Lies w p l) {B : Nat} (hB : Below B w w') (hs : w.heap.size ≤ B) : Lies w' p l := by
  rcases h with h | ⟨b, off, h1, h2, h3⟩
  · exact .inl h
  · exact .inr ⟨b, off, h1, Nat.lt_of_lt_of_le h2 hB.size, fun j e hj i v hv => (hB.cell (p := ⟨b, off + j * 4 + i, none⟩) (Nat.lt_of_lt_of_le h2 hs)).trans (h3 j e hj i v hv)⟩
theorem Lies.kept {w w' : World} {p : Option Addr} {l : List Ent} (h : Lies w p l) (hB : Below w.heap.size w w') : Lies w' p l := h.below hB (Nat.le_refl _)
theorem Lies.grown {w w' : World} {p : Option Addr} {l : List Ent} (h : Lies w p l) (hB : Grown w w') : Lies w' p l := h.kept hB.below
theorem Lies.nil (w : World) (p : Option Addr) : Lies w p [] := .inl rfl
theorem Lies.take {w : World} {p : Option Addr} {l : List Ent} (h : Lies w p l) (k : Nat) : Lies w p (l.take k) := by
  rcases h with h | ⟨b, off, h1, h2, h3⟩
  · exact .inl (by rw [h]; simp)
  · refine .inr ⟨b, off, h1, h2, fun j e hj => h3 j e ?_⟩
    rw [List.getElem?_take] at hj
    split at hj
    · exact hj
    · cases hj
/-- What stands there. -/
theorem Lies.cells {w : World} {b off : Nat} {l : List Ent} (h3 : ∀ j e, l[j]? = some e → ∀ i v, (encE e)[i]? = some v → w.cell? ⟨b, off + j * 4 + i, none⟩ = some v) (hb : b < w.heap.size) {W : World} (hW : Below w.heap.size w W) {j : Nat} {e : Ent} (he : l[j]? = some e) :
    W.cell? ⟨b, off + j * 4, none⟩ = some (.string e.path) ∧ W.cell? ⟨b, off + j * 4 + 1, none⟩ = some (.int .i64 e.kind) ∧ W.cell? ⟨b, off + j * 4 + 2, none⟩ = some (.string e.text) ∧ W.cell? ⟨b, off + j * 4 + 3, none⟩ = some (.bool e.opq) := by
  have h := fun i v hv => (hW.cell (p := ⟨b, off + j * 4 + i, none⟩) hb).trans (h3 j e he i v hv)
  exact ⟨h 0 _ rfl, h 1 _ rfl, h 2 _ rfl, h 3 _ rfl⟩
/-- No text is longer than a machine's. -/
def Fits (l : List Ent) : Prop := ∀ e ∈ l, e.path.size ≤ maxLen ∧ e.text.size ≤ maxLen
theorem Fits.at {l : List Ent} (h : Fits l) {j : Nat} {e : Ent} (he : l[j]? = some e) : e.path.size ≤ maxLen ∧ e.text.size ≤ maxLen := h e (List.mem_of_getElem? he)

theorem cmpE_any (e : Ent) (q : ByteArray) (w : World) (he : e.path.size ≤ maxLen) (hq : q.size ≤ maxLen) :
    Calls Tryz.prog 92 #[.agg #[.string e.path, .int .i64 e.kind, .string e.text, .bool e.opq], .string q] w fun r w' => r = .returned (.int .i64 (cmp e.p q.data.toList)) ∧ Grown w w' := by
  go_enter Tryz.func92, Tryz.ntmps92
  go_wp2_with (go_at_call 93; refine (compare_any _ _ _ he hq).mono ?_; rintro r w' ⟨rfl, n, rfl⟩)
  go_ret
  exact ⟨rfl, ((Grown.refl w).alloc _).drewN _⟩

def FindPost (t : List Ent) (q : List UInt8) (w : World) (e : Ending) (w' : World) : Prop :=
  ∃ i : Nat, e = .returned (.tuple #[.int .i64 i, .bool (isAt t q i)]) ∧ PlaceAt t q i ∧ Grown w w'

set_option maxHeartbeats 4000000 in
theorem search_any (t : List Ent) (q : ByteArray) (p : Option Addr) (cap : Nat) (w : World) (hL : Lies w p t) (hF : Fits t) (hn : t.length < 4611686018427387904) (hq : q.size ≤ maxLen) :
    Calls Tryz.prog 91 #[.slice p t.length cap, .string q, .func (.func 92) #[] #[]] w (FindPost t q.data.toList w) := by
  have HF : Aside (Fits t) := hF
  have HL : Aside (Lies w p t) := hL
  clear hL hF
  obtain ⟨n, hnl⟩ : ∃ n, n = t.length := ⟨_, rfl⟩
  have HN : Aside (n = t.length) := hnl
  rw [← hnl] at hn ⊢
  clear hnl
  go_enter Tryz.func91, Tryz.ntmps91
  go_wp2
  go_loopg [9, 10] n (fun kx s9 s10 wr => ∃ lo hi : Nat, s9 = .int .i64 lo ∧ s10 = .int .i64 hi ∧ lo ≤ hi ∧ hi ≤ n ∧ hi - lo ≤ kx ∧ Aside (Grown w wr) ∧
    Aside ((∀ (h : 0 < lo) (h' : lo - 1 < t.length), cmp (t[lo - 1]'h').p q.data.toList < 0) ∧ (∀ (h : hi < t.length), 0 ≤ cmp (t[hi]'h).p q.data.toList)))
  case atStart => exact ⟨0, n, rfl, rfl, Nat.zero_le _, Nat.le_refl _, by omega, Grown.refl w, (⟨fun h => absurd h (Nat.not_lt_zero _), fun h => by have := HN.out; omega⟩ : (∀ (h : 0 < 0) (h' : 0 - 1 < t.length), cmp (t[0 - 1]'h').p q.data.toList < 0) ∧ (∀ (h : n < t.length), 0 ≤ cmp (t[n]'h).p q.data.toList))⟩
  case round =>
    obtain ⟨lo, hi, rfl, rfl, hlh, hin, hg, S1, I⟩ := hrel
    by_cases hlt : lo < hi
    · obtain ⟨y, hy⟩ : ∃ y, t[(lo + hi) / 2]? = some y := ⟨_, List.getElem?_eq_getElem (by have := HN.out; omega)⟩
      have Y : Aside (t[(lo + hi) / 2]? = some y) := hy
      rcases HL.out with h0 | ⟨b, off, rfl, hb, hc⟩
      · rw [h0] at hy; simp at hy
      obtain ⟨c0, c1, c2, c3⟩ := Lies.cells hc hb S1.out.below hy
      have hyp := (HF.out.at hy).1
      clear hc hy
      have hcl := fun W => cmpE_any y q W hyp hq
      have HI1 : Aside (cmp y.p q.data.toList < 0 → ∀ (h : 0 < (lo + hi) / 2 + 1) (h' : (lo + hi) / 2 + 1 - 1 < t.length), cmp (t[(lo + hi) / 2 + 1 - 1]'h').p q.data.toList < 0) := fun h1 _ h' => by
        have := (List.getElem?_eq_some_iff.1 Y.out).2; simp only [Nat.add_sub_cancel] at h' ⊢; rw [this]; exact h1
      have HI2 : Aside (¬ cmp y.p q.data.toList < 0 → ∀ (h : (lo + hi) / 2 < t.length), 0 ≤ cmp (t[(lo + hi) / 2]'h).p q.data.toList) := fun h1 h => by
        have := (List.getElem?_eq_some_iff.1 Y.out).2; rw [this]; omega
      generalize cmp y.p q.data.toList = c at hcl HI1 HI2
      by_cases hyx : c < 0
      · go_wp2_with (go_at_call 92; refine (hcl _).mono ?_; rintro e w' ⟨rfl, hgr⟩)
        go_roundg (hi - ((lo + hi) / 2 + 1))
        case measure => omega
        case rel =>
          exact ⟨(lo + hi) / 2 + 1, hi, by rw [show ((lo : Int) + (hi : Int)) / 2 + 1 = (((lo + hi) / 2 + 1 : Nat) : Int) by omega], rfl, by omega, hin, Nat.le_refl _, S1.out.trans hgr, (⟨HI1.out hyx, I.out.2⟩ : _ ∧ _)⟩
      · go_wp2_with (go_at_call 92; refine (hcl _).mono ?_; rintro e w' ⟨rfl, hgr⟩)
        go_roundg ((lo + hi) / 2 - lo)
        case measure => omega
        case rel =>
          exact ⟨lo, (lo + hi) / 2, rfl, by rw [show ((lo : Int) + (hi : Int)) / 2 = (((lo + hi) / 2 : Nat) : Int) by omega], by omega, by omega, Nat.le_refl _, S1.out.trans hgr, (⟨I.out.1, HI2.out hyx⟩ : _ ∧ _)⟩
    · obtain rfl : hi = lo := by omega
      have PL : Aside (PlaceAt t q.data.toList hi) := ⟨by have := HN.out; omega, I.out.1, I.out.2⟩
      by_cases hlen : hi < n
      · obtain ⟨y, hy⟩ : ∃ y, t[hi]? = some y := ⟨_, List.getElem?_eq_getElem (by have := HN.out; omega)⟩
        have Y : Aside (t[hi]? = some y) := hy
        rcases HL.out with h0 | ⟨b, off, rfl, hb, hc⟩
        · rw [h0] at hy; simp at hy
        obtain ⟨c0, c1, c2, c3⟩ := Lies.cells hc hb S1.out.below hy
        have hyp := (HF.out.at hy).1
        clear hc hy
        have hcl := fun W => cmpE_any y q W hyp hq
        have HA : Aside (isAt t q.data.toList hi = decide (cmp y.p q.data.toList = 0)) := by
          obtain ⟨h1, h2⟩ := List.getElem?_eq_some_iff.1 Y.out
          show _ = _
          rw [isAt, dif_pos h1, h2, Bool.eq_iff_iff]; simp [cmp_zero]
        generalize cmp y.p q.data.toList = c at hcl HA
        have hlz : (hi : Int) < (n : Int) := by omega
        by_cases hyx : c = 0
        · go_wp2_with (go_at_call 92; refine (hcl _).mono ?_; rintro e w' ⟨rfl, hgr⟩)
          go_ret2
          exact ⟨hi, by rw [HA.out]; simp [hyx], PL.out, S1.out.trans hgr⟩
        · go_wp2_with (go_at_call 92; refine (hcl _).mono ?_; rintro e w' ⟨rfl, hgr⟩)
          go_ret2
          exact ⟨hi, by rw [HA.out]; simp [hyx], PL.out, S1.out.trans hgr⟩
      · have hlz : ¬ (hi : Int) < (n : Int) := by omega
        have HA : Aside (isAt t q.data.toList hi = false) := by show _ = _; rw [isAt, dif_neg]; have := HN.out; omega
        go_wp2
        go_ret2
        exact ⟨hi, by rw [HA.out]; first | rfl | (simp; omega) | (simp [hlz]; done) | simp, PL.out, S1.out⟩

theorem find_any (t : List Ent) (q : ByteArray) (p : Option Addr) (cap : Nat) (w : World) (hL : Lies w p t) (hF : Fits t) (hn : t.length < 4611686018427387904) (hq : q.size ≤ maxLen) :
    Calls Tryz.prog 56 #[.slice p t.length cap, .string q] w (FindPost t q.data.toList w) := by
  have hs := fun W (hg : Grown w W) => search_any t q p cap W (hL.grown hg) hF hn hq
  go_enter Tryz.func56, Tryz.ntmps56
  go_wp2_with (go_at_call 91; refine (hs _ (Grown.refl _)).mono ?_; rintro e w' ⟨i, rfl, hp, hg⟩)
  go_ret2
  exact ⟨i, rfl, hp, hg⟩
end Go.Proofs.YtampldoimpfjgaaGreatDoor
namespace Go.Proofs.YtampldoimpfjgaaGreatDoor
open Go.RowKit PM Go.Sort
set_option linter.unusedVariables false

theorem isAt_cases (t : List Ent) (q : List UInt8) (i : Nat) : (isAt t q i = true ∧ ∃ y, t[i]? = some y ∧ y.p = q) ∨ isAt t q i = false := by
  cases h : isAt t q i with
  | false => exact .inr rfl
  | true =>
    obtain ⟨h1, h2⟩ := isAt_iff.1 h
    exact .inl ⟨rfl, _, List.getElem?_eq_getElem h1, h2⟩
/-- A block of four cells of the call's own. -/
theorem new4 {w W : World} {a b c d : Value} {t : TypeId} {B : Nat} (hB : w.heap.size < B) (h : Below B (w.alloc (.cells #[a, b, c, d] t)) W) :
    (W.cell? ⟨w.heap.size, 0, none⟩ = some a ∧ W.cell? ⟨w.heap.size, 1, none⟩ = some b ∧ W.cell? ⟨w.heap.size, 2, none⟩ = some c ∧ W.cell? ⟨w.heap.size, 3, none⟩ = some d) ∧
    (W.frozen? ⟨w.heap.size, 0, none⟩ = false ∧ W.frozen? ⟨w.heap.size, 1, none⟩ = false ∧ W.frozen? ⟨w.heap.size, 2, none⟩ = false ∧ W.frozen? ⟨w.heap.size, 3, none⟩ = false) := by
  have hc := fun i => h.cell (p := ⟨w.heap.size, i, none⟩) hB
  have hf := fun i => h.frozen (p := ⟨w.heap.size, i, none⟩) hB
  refine ⟨⟨(hc 0).trans ?_, (hc 1).trans ?_, (hc 2).trans ?_, (hc 3).trans ?_⟩, ⟨(hf 0).trans ?_, (hf 1).trans ?_, (hf 2).trans ?_, (hf 3).trans ?_⟩⟩ <;> simp
theorem new2 {w W : World} {a b : Value} {t : TypeId} {B : Nat} (hB : w.heap.size < B) (h : Below B (w.alloc (.cells #[a, b] t)) W) :
    (W.cell? ⟨w.heap.size, 0, none⟩ = some a ∧ W.cell? ⟨w.heap.size, 1, none⟩ = some b) ∧ (W.frozen? ⟨w.heap.size, 0, none⟩ = false ∧ W.frozen? ⟨w.heap.size, 1, none⟩ = false) := by
  have hc := fun i => h.cell (p := ⟨w.heap.size, i, none⟩) hB
  have hf := fun i => h.frozen (p := ⟨w.heap.size, i, none⟩) hB
  refine ⟨⟨(hc 0).trans ?_, (hc 1).trans ?_⟩, ⟨(hf 0).trans ?_, (hf 1).trans ?_⟩⟩ <;> simp

theorem isDir_cells (p : ByteArray) (k : Int) (t : ByteArray) (o : Bool) (w : World) : Calls Tryz.prog 65 #[.agg #[.string p, .int .i64 k, .string t, .bool o]] w fun r w' => r = .returned (.bool (k == 2)) ∧ Grown w w' := by
  go_enter Tryz.func65, Tryz.ntmps65
  go_wp2
  go_ret
  exact ⟨rfl, (Grown.refl w).alloc _⟩
theorem isDir_any (e : Ent) (w : World) : Calls Tryz.prog 65 #[.agg #[.string e.path, .int .i64 e.kind, .string e.text, .bool e.opq]] w fun r w' => r = .returned (.bool (e.kind == 2)) ∧ Grown w w' := by
  go_enter Tryz.func65, Tryz.ntmps65
  go_wp2
  go_ret
  exact ⟨rfl, (Grown.refl w).alloc _⟩

def zeroE : Ent := ⟨⟨#[]⟩, 0, ⟨#[]⟩, false⟩
def GetPost (t : List Ent) (q : List UInt8) (w : World) (r : Ending) (w' : World) : Prop :=
  ∃ (x : Ent) (b : Bool), r = .returned (.tuple #[.agg #[.string x.path, .int .i64 x.kind, .string x.text, .bool x.opq], .bool b]) ∧ (Sorted t → getL t q = if b then some x else none) ∧ (b = false → x = zeroE) ∧ (b = true → x = dirE ∨ x ∈ t) ∧ Below w.heap.size w w'
theorem getL_found {t : List Ent} {q : List UInt8} {i : Nat} {y : Ent} (hq : q ≠ []) (hp : PlaceAt t q i) (hy : t[i]? = some y) (hyq : y.p = q) : Sorted t → getL t q = if true then some y else none := fun hs => by
  have := getL_of hs (List.mem_of_getElem? hy) (by rw [hyq]; exact hq)
  rw [hyq] at this; simpa using this
theorem getL_missed {t : List Ent} {q : List UInt8} {i : Nat} {y : Ent} (hq : q ≠ []) (hp : PlaceAt t q i) (hb : isAt t q i = false) : Sorted t → getL t q = if false then some y else none := fun hs => by
  have : getL t q = none := getL_none_of hq fun e he hep => by
    have := (hp.there hs).2 ⟨e, he, hep⟩
    rw [hb] at this; cases this
  simpa using this

/-- What a search leaves: it is there, with its cells, or it is not. -/
theorem found_cases {w W : World} {b off : Nat} {t : List Ent} {n : Nat} (hn : n = t.length) (hc : ∀ j e, t[j]? = some e → ∀ i v, (encE e)[i]? = some v → w.cell? ⟨b, off + j * 4 + i, none⟩ = some v) (hb : b < w.heap.size) (hW : Below w.heap.size w W) (q : List UInt8) (i : Nat) :
    (isAt t q i = true ∧ ∃ y, Aside (t[i]? = some y ∧ y.p = q) ∧ i < n ∧ W.cell? ⟨b, off + i * 4, none⟩ = some (.string y.path) ∧ W.cell? ⟨b, off + i * 4 + 1, none⟩ = some (.int .i64 y.kind) ∧ W.cell? ⟨b, off + i * 4 + 2, none⟩ = some (.string y.text) ∧ W.cell? ⟨b, off + i * 4 + 3, none⟩ = some (.bool y.opq)) ∨ isAt t q i = false := by
  rcases isAt_cases t q i with ⟨h, y, hy, hyp⟩ | h
  · exact .inl ⟨h, y, ⟨hy, hyp⟩, by rw [hn]; exact (List.getElem?_eq_some_iff.1 hy).1, Lies.cells hc hb hW hy⟩
  · exact .inr h
theorem own_store4 {w W : World} {o : Obj} (hB : Below (w.heap.size + 1) (w.alloc o) W) (a b c d : Value) :
    Below w.heap.size w ((((W.setCell ⟨w.heap.size, 0, none⟩ a).setCell ⟨w.heap.size, 1, none⟩ b).setCell ⟨w.heap.size, 2, none⟩ c).setCell ⟨w.heap.size, 3, none⟩ d) :=
  (((((Below.refl w.heap.size w).alloc (Nat.le_refl _) _).trans (hB.mono (by simp))).setCell (Nat.le_refl _) _).setCell (Nat.le_refl _) _ |>.setCell (Nat.le_refl _) _ |>.setCell (Nat.le_refl _) _)

set_option maxHeartbeats 1000000 in
theorem get_any (t : List Ent) (q : ByteArray) (p : Option Addr) (cap : Nat) (w : World) (hL : Lies w p t) (hF : Fits t) (hn : t.length < 4611686018427387904) (hq : q.size ≤ maxLen) :
    Calls Tryz.prog 23 #[.slice p t.length cap, .string q] w (GetPost t q.data.toList w) := by
  by_cases h0 : q.data.toList = []
  · have h1 := empty_of h0
    have HG : Aside (getL t q.data.toList = some dirE) := by show _ = _; rw [h0, getL_nil]
    clear h0
    go_enter Tryz.func23, Tryz.ntmps23
    go_wp2
    refine bodyPost_ret (v := .tuple #[.agg #[.string dirE.path, .int .i64 dirE.kind, .string dirE.text, .bool dirE.opq], .bool true]) (by simp [results, Tryz.results23, go_sem, dirE]; rfl) rfl ?_
    exact ⟨dirE, true, rfl, fun _ => HG.out, (fun h => by cases h), fun _ => .inl rfl, (Below.refl _ _).alloc (Nat.le_refl _) _⟩
  · have h1 := empty_not h0
    have H0 : Aside (q.data.toList ≠ []) := h0
    clear h0
    have hs := fun W (hg : Grown w W) => find_any t q p cap W (hL.grown hg) hF hn hq
    rcases hL with h | ⟨b, off, rfl, hb, hc⟩
    · have HT : Aside (t = []) := h
      obtain ⟨n, hnl⟩ : ∃ n, n = t.length := ⟨_, rfl⟩
      rw [← hnl] at hs ⊢
      clear h
      go_enter Tryz.func23, Tryz.ntmps23
      clear hnl
      go_wp2_with (go_at_call 56; refine (hs _ ((Grown.refl _).alloc _)).mono ?_; rintro e w' ⟨i, rfl, hpl, hg⟩; have hib : isAt t q.data.toList i = false := (by rw [HT.out]; rfl); have HB : Aside (Grown _ w') := hg; obtain ⟨⟨c0, c1, c2, c3⟩, ⟨f0, f1, f2, f3⟩⟩ := new4 (by simp) hg.below; have HP : Aside (PlaceAt _ _ _) := hpl; clear hpl hg)
      refine bodyPost_ret (v := .tuple #[.agg #[.string zeroE.path, .int .i64 zeroE.kind, .string zeroE.text, .bool zeroE.opq], .bool false]) (by simp [results, Tryz.results23, go_sem, zeroE, c0, c1, c2, c3]) rfl ?_
      exact ⟨zeroE, false, rfl, getL_missed H0.out HP.out hib, fun _ => rfl, (fun h => by cases h), own_store4 (HB.out.below.mono (by simp)) _ _ _ _⟩
    · have HC : Aside (∀ j e, t[j]? = some e → ∀ i v, (encE e)[i]? = some v → w.cell? ⟨b, off + j * 4 + i, none⟩ = some v) := hc
      obtain ⟨n, hnl⟩ : ∃ n, n = t.length := ⟨_, rfl⟩
      have HN : Aside (n = t.length) := hnl
      rw [← hnl] at hs hn ⊢
      clear hc hnl
      have hne : b ≠ w.heap.size := by omega
      go_enter Tryz.func23, Tryz.ntmps23
      go_wp2_with (go_at_call 56; refine (hs _ ((Grown.refl _).alloc _)).mono ?_; rintro e w' ⟨i, rfl, hpl, hg⟩; have HB : Aside (Grown _ w') := hg; obtain ⟨⟨c0, c1, c2, c3⟩, ⟨f0, f1, f2, f3⟩⟩ := new4 (by simp) hg.below; have HP : Aside (PlaceAt _ _ _) := hpl; clear hpl hg; rcases found_cases HN.out HC.out hb (((Grown.refl w).alloc _).trans HB.out).below q.data.toList i with ⟨hib, y, HY, hin, d0, d1, d2, d3⟩ | hib)
      · refine bodyPost_ret (v := .tuple #[.agg #[.string y.path, .int .i64 y.kind, .string y.text, .bool y.opq], .bool true]) (by simp [results, Tryz.results23, go_sem, c0, c1, c2, c3]) rfl ?_
        exact ⟨y, true, rfl, getL_found H0.out HP.out HY.out.1 HY.out.2, (fun h => by cases h), fun _ => .inr (List.mem_of_getElem? HY.out.1), own_store4 (HB.out.below.mono (by simp)) _ _ _ _⟩
      · refine bodyPost_ret (v := .tuple #[.agg #[.string zeroE.path, .int .i64 zeroE.kind, .string zeroE.text, .bool zeroE.opq], .bool false]) (by simp [results, Tryz.results23, go_sem, zeroE, c0, c1, c2, c3]) rfl ?_
        exact ⟨zeroE, false, rfl, getL_missed H0.out HP.out hib, fun _ => rfl, (fun h => by cases h), own_store4 (HB.out.below.mono (by simp)) _ _ _ _⟩

def NumPost (f : Int → Prop) (w : World) (r : Ending) (w' : World) : Prop := ∃ n : Int, r = .returned (.int .i64 n) ∧ f n ∧ Below w.heap.size w w'
theorem noDir_any (t : List Ent) (q : ByteArray) (p : Option Addr) (cap : Nat) (w : World) (hL : Lies w p t) (hF : Fits t) (hn : t.length < 4611686018427387904) (hq : q.size ≤ maxLen) :
    Calls Tryz.prog 95 #[.slice p t.length cap, .string q] w (NumPost (fun n => Sorted t → n = noDirL t q.data.toList) w) := by
  have hs := get_any t q p cap w hL hF hn hq
  go_enter Tryz.func95, Tryz.ntmps95
  go_wp2_with (first
    | (go_at_call 23; refine hs.mono ?_; clear hs; rintro e w1 ⟨x, b, rfl, hg, hz, hx, hB⟩; have HG : Aside (Sorted t → getL t q.data.toList = if b then some x else none) := hg; clear hg hz hx; cases b)
    | (go_at_call 65; refine (isDir_any x _).mono ?_; rintro e w2 ⟨rfl, hG⟩))
  · go_ret
    exact ⟨6, rfl, (fun h => by rw [noDirL, HG.out h]; rfl), hB.alloc hB.size _⟩
  · have hk : (x.kind == 2) = false := by simpa using (by assumption : (!(x.kind == 2)) = true)
    go_ret
    exact ⟨10, rfl, (fun h => by rw [noDirL, HG.out h]; simp at hk ⊢; simp [hk]), hB.alloc hB.size _ |>.trans (hG.below.mono (by have := hB.size; simp; omega))⟩
  · have hk : (x.kind == 2) = true := by simpa using (by assumption : (!(x.kind == 2)) = false)
    go_ret
    exact ⟨0, rfl, (fun h => by rw [noDirL, HG.out h]; simp at hk ⊢; simp [hk]), hB.alloc hB.size _ |>.trans (hG.below.mono (by have := hB.size; simp; omega))⟩
theorem noDirFor_any (t : List Ent) (q : ByteArray) (p : Option Addr) (cap : Nat) (w : World) (hL : Lies w p t) (hF : Fits t) (hn : t.length < 4611686018427387904) (hq : q.size ≤ maxLen) (hq62 : q.size < 4611686018427387904) :
    Calls Tryz.prog 64 #[.slice p t.length cap, .string q] w (NumPost (fun n => Sorted t → n = noDirL t (dirOf q.data.toList)) w) := by
  have hcut := cut_any q w hq62
  have hs := fun W (d : ByteArray) (hd : d.size ≤ maxLen) (hg : Below w.heap.size w W) => noDir_any t d p cap W (hL.kept hg) hF hn hd
  go_enter Tryz.func64, Tryz.ntmps64
  go_wp2_with (first
    | (go_at_call 69; refine hcut.mono ?_; clear hcut; rintro e w1 ⟨⟨d, nm, rfl, hd, hnn⟩, m, rfl⟩)
    | (go_at_call 95; refine (hs _ d ?_ ?_).mono ?_))
  · have := dirOf_le q.data.toList
    have h1 : d.size ≤ q.size := by rw [← szl d, ← szl q, hd]; exact this
    exact Nat.le_trans h1 hq
  · exact below_drewN (Below.refl _ _) _
  · rintro e w' ⟨r, rfl, h, hB⟩
    go_wp2
    go_ret
    exact ⟨r, rfl, (fun g => by rw [h g, hd]; rfl), Below.onto (below_drewN (Below.refl _ _) _) hB⟩
def missL (t : List Ent) (q : List UInt8) : Int := if ∃ e ∈ t, e.p = q then 0 else 6
theorem missing_any (t : List Ent) (q : ByteArray) (p : Option Addr) (cap : Nat) (w : World) (hL : Lies w p t) (hF : Fits t) (hn : t.length < 4611686018427387904) (hq : q.size ≤ maxLen) :
    Calls Tryz.prog 73 #[.slice p t.length cap, .string q] w (NumPost (fun n => Sorted t → n = missL t q.data.toList) w) := by
  have hs := find_any t q p cap w hL hF hn hq
  go_enter Tryz.func73, Tryz.ntmps73
  go_wp2_with (go_at_call 56; refine hs.mono ?_; clear hs; rintro e w1 ⟨i, rfl, hp, hB⟩; have HP : Aside (PlaceAt _ _ _) := hp; clear hp; cases hib : isAt t q.data.toList i)
  · go_ret
    exact ⟨6, rfl, (fun h => by rw [missL, if_neg]; intro g; have := (HP.out.there h).2 g; rw [hib] at this; cases this), hB.below⟩
  · go_ret
    exact ⟨0, rfl, (fun h => by rw [missL, if_pos]; exact (HP.out.there h).1 hib), hB.below⟩
end Go.Proofs.YtampldoimpfjgaaGreatDoor
namespace Go.Proofs.YtampldoimpfjgaaGreatDoor
open Go.RowKit PM Go.Sort
set_option linter.unusedVariables false

/-- The first entry of which a predicate holds. -/
def IdxPost (pr : Ent → Bool) (t : List Ent) (w : World) (r : Ending) (w' : World) : Prop :=
  Grown w w' ∧ ((r = .returned (.int .i64 (-1)) ∧ ∀ x ∈ t, pr x = false) ∨ ∃ (k : Nat) (y : Ent), t[k]? = some y ∧ r = .returned (.int .i64 k) ∧ pr y = true ∧ ∀ x ∈ t.take k, pr x = false)
theorem take_false {pr : Ent → Bool} {t : List Ent} {k : Nat} {y : Ent} (hy : t[k]? = some y) (hp : pr y = false) (h : ∀ x ∈ t.take k, pr x = false) : ∀ x ∈ t.take (k + 1), pr x = false := by
  obtain ⟨h1, h2⟩ := List.getElem?_eq_some_iff.1 hy
  intro x hx
  rw [List.take_succ_eq_append_getElem h1] at hx
  rcases List.mem_append.1 hx with hx | hx
  · exact h x hx
  · simp at hx; rw [hx, h2]; exact hp

set_option maxHeartbeats 2000000 in
theorem index_any (pr : Ent → Bool) (g : Nat) (lb : Array Value) (eg : ∀ args w, (callFunc g args).run Tryz.prog w = .ok (.enter g args) w) (t : List Ent) (p : Option Addr) (cap : Nat) (w : World) (hL : Lies w p t) (hn : t.length < 4611686018427387904)
    (hp : ∀ W x, Grown w W → x ∈ t → Calls Tryz.prog g (#[.agg #[.string x.path, .int .i64 x.kind, .string x.text, .bool x.opq]] ++ lb) W fun e w' => e = .returned (.bool (pr x)) ∧ Grown W w') :
    Calls Tryz.prog 102 #[.slice p t.length cap, .func (.func g) #[] lb] w (IdxPost pr t w) := by
  have HP : Aside _ := hp
  have HL : Aside (Lies w p t) := hL
  clear hL hp
  obtain ⟨n, hnl⟩ : ∃ n, n = t.length := ⟨_, rfl⟩
  have HN : Aside (n = t.length) := hnl
  rw [← hnl] at hn ⊢
  clear hnl
  go_enter Tryz.func102, Tryz.ntmps102
  go_wp2
  go_loopg [5, 8] n (fun gg _ s8 wr => ∃ kk : Nat, kk ≤ n ∧ n - kk ≤ gg ∧ s8 = .int .i64 kk ∧ Aside (Grown w wr) ∧ Aside (∀ x ∈ t.take kk, pr x = false))
  case atStart => exact ⟨0, Nat.zero_le _, by omega, rfl, Grown.refl w, by intro x hx; simp at hx⟩
  case round =>
    obtain ⟨kk, hkk, hg, rfl, BW, A⟩ := hrel
    by_cases hlt : kk < n
    · have hltz : (kk : Int) < (n : Int) := by omega
      obtain ⟨y, hy⟩ : ∃ y, t[kk]? = some y := ⟨_, List.getElem?_eq_getElem (by have := HN.out; omega)⟩
      have Y : Aside (t[kk]? = some y) := hy
      have hcall := HP.out wr y BW.out (List.mem_of_getElem? hy)
      rcases HL.out with h0 | ⟨b, off, rfl, hb, hc⟩
      · rw [h0] at hy; simp at hy
      obtain ⟨c0, c1, c2, c3⟩ := Lies.cells hc hb BW.out.below hy
      clear hc hy
      cases hq : pr y with
      | true =>
        rw [hq] at hcall
        go_wp2_with (go_at_fn g; refine hcall.mono ?_; rintro e w' ⟨rfl, hb'⟩)
        go_ret
        exact ⟨BW.out.trans hb', .inr ⟨kk, y, Y.out, rfl, hq, A.out⟩⟩
      | false =>
        rw [hq] at hcall
        go_wp2_with (go_at_fn g; refine hcall.mono ?_; rintro e w' ⟨rfl, hb'⟩)
        go_roundg (n - (kk + 1))
        case measure => omega
        case rel => exact ⟨kk + 1, by omega, by omega, by go_num, BW.out.trans hb', take_false Y.out hq A.out⟩
    · have hltz : ¬ (kk : Int) < (n : Int) := by omega
      have : kk = n := by omega
      subst this
      go_wp2
      go_ret
      refine ⟨BW.out, .inl ⟨rfl, fun x hx => A.out x ?_⟩⟩
      rw [List.take_of_length_le (by rw [HN.out]; exact Nat.le_refl _)]; exact hx

theorem contains_any (pr : Ent → Bool) (g : Nat) (lb : Array Value) (eg : ∀ args w, (callFunc g args).run Tryz.prog w = .ok (.enter g args) w) (t : List Ent) (p : Option Addr) (cap : Nat) (w : World) (hL : Lies w p t) (hn : t.length < 4611686018427387904)
    (hp : ∀ W x, Grown w W → x ∈ t → Calls Tryz.prog g (#[.agg #[.string x.path, .int .i64 x.kind, .string x.text, .bool x.opq]] ++ lb) W fun e w' => e = .returned (.bool (pr x)) ∧ Grown W w') :
    Calls Tryz.prog 99 #[.slice p t.length cap, .func (.func g) #[] lb] w fun e w' => e = .returned (.bool (t.any pr)) ∧ Grown w w' := by
  have hs := index_any pr g lb eg t p cap w hL hn hp
  clear hp
  go_enter Tryz.func99, Tryz.ntmps99
  go_wp2_with (go_at_call 102; refine hs.mono ?_; clear hs; rintro e w' ⟨hG, ⟨rfl, ha⟩ | ⟨k, y, hy, rfl, hpy, ha⟩⟩)
  · go_ret
    refine ⟨ret_bool ?_, hG⟩
    have : t.any pr = false := List.any_eq_false.2 fun x hx => by simp [ha x hx]
    rw [this]
  · go_ret
    refine ⟨ret_bool ?_, hG⟩
    have : t.any pr = true := List.any_eq_true.2 ⟨y, List.mem_of_getElem? hy, hpy⟩
    rw [this]

theorem fullP_any (e : Ent) (q : ByteArray) (B : Nat) (w : World) (he : e.path.size ≤ maxLen) (hq : q.size ≤ maxLen) (hB : B < w.heap.size) (hc : w.cell? ⟨B, 0, none⟩ = some (.string q)) :
    Calls Tryz.prog 100 #[.agg #[.string e.path, .int .i64 e.kind, .string e.text, .bool e.opq], .pointer (some ⟨B, 0, none⟩)] w fun r w' => r = .returned (.bool (under e.p q.data.toList)) ∧ Grown w w' := by
  have hne : B ≠ w.heap.size := by omega
  go_enter Tryz.func100, Tryz.ntmps100
  go_wp2_with (go_at_call 83; refine (under_any _ _ _ he hq).mono ?_; rintro r w' ⟨rfl, rfl⟩)
  go_ret
  exact ⟨rfl, (Grown.refl w).alloc _⟩
def fullL (t : List Ent) (q : List UInt8) : Int := if t.any (fun e => under e.p q) then 11 else 0
theorem full_any (t : List Ent) (q : ByteArray) (p : Option Addr) (cap : Nat) (w : World) (hL : Lies w p t) (hF : Fits t) (hn : t.length < 4611686018427387904) (hq : q.size ≤ maxLen) :
    Calls Tryz.prog 74 #[.slice p t.length cap, .string q] w fun r w' => r = .returned (.int .i64 (fullL t q.data.toList)) ∧ Below w.heap.size w w' := by
  have eg : ∀ args w, (callFunc 100 args).run Tryz.prog w = .ok (.enter 100 args) w := enters_of Tryz.func100 (by kernel_rfl) rfl
  have hs := contains_any (fun e => under e.p q.data.toList) 100 #[.pointer (some ⟨w.heap.size, 0, none⟩)] eg t p cap (w.alloc (.cells #[.string q] 9)) (hL.grown ((Grown.refl w).alloc _)) hn
    (fun W x hG hx => fullP_any x q w.heap.size W (hF x hx).1 hq (by have := hG.size; simp at this; omega) ((hG.cell (p := ⟨w.heap.size, 0, none⟩) (by simp)).trans (by simp)))
  clear eg
  have HA : Aside (fullL t q.data.toList = if t.any (fun e => under e.p q.data.toList) then 11 else 0) := rfl
  generalize t.any (fun e => under e.p q.data.toList) = bb at hs HA
  cases bb
  · go_enter Tryz.func74, Tryz.ntmps74
    go_wp2_with (go_at_call 99; refine hs.mono ?_; clear hs; rintro e w' ⟨rfl, hG⟩)
    go_ret
    exact ⟨ret_int (by rw [HA.out]; rfl), ((Grown.refl w).alloc _ |>.trans hG).below⟩
  · go_enter Tryz.func74, Tryz.ntmps74
    go_wp2_with (go_at_call 99; refine hs.mono ?_; clear hs; rintro e w' ⟨rfl, hG⟩)
    go_ret
    exact ⟨ret_int (by rw [HA.out]; rfl), ((Grown.refl w).alloc _ |>.trans hG).below⟩
end Go.Proofs.YtampldoimpfjgaaGreatDoor
namespace Go.Proofs.YtampldoimpfjgaaGreatDoor
open Go.RowKit PM Go.Sort
set_option linter.unusedVariables false

def orL : List Int → Int
  | [] => 0
  | x :: r => if x = 0 then orL r else x
theorem or_any (xs : List Int) (B cap : Nat) (w : World) (hn : xs.length ≤ 100) (hc : ∀ j x, xs[j]? = some x → w.cell? ⟨B, j, none⟩ = some (.int .i64 x)) :
    Calls Tryz.prog 61 #[.slice (some ⟨B, 0, none⟩) xs.length cap] w fun e w' => e = .returned (.int .i64 (orL xs)) ∧ w' = w := by
  have HC : Aside (∀ j x, xs[j]? = some x → w.cell? ⟨B, j, none⟩ = some (.int .i64 x)) := hc
  obtain ⟨n, hnl⟩ : ∃ n, n = xs.length := ⟨_, rfl⟩
  have HN : Aside (n = xs.length) := hnl
  rw [← hnl] at hn ⊢
  clear hnl hc
  go_enter Tryz.func61, Tryz.ntmps61
  go_wp2
  go_loop [8] (fun i => ∃ k : Nat, k ≤ n ∧ i = .int .i64 k ∧ Aside (orL (xs.drop k) = orL xs)) (fun i => n - (intOf i).toNat)
  case atStart => exact ⟨0, Nat.zero_le _, rfl, by show _ = _; rfl⟩
  case round =>
    obtain ⟨k, hk, rfl, HA⟩ := hrel
    by_cases hlt : k < n
    · have hltz : (k : Int) < (n : Int) := by omega
      obtain ⟨y, hy⟩ : ∃ y, xs[k]? = some y := ⟨_, List.getElem?_eq_getElem (by have := HN.out; omega)⟩
      have hcell := HC.out k y hy
      have HD : Aside (orL (xs.drop k) = if y = 0 then orL (xs.drop (k + 1)) else y) := by
        obtain ⟨h1, h2⟩ := List.getElem?_eq_some_iff.1 hy
        show _ = _
        rw [List.drop_eq_getElem_cons h1, orL, h2]
      clear hy
      by_cases h0 : y = 0
      · have HE : Aside (orL (xs.drop (k + 1)) = orL xs) := by show _ = _; rw [← HA.out, HD.out, if_pos h0]
        clear HD HA
        go_wp2
        exact ⟨⟨k + 1, by omega, by go_num, HE⟩, by simp [intOf]; omega⟩
      · have HE : Aside (orL xs = y) := by show _ = _; rw [← HA.out, HD.out, if_neg h0]
        clear HD HA
        go_wp2
        go_ret
        exact ⟨ret_int HE.out.symm, rfl⟩
    · have hltz : ¬ (k : Int) < (n : Int) := by omega
      have HE : Aside (orL xs = 0) := by show _ = _; rw [← HA.out, List.drop_of_length_le (by have := HN.out; omega)]; rfl
      clear HA
      go_wp2
      go_ret
      exact ⟨ret_int HE.out.symm, rfl⟩

theorem up1 {w W W2 : World} {o : Obj} (h : Below (w.heap.size + 1) (w.alloc o) W) (g : Below W.heap.size W W2) : Below (w.heap.size + 1) (w.alloc o) W2 := h.trans (g.mono (by have := h.size; simpa using this))
theorem base1 {w W : World} {o : Obj} (h : Below (w.heap.size + 1) (w.alloc o) W) : Below w.heap.size w W := ((Below.refl _ _).alloc (Nat.le_refl _) _).trans (h.mono (by omega))

/-- The ways through an entry. -/
def Ways (e : Ent) (layer : Bool) : Prop :=
  (wrongE e layer = 1 ∧ (((e.kind == 1) = false ∧ (e.kind == 2) = false ∧ (e.kind == 3) = false ∧ (e.kind == 4) = false ∧ (layer = true ∨ layer = false)) ∨ e.kind = 4 ∧ layer = false)) ∨
  ((e.kind = 1 ∨ e.kind = 2 ∨ e.kind = 3 ∨ e.kind = 4 ∧ layer = true) ∧
    ((wrongE e layer = 7 ∧ clean e.p = false) ∨
     (wrongE e layer = 4 ∧ clean e.p = true ∧ (100 : Int) < (e.text.size : Int)) ∨
     (clean e.p = true ∧ ¬ (100 : Int) < (e.text.size : Int) ∧
       ((wrongE e layer = 8 ∧ e.text.toList.isEmpty = false ∧ (e.kind = 2 ∨ e.kind = 4)) ∨
        (wrongE e layer = 8 ∧ e.text.toList.isEmpty = true ∧ e.kind = 3) ∨
        ((e.text.toList.isEmpty = false ∧ (e.kind = 1 ∨ e.kind = 3) ∨ e.text.toList.isEmpty = true ∧ (e.kind = 1 ∨ e.kind = 2 ∨ e.kind = 4)) ∧
          (wrongE e layer = 0 ∧ e.opq = false ∨ wrongE e layer = 8 ∧ e.opq = true ∧ layer = false ∨ wrongE e layer = 8 ∧ e.opq = true ∧ layer = true ∧ (e.kind = 1 ∨ e.kind = 3 ∨ e.kind = 4) ∨ wrongE e layer = 0 ∧ e.opq = true ∧ layer = true ∧ e.kind = 2))))))
theorem isEmpty_size (b : ByteArray) : b.toList.isEmpty = decide (b.size = 0) := by
  rw [Lib.toList_data, Bool.eq_iff_iff]
  rw [← szl b]
  cases b.data.toList <;> simp
theorem ways (e : Ent) (layer : Bool) : Ways e layer := by
  unfold Ways wrongE
  rw [isEmpty_size]
  by_cases h1 : e.kind = 1
  · cases layer <;> cases clean e.p <;> cases e.opq <;> by_cases h2 : 100 < e.text.size <;> by_cases h3 : e.text.size = 0 <;> simp [h1, h2, h3] <;> omega
  by_cases h1' : e.kind = 2
  · cases layer <;> cases clean e.p <;> cases e.opq <;> by_cases h2 : 100 < e.text.size <;> by_cases h3 : e.text.size = 0 <;> simp [h1', h2, h3] <;> omega
  by_cases h1'' : e.kind = 3
  · cases layer <;> cases clean e.p <;> cases e.opq <;> by_cases h2 : 100 < e.text.size <;> by_cases h3 : e.text.size = 0 <;> simp [h1'', h2, h3] <;> omega
  by_cases h1''' : e.kind = 4
  · cases layer <;> cases clean e.p <;> cases e.opq <;> by_cases h2 : 100 < e.text.size <;> by_cases h3 : e.text.size = 0 <;> simp [h1''', h2, h3] <;> omega
  · cases layer <;> simp [h1, h1', h1'', h1''']
end Go.Proofs.YtampldoimpfjgaaGreatDoor
namespace Go.Proofs.YtampldoimpfjgaaGreatDoor
open Go.RowKit PM Go.Sort
set_option linter.unusedVariables false

theorem nil_of {b : ByteArray} (h : b.toList.isEmpty = true) : b.toList = [] := by simpa using h
theorem not_nil_of {b : ByteArray} (h : b.toList.isEmpty = false) : ¬ b.toList = [] := by simpa using h
set_option maxHeartbeats 4000000 in
theorem wrongEntry_cells (p : ByteArray) (k : Int) (t : ByteArray) (o : Bool) (layer : Bool) (m : Int) (w : World) (he : p.size ≤ maxLen) (ht : t.size ≤ maxLen) (hm : w.cell? ⟨0, 0, none⟩ = some (.int .i64 m)) :
    Calls Tryz.prog 63 #[.agg #[.string p, .int .i64 k, .string t, .bool o], .bool layer] w fun r w' => r = .returned (.int .i64 (wrongE ⟨p, k, t, o⟩ layer)) ∧ Below w.heap.size w w' := by
  have hcl' := fun W (hB : Below w.heap.size w W) => clean_any p m W he (held hB hm)
  have hB1 : Below (w.heap.size + 1) (w.alloc (.cells #[.string p, .int .i64 k, .string t, .bool o] 28)) (w.alloc (.cells #[.string p, .int .i64 k, .string t, .bool o] 28)) := Below.refl _ _
  unfold maxLen at ht
  have hways := ways ⟨p, k, t, o⟩ layer
  unfold Ways at hways
  generalize wrongE ⟨p, k, t, o⟩ layer = r at hways ⊢
  simp only [Ent.p] at hways
  generalize clean p.data.toList = cl at hways hcl'
  rcases hways with ⟨hr, ⟨k1, k2, k3, k4, hl | hl⟩ | ⟨hk, hl⟩⟩ | ⟨hk | hk | hk | ⟨hk, hl⟩, ⟨hr, hc⟩ | ⟨hr, hc, hs⟩ | ⟨hc, hs, ⟨hr, h0, hkk⟩ | ⟨hr, h0, hkk⟩ | ⟨⟨h0, hkk⟩ | ⟨h0, hkk⟩, ⟨hr, ho⟩ | ⟨hr, ho, hl'⟩ | ⟨hr, ho, hl', hk2⟩ | ⟨hr, ho, hl', hk2⟩⟩⟩⟩
  all_goals try (exfalso; omega)
  all_goals (try subst hk)
  all_goals (try subst hl)
  all_goals try contradiction
  all_goals (try subst hl')
  all_goals (try subst ho)
  all_goals (try subst hc)
  all_goals (try clear hkk)
  all_goals (try clear hk2)
  all_goals try have h0' := nil_of h0
  all_goals try have h0' := not_nil_of h0
  all_goals have HR : Aside (_ = _) := hr
  all_goals clear hr
  all_goals
    go_enter Tryz.func63, Tryz.ntmps63
    go_wp2_with (first
      | (go_at_call 65; refine (isDir_cells _ _ _ _ _).mono ?_; rintro rr w2 ⟨rfl, hG⟩; replace hB1 := up1 hB1 hG.below; clear hG; obtain ⟨⟨c0, c1, c2, c3⟩, _⟩ := new4 (Nat.lt_succ_self _) hB1)
      | (go_at_call 22; refine (hcl' _ (base1 hB1)).mono ?_; rintro rr w3 ⟨rfl, hN⟩; replace hB1 := up1 hB1 hN; clear hN; obtain ⟨⟨c0, c1, c2, c3⟩, _⟩ := new4 (Nat.lt_succ_self _) hB1))
    go_ret
    exact ⟨ret_int HR.out.symm, base1 hB1⟩
theorem wrongEntry_any (e : Ent) (layer : Bool) (m : Int) (w : World) (he : e.path.size ≤ maxLen) (ht : e.text.size ≤ maxLen) (hm : w.cell? ⟨0, 0, none⟩ = some (.int .i64 m)) :
    Calls Tryz.prog 63 #[.agg #[.string e.path, .int .i64 e.kind, .string e.text, .bool e.opq], .bool layer] w fun r w' => r = .returned (.int .i64 (wrongE e layer)) ∧ Below w.heap.size w w' := wrongEntry_cells e.path e.kind e.text e.opq layer m w he ht hm
end Go.Proofs.YtampldoimpfjgaaGreatDoor
namespace Go.Proofs.YtampldoimpfjgaaGreatDoor
open Go.RowKit PM Go.Sort
set_option linter.unusedVariables false

theorem placeL_of {t : List Ent} {q : List UInt8} {r : Int} (ha : notAhead t q = false) (hr : Sorted t → r = noDirL t (dirOf q)) (hs : Sorted t) : placeL t q = if r = 0 then 0 else 10 := by
  rw [placeL, ha, ← hr hs]; rfl
set_option maxHeartbeats 1000000 in
theorem wrongPlace_any (t : List Ent) (q : ByteArray) (p : Option Addr) (cap : Nat) (w : World) (hL : Lies w p t) (hF : Fits t) (hn : t.length < 4611686018427387904) (hq : q.size ≤ maxLen) (hq62 : q.size < 4611686018427387904) :
    Calls Tryz.prog 112 #[.slice p t.length cap, .string q] w (NumPost (fun n => Sorted t → n = placeL t q.data.toList) w) := by
  have hs := fun W (hB : Below w.heap.size w W) => noDirFor_any t q p cap W (hL.kept hB) hF hn hq hq62
  by_cases h0 : t = []
  · have HA : Aside (notAhead t q.data.toList = false) := by show _ = _; rw [h0]; rfl
    obtain ⟨n, hnl⟩ : ∃ n, n = t.length := ⟨_, rfl⟩
    have hz : n = 0 := by rw [hnl, h0]; rfl
    rw [← hnl] at hs ⊢
    clear hnl h0
    subst hz
    go_enter Tryz.func112, Tryz.ntmps112
    go_wp2_with (go_at_call 64; refine (hs _ (Below.refl _ _)).mono ?_; clear hs; rintro e w' ⟨r, rfl, hr, hB⟩; have HR : Aside (Sorted t → r = noDirL t (dirOf q.data.toList)) := hr; clear hr; by_cases hr0 : r = 0)
    · go_ret
      exact ⟨_, rfl, (fun h => by rw [placeL_of HA.out HR.out h, if_pos hr0]), hB⟩
    · go_ret
      exact ⟨_, rfl, (fun h => by rw [placeL_of HA.out HR.out h, if_neg hr0]), hB⟩
  · rcases hL with h | ⟨b, off, rfl, hb, hc⟩
    · exact absurd h h0
    obtain ⟨n, hnl⟩ : ∃ n, t.length = n + 1 := ⟨t.length - 1, by cases t with | nil => exact absurd rfl h0 | cons => simp⟩
    obtain ⟨y, hy⟩ : ∃ y, t[n]? = some y := ⟨_, List.getElem?_eq_getElem (by omega)⟩
    have HA : Aside (notAhead t q.data.toList = decide (0 ≤ cmp y.p q.data.toList)) := by
      show _ = _
      have : t.getLast? = some y := by rw [List.getLast?_eq_getElem?, hnl]; exact hy
      rw [notAhead, this]
    have hyp := (hF.at hy).1
    obtain ⟨c0, _, _, _⟩ := Lies.cells hc hb (Below.refl _ w) hy
    rw [hnl] at hs hn ⊢
    clear hc hy h0 hnl hF
    have hcmp := compare_any y.path q w hyp hq
    rw [show cmp y.path.data.toList q.data.toList = cmp y.p q.data.toList from rfl] at hcmp
    generalize cmp y.p q.data.toList = c at hcmp HA
    have hidx : ((n : Int) + 1 - 1) = n := by omega
    by_cases hge : 0 ≤ c
    · go_enter Tryz.func112, Tryz.ntmps112
      go_wp2_with (go_at_call 93; refine hcmp.mono ?_; clear hcmp; rintro e w' ⟨rfl, k, rfl⟩)
      go_ret
      exact ⟨2, rfl, (fun h => by rw [placeL, HA.out]; simp [hge]), below_drewN (Below.refl _ _) _⟩
    · have hge' : decide (0 ≤ c) = false := by simpa using hge
      have HA' : Aside (notAhead t q.data.toList = false) := by show _ = _; rw [HA.out, hge']
      go_enter Tryz.func112, Tryz.ntmps112
      go_wp2_with (first
        | (go_at_call 93; refine hcmp.mono ?_; clear hcmp; rintro e w' ⟨rfl, k, rfl⟩)
        | (go_at_call 64; refine (hs _ (below_drewN (Below.refl _ _) _)).mono ?_; clear hs; rintro e w' ⟨r, rfl, hr, hB⟩; have HR : Aside (Sorted t → r = noDirL t (dirOf q.data.toList)) := hr; clear hr; by_cases hr0 : r = 0))
      · go_ret
        exact ⟨_, rfl, (fun h => by rw [placeL_of HA'.out HR.out h, if_pos hr0]), Below.onto (below_drewN (Below.refl _ _) _) hB⟩
      · go_ret
        exact ⟨_, rfl, (fun h => by rw [placeL_of HA'.out HR.out h, if_neg hr0]), Below.onto (below_drewN (Below.refl _ _) _) hB⟩
end Go.Proofs.YtampldoimpfjgaaGreatDoor
namespace Go.Proofs.YtampldoimpfjgaaGreatDoor
open Go.RowKit PM Go.Sort
set_option linter.unusedVariables false

theorem own_store2 {w W : World} {o : Obj} (hB : Below (w.heap.size + 1) (w.alloc o) W) (a b : Value) : Below w.heap.size w ((W.setCell ⟨w.heap.size, 0, none⟩ a).setCell ⟨w.heap.size, 1, none⟩ b) :=
  ((base1 hB).setCell (Nat.le_refl _) _).setCell (Nat.le_refl _) _
theorem base2 {w W : World} {o : Obj} (h : Below (w.alloc o).heap.size (w.alloc o) W) : Below w.heap.size w W := base1 (h.mono (by simp))
theorem kept_cell {w W W2 : World} {a b c d : Value} {t : TypeId} (h : Below (w.alloc (.cells #[a, b, c, d] t)).heap.size (w.alloc (.cells #[a, b, c, d] t)) W) (g : Below W.drew.heap.size W.drew W2) : W2.cell? ⟨w.heap.size, 0, none⟩ = some a :=
  (new4 (Nat.lt_succ_self _) (up1 (h.drew.mono (by simp)) g)).1.1
theorem faultFrom_step {layer : Bool} {t : List Ent} {k : Nat} {y : Ent} (hy : t[k]? = some y) : faultFrom layer (t.take k) (t.drop k) = if faultE layer (t.take k) y = 0 then faultFrom layer (t.take (k + 1)) (t.drop (k + 1)) else (faultE layer (t.take k) y, k) := by
  obtain ⟨h1, h2⟩ := List.getElem?_eq_some_iff.1 hy
  rw [List.drop_eq_getElem_cons h1, faultFrom, h2, List.take_succ_eq_append_getElem h1, h2, List.length_take, Nat.min_eq_left (by omega)]
theorem good_step {layer : Bool} {t : List Ent} {k : Nat} {y : Ent} (hy : t[k]? = some y) (hg : PM.Good layer (t.take k)) (h : faultE layer (t.take k) y = 0) : PM.Good layer (t.take (k + 1)) := by
  obtain ⟨h1, h2⟩ := List.getElem?_eq_some_iff.1 hy
  rw [List.take_succ_eq_append_getElem h1, h2]; exact hg.snoc h
theorem clean_size {p : ByteArray} (h : clean p.data.toList = true) : p.size ≤ 80 := by
  have := ((clean_iff _).1 h).1; rwa [szl] at this

set_option maxHeartbeats 4000000 in
theorem firstFault_any (t : List Ent) (layer : Bool) (m : Int) (p : Option Addr) (cap : Nat) (w : World) (hL : Lies w p t) (hF : Fits t) (hn : t.length < 4611686018427387904) (hcap : t.length ≤ cap) (hm : w.cell? ⟨0, 0, none⟩ = some (.int .i64 m)) :
    Calls Tryz.prog 94 #[.slice p t.length cap, .bool layer] w fun r w' => r = .returned (.agg #[.int .i64 (faultL layer t).1, .int .i64 ((faultL layer t).2 : Nat)]) ∧ Below w.heap.size w w' := by
  have HF : Aside (Fits t) := hF
  have HL : Aside (Lies w p t) := hL
  clear hF hL
  obtain ⟨n, hnl⟩ : ∃ n, n = t.length := ⟨_, rfl⟩
  have HN : Aside (n = t.length) := hnl
  rw [← hnl] at hn hcap ⊢
  by_cases h80 : 80 < n
  · have g : (80 : Int) < (n : Int) := by omega
    have HR : Aside (faultL layer t = (5, 0)) := by show _ = _; rw [faultL, if_pos (by omega)]
    clear hnl
    go_enter Tryz.func94, Tryz.ntmps94
    go_wp2
    refine bodyPost_ret (v := .agg #[.int .i64 5, .int .i64 0]) (by simp [results, Tryz.results94, go_sem]) rfl ?_
    exact ⟨by rw [HR.out]; rfl, (Below.refl _ _).alloc (Nat.le_refl _) _⟩
  · have g : ¬ (80 : Int) < (n : Int) := by omega
    have HR : Aside (faultL layer t = faultFrom layer [] t) := by show _ = _; rw [faultL, if_neg (by omega)]
    clear hnl
    go_enter Tryz.func94, Tryz.ntmps94
    go_wp2
    go_loopg [14] n (fun gg s14 wr => ∃ k : Nat, k ≤ n ∧ n - k ≤ gg ∧ s14 = .int .i64 k ∧ Aside (Below (w.heap.size + 1) (w.alloc (.cells #[.int .i64 0, .int .i64 0] 33)) wr) ∧ Aside (PM.Good layer (t.take k)) ∧ Aside (faultFrom layer (t.take k) (t.drop k) = faultL layer t))
    case atStart => exact ⟨0, Nat.zero_le _, by omega, rfl, Below.refl _ _, good_nil _, HR.out.symm⟩
    case round =>
      obtain ⟨k, hk, hg, rfl, BW, HG, HE⟩ := hrel
      by_cases hlt : k < n
      · have hltz : (k : Int) < (n : Int) := by omega
        obtain ⟨y, hy⟩ : ∃ y, t[k]? = some y := ⟨_, List.getElem?_eq_getElem (by have := HN.out; omega)⟩
        have HY : Aside (t[k]? = some y) := hy
        have hf := HF.out.at hy
        have hBw := base1 BW.out
        rcases HL.out with h0 | ⟨b, off, rfl, hb, hc⟩
        · rw [h0] at hy; simp at hy
        obtain ⟨c0, c1, c2, c3⟩ := Lies.cells hc hb hBw hy
        have HC : Aside (∀ j e, t[j]? = some e → ∀ i v, (encE e)[i]? = some v → w.cell? ⟨b, off + j * 4 + i, none⟩ = some v) := hc
        have hb' : b < wr.heap.size := Nat.lt_of_lt_of_le hb hBw.size
        have hne : b ≠ wr.heap.size := by omega
        clear hc hy
        have hwe := fun W (hB : Below wr.heap.size wr W) => wrongEntry_any y layer m W hf.1 hf.2 (held (Below.onto hBw hB) hm)
        have HFE : Aside (faultE layer (t.take k) y = if wrongE y layer = 0 then placeL (t.take k) y.p else wrongE y layer) := rfl
        have HW : Aside (wrongE y layer = 0 → y.path.size ≤ 80) := fun h => clean_size (wrongE_clean h)
        generalize wrongE y layer = r1 at hwe HFE HW
        by_cases hr1 : r1 = 0
        · have hy80 := HW.out hr1
          have hwp : ∀ W, Below w.heap.size w W → Calls Tryz.prog 112 #[.slice (some ⟨b, off, none⟩) k cap, .string y.path] W (fun r w' => r = .returned (.int .i64 (placeL (t.take k) y.p)) ∧ Below W.heap.size W w') := fun W hB => by
            have h := wrongPlace_any (t.take k) y.path (some ⟨b, off, none⟩) cap W (Lies.take (Lies.kept (Or.inr ⟨b, off, rfl, hb, HC.out⟩) hB) k) (fun e he => HF.out e (List.mem_of_mem_take he)) (by rw [List.length_take]; have := HN.out; omega) hf.1 (by omega)
            rw [List.length_take, Nat.min_eq_left (by have := HN.out; omega)] at h
            refine h.mono ?_
            rintro r w' ⟨x, rfl, hx, hB'⟩
            exact ⟨ret_int (hx HG.out.sorted), hB'⟩
          have HFE' : Aside (faultE layer (t.take k) y = placeL (t.take k) y.p) := by show _ = _; rw [HFE.out, if_pos hr1]
          subst hr1
          generalize placeL (t.take k) y.p = r2 at hwp HFE'
          have hkc : k ≤ cap := by omega
          have hkc' : (k : Int) ≤ (cap : Int) := by omega
          clear HFE HW
          by_cases hr2 : r2 = 0
          · subst hr2
            go_wp2_with (go_at_call 63; refine (hwe _ ((Below.refl _ _).alloc (Nat.le_refl _) _)).mono ?_; clear hwe; rintro rr w1 ⟨rfl, hB1⟩; obtain ⟨⟨d0, d1, d2, d3⟩, _⟩ := new4 (by simp) hB1; have hX := base2 hB1)
            go_region_held3 (fun w' => w'.cell? ⟨wr.heap.size, 0, none⟩ = some (.string y.path)) (go_keep) (first | (go_at_call 112; refine (hwp _ (Below.drew (Below.onto hBw hX))).mono ?_; rintro rr w2 ⟨rfl, hB2⟩; have hY := Below.onto hX.drew hB2; have e0 := kept_cell hB1 hB2))
            go_wp2
            go_roundg (n - (k + 1))
            case measure => omega
            case rel => exact ⟨k + 1, by omega, by omega, by go_num, up1 BW.out hY, good_step HY.out HG.out HFE'.out, by have := HE.out; rw [faultFrom_step HY.out, if_pos HFE'.out] at this; exact this⟩
          · go_wp2_with (go_at_call 63; refine (hwe _ ((Below.refl _ _).alloc (Nat.le_refl _) _)).mono ?_; clear hwe; rintro rr w1 ⟨rfl, hB1⟩; obtain ⟨⟨d0, d1, d2, d3⟩, _⟩ := new4 (by simp) hB1; have hX := base2 hB1)
            go_region_held3 (fun w' => w'.cell? ⟨wr.heap.size, 0, none⟩ = some (.string y.path)) (go_keep) (first | (go_at_call 112; refine (hwp _ (Below.drew (Below.onto hBw hX))).mono ?_; rintro rr w2 ⟨rfl, hB2⟩; have hY := Below.onto hX.drew hB2; have e0 := kept_cell hB1 hB2))
            obtain ⟨⟨r0, r1⟩, ⟨f0, f1⟩⟩ := new2 (Nat.lt_succ_self _) (up1 BW.out hY)
            have HO : Aside (Below (w.heap.size + 1) (w.alloc (.cells #[.int .i64 0, .int .i64 0] 33)) w2) := up1 BW.out hY
            go_wp2
            refine bodyPost_ret (v := .agg #[.int .i64 r2, .int .i64 k]) (by simp [results, Tryz.results94, go_sem, r0, r1]) rfl ?_
            exact ⟨by rw [← HE.out, faultFrom_step HY.out, if_neg (by rw [HFE'.out]; exact hr2), HFE'.out], own_store2 HO.out _ _⟩
        · have HFE' : Aside (faultE layer (t.take k) y = r1) := by show _ = _; rw [HFE.out, if_neg hr1]
          clear HFE HW
          go_wp2_with (go_at_call 63; refine (hwe _ ((Below.refl _ _).alloc (Nat.le_refl _) _)).mono ?_; clear hwe; rintro rr w1 ⟨rfl, hB1⟩; obtain ⟨⟨r0, r1'⟩, ⟨f0, f1⟩⟩ := new2 (Nat.lt_succ_self _) (up1 BW.out (base2 hB1)); have HO : Aside (Below (w.heap.size + 1) (w.alloc (.cells #[.int .i64 0, .int .i64 0] 33)) w1) := up1 BW.out (base2 hB1))
          refine bodyPost_ret (v := .agg #[.int .i64 r1, .int .i64 k]) (by simp [results, Tryz.results94, go_sem, r0, r1']) rfl ?_
          exact ⟨by rw [← HE.out, faultFrom_step HY.out, if_neg (by rw [HFE'.out]; exact hr1), HFE'.out], own_store2 HO.out _ _⟩
      · have hltz : ¬ (k : Int) < (n : Int) := by omega
        have HZ : Aside (faultL layer t = (0, 0)) := by
          have := HE.out
          rw [List.drop_of_length_le (by have := HN.out; omega), faultFrom] at this; exact this.symm
        obtain ⟨⟨r0, r1⟩, ⟨f0, f1⟩⟩ := new2 (Nat.lt_succ_self _) BW.out
        go_wp2
        refine bodyPost_ret (v := .agg #[.int .i64 0, .int .i64 0]) (by simp [results, Tryz.results94, go_sem, r0, r1]) rfl ?_
        exact ⟨by rw [HZ.out]; rfl, own_store2 BW.out _ _⟩
theorem wrong_any (t : List Ent) (m : Int) (p : Option Addr) (cap : Nat) (w : World) (hL : Lies w p t) (hF : Fits t) (hn : t.length < 4611686018427387904) (hcap : t.length ≤ cap) (hm : w.cell? ⟨0, 0, none⟩ = some (.int .i64 m)) :
    Calls Tryz.prog 62 #[.slice p t.length cap] w fun r w' => r = .returned (.agg #[.int .i64 (faultL false t).1, .int .i64 ((faultL false t).2 : Nat)]) ∧ Below w.heap.size w w' := by
  have hs := fun W (hB : Below w.heap.size w W) => firstFault_any t false m p cap W (hL.kept hB) hF hn hcap (held hB hm)
  generalize (faultL false t).1 = a at hs ⊢
  generalize ((faultL false t).2 : Int) = b at hs ⊢
  go_enter Tryz.func62, Tryz.ntmps62
  go_wp2_with (go_at_call 94; refine (hs _ ((Below.refl _ _).alloc (Nat.le_refl _) _)).mono ?_; clear hs; rintro rr w1 ⟨rfl, hB1⟩; obtain ⟨⟨r0, r1⟩, ⟨f0, f1⟩⟩ := new2 (by simp) hB1)
  refine bodyPost_ret (v := .agg #[.int .i64 a, .int .i64 b]) (by simp [results, Tryz.results62, go_sem, r0, r1]) rfl ?_
  exact ⟨rfl, own_store2 (hB1.mono (by simp)) _ _⟩
end Go.Proofs.YtampldoimpfjgaaGreatDoor
