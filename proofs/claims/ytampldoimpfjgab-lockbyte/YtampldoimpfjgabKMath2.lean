/-
  Plain mathematics of locks, on: locks that have the same bytes are the same; what is taken, or freed; owners who leave.
-/
import Derived.Test.YtampldoimpfjgabKMath
namespace Go.Proofs.Ytampldoimpfjgab.KM

/-- What has the same bytes, and can't be fewer, is the same. -/
theorem same_of_has : ∀ (l m : List Lk), (∀ x ∈ l, okK x) → (∀ x ∈ m, okK x) → l.Pairwise R → m.Pairwise R → (∀ o k b, Has l o k b ↔ Has m o k b) → l = m
  | [], [], _, _, _, _, _ => rfl
  | [], y :: m, _, hm, _, _, h => by
    obtain ⟨_, _, _, h4, _⟩ := hm y (by simp)
    obtain ⟨z, hz, _⟩ := (h y.o y.f y.a).2 ⟨y, by simp, rfl, Int.le_refl _, h4, rfl⟩
    simp at hz
  | x :: l, [], hl, _, _, _, h => by
    obtain ⟨_, _, _, h4, _⟩ := hl x (by simp)
    obtain ⟨z, hz, _⟩ := (h x.o x.f x.a).1 ⟨x, by simp, rfl, Int.le_refl _, h4, rfl⟩
    simp at hz
  | x :: l, y :: m, hl, hm, pl, pm, h => by
    obtain ⟨px, pl'⟩ := List.pairwise_cons.1 pl
    obtain ⟨py, pm'⟩ := List.pairwise_cons.1 pm
    have hxo := hl x (by simp)
    have hyo := hm y (by simp)
    have hx4 : x.f < x.t := hxo.2.2.2.1
    have hy4 : y.f < y.t := hyo.2.2.2.1
    -- the first byte of all
    have first : ∀ (a : Lk) (r : List Lk), okK a → (∀ z ∈ r, R a z) → ∀ o k b, Has (a :: r) o k b → a.o < o ∨ (a.o = o ∧ a.f ≤ k) := by
      rintro a r ha hr o k b ⟨z, hz, rfl, h1, h2, rfl⟩
      have h4 : a.f < a.t := ha.2.2.2.1
      rcases List.mem_cons.1 hz with rfl | hz
      · exact .inr ⟨rfl, h1⟩
      · rcases hr z hz with h | ⟨h, h' | ⟨h', _⟩⟩
        · exact .inl h
        · exact .inr ⟨h, by omega⟩
        · exact .inr ⟨h, by omega⟩
    have hx1 : Has (x :: l) x.o x.f x.a := ⟨x, by simp, rfl, Int.le_refl _, hx4, rfl⟩
    have hy1 : Has (y :: m) y.o y.f y.a := ⟨y, by simp, rfl, Int.le_refl _, hy4, rfl⟩
    have f1 := first y m hyo py _ _ _ ((h _ _ _).1 hx1)
    have f2 := first x l hxo px _ _ _ ((h _ _ _).2 hy1)
    have eo : x.o = y.o := by omega
    have ef : x.f = y.f := by omega
    -- one owner's byte is had by one of them
    have only : ∀ (a : Lk) (r : List Lk), okK a → (∀ z ∈ r, R a z) → ∀ k b, a.f ≤ k → k < a.t → Has (a :: r) a.o k b → b = a.a := by
      rintro a r ha hr k b h1 h2 ⟨z, hz, e, h3, h4, rfl⟩
      rcases List.mem_cons.1 hz with rfl | hz
      · rfl
      · exfalso
        rcases hr z hz with h | ⟨_, h | ⟨h, _⟩⟩ <;> omega
    have ea : x.a = y.a := only y m hyo py x.f x.a (by omega) (by omega) (by rw [← eo]; exact (h _ _ _).1 hx1)
    have ends : ∀ (a b : Lk) (r s : List Lk), okK a → (∀ z ∈ r, R a z) → a.o = b.o → a.f = b.f → a.a = b.a → (∀ o k c, Has (b :: s) o k c → Has (a :: r) o k c) → b.t ≤ a.t := by
      intro a b r s ha hr e1 e2 e3 hh
      apply Decidable.byContradiction
      intro hc
      have h4 : a.f < a.t := ha.2.2.2.1
      obtain ⟨z, hz, z1, z2, z3, z4⟩ := hh b.o a.t b.a ⟨b, by simp, rfl, by omega, by omega, rfl⟩
      rcases List.mem_cons.1 hz with rfl | hz
      · omega
      · rcases hr z hz with h | ⟨_, h | ⟨h, h5⟩⟩
        · omega
        · omega
        · exact h5 (by rw [z4]; exact e3)
    have et : x.t = y.t := by
      have := ends x y l m hxo px eo ef ea (fun o k c hc => (h o k c).2 hc)
      have := ends y x m l hyo py eo.symm ef.symm ea.symm (fun o k c hc => (h o k c).1 hc)
      omega
    have exy : x = y := by
      obtain ⟨a, b, c, d⟩ := x
      obtain ⟨a', b', c', d'⟩ := y
      simp only at eo ef et ea
      rw [eo, ef, et, ea]
    subst exy
    have tail : ∀ (a : Lk) (r s : List Lk), okK a → (∀ z ∈ r, R a z) → (∀ o k c, Has (a :: r) o k c → Has (a :: s) o k c) → ∀ o k c, Has r o k c → Has s o k c := by
      rintro a r s ha hr hh o k c ⟨z, hz, rfl, h1, h2, rfl⟩
      obtain ⟨u, hu, e1, e2, e3, e4⟩ := hh z.o k z.a ⟨z, by simp [hz], rfl, h1, h2, rfl⟩
      rcases List.mem_cons.1 hu with rfl | hu
      · exfalso
        rcases hr z hz with h | ⟨_, h | ⟨h, _⟩⟩ <;> omega
      · exact ⟨u, hu, e1, e2, e3, e4⟩
    rw [same_of_has l m (fun z hz => hl z (by simp [hz])) (fun z hz => hm z (by simp [hz])) pl' pm'
      (fun o k b => ⟨tail x l m hxo px (fun o k c => (h o k c).1) o k b, tail x m l hxo py (fun o k c => (h o k c).2) o k b⟩)]

/-- The bytes, behind a lock that is taken, or freed. -/
def HasSpec (free : Bool) (l : List Lk) (x : Lk) (m : List Lk) : Prop :=
  ∀ o k b, Has m o k b ↔ (Has l o k b ∧ ¬ (o = x.o ∧ x.f ≤ k ∧ k < x.t)) ∨ (free = false ∧ x.o = o ∧ x.f ≤ k ∧ k < x.t ∧ x.a = b)
def preErr (l : List Lk) (x : Lk) : Int := if (faultK l).1 = 0 then (if okK x then 0 else 3) else (faultK l).1
theorem preErr_zero {l : List Lk} {x : Lk} : preErr l x = 0 ↔ (l.length ≤ 40 ∧ RightK l) ∧ okK x := by
  unfold preErr
  rw [← fault_zero]
  constructor
  · intro h
    split at h
    · rename_i h1
      split at h
      · rename_i h2; exact ⟨h1, h2⟩
      · cases h
    · rename_i h1; exact absurd h h1
  · rintro ⟨h1, h2⟩
    rw [if_pos h1, if_pos h2]
/-- What comes of a lock that is taken, or freed: its error, and the locks. -/
def SetSpec (free : Bool) (l : List Lk) (x : Lk) (err : Int) (m : List Lk) : Prop :=
  (preErr l x ≠ 0 ∧ err = preErr l x ∧ m = []) ∨
  (preErr l x = 0 ∧ free = false ∧ l.any (clash x) = true ∧ err = 13 ∧ m = []) ∨
  (preErr l x = 0 ∧ (free = true ∨ l.any (clash x) = false) ∧ ∃ m', RightK m' ∧ HasSpec free l x m' ∧ ((40 < m'.length ∧ err = 5 ∧ m = []) ∨ (m'.length ≤ 40 ∧ err = 0 ∧ m = m')))
theorem spec_unique {free : Bool} {l : List Lk} {x : Lk} {e e' : Int} {m m' : List Lk} (h : SetSpec free l x e m) (h' : SetSpec free l x e' m') : e = e' ∧ m = m' := by
  rcases h with ⟨h1, h2, h3⟩ | ⟨h1, h2, h3, h4, h5⟩ | ⟨h1, h2, a, ha, hb, hc⟩ <;> rcases h' with ⟨g1, g2, g3⟩ | ⟨g1, g2, g3, g4, g5⟩ | ⟨g1, g2, a', ga, gb, gc⟩
  · exact ⟨h2.trans g2.symm, h3.trans g3.symm⟩
  · exact absurd g1 h1
  · exact absurd g1 h1
  · exact absurd h1 g1
  · exact ⟨h4.trans g4.symm, h5.trans g5.symm⟩
  · rcases g2 with g2 | g2
    · rw [h2] at g2; cases g2
    · rw [h3] at g2; cases g2
  · exact absurd h1 g1
  · rcases h2 with h2 | h2
    · rw [g2] at h2; cases h2
    · rw [g3] at h2; cases h2
  · have : a = a' := same_of_has a a' ha.ok ga.ok ha.rises ga.rises (fun o k b => (hb o k b).trans (gb o k b).symm)
    subst this
    rcases hc with ⟨c1, c2, c3⟩ | ⟨c1, c2, c3⟩ <;> rcases gc with ⟨d1, d2, d3⟩ | ⟨d1, d2, d3⟩
    · exact ⟨c2.trans d2.symm, c3.trans d3.symm⟩
    · omega
    · omega
    · exact ⟨c2.trans d2.symm, c3.trans d3.symm⟩
theorem spec_right {free : Bool} {l m : List Lk} {x : Lk} {e : Int} (h : SetSpec free l x e m) : (e ≠ 0 ∧ m = []) ∨ (e = 0 ∧ preErr l x = 0 ∧ m.length ≤ 40 ∧ RightK m ∧ HasSpec free l x m) := by
  rcases h with ⟨h1, h2, h3⟩ | ⟨h1, h2, h3, h4, h5⟩ | ⟨h1, h2, a, ha, hb, ⟨c1, c2, c3⟩ | ⟨c1, c2, c3⟩⟩
  · exact .inl ⟨by rw [h2]; exact h1, h3⟩
  · exact .inl ⟨by rw [h4]; decide, h5⟩
  · exact .inl ⟨by rw [c2]; decide, c3⟩
  · subst c3; exact .inr ⟨c2, h1, c1, ha, hb⟩
theorem free_spec {l : List Lk} {x : Lk} (h : preErr l x = 0) : RightK (withoutL l x) ∧ HasSpec true l x (withoutL l x) := by
  obtain ⟨⟨_, hr⟩, hx⟩ := preErr_zero.1 h
  refine ⟨right_without hr hx, fun o k b => ?_⟩
  rw [has_without]; simp
theorem take_spec {l m : List Lk} {x : Lk} (h : preErr l x = 0) (hm : l.any (clash x) = false) (hp : m.Perm (withoutL l x ++ [x])) (hs : m.Pairwise fun a b => ¬ cmpK b a < 0) : RightK (joinL m) ∧ HasSpec false l x (joinL m) := by
  obtain ⟨⟨_, hr⟩, hx⟩ := preErr_zero.1 h
  obtain ⟨h1, h2⟩ := take_right hr hx hm hp hs
  refine ⟨h1, fun o k b => ?_⟩
  rw [h2]; simp
/-- A byte of somebody else's, or outside, is as it was; one inside is as it was taken. -/
theorem how_spec {free : Bool} {l m : List Lk} {x : Lk} (h : preErr l x = 0) (hr : RightK m) (hs : HasSpec free l x m) (o k : Int) :
    (¬ (o = x.o ∧ x.f ≤ k ∧ k < x.t) → howL l o k = howL m o k) ∧ ((o = x.o ∧ x.f ≤ k ∧ k < x.t) → howL m o k = if free then 0 else howB x.a) := by
  obtain ⟨⟨_, hl⟩, _⟩ := preErr_zero.1 h
  constructor
  · intro hn
    refine how_congr hl hr fun b => ?_
    rw [hs]
    constructor
    · exact fun h => .inl ⟨h, hn⟩
    · rintro (⟨h, _⟩ | ⟨_, h1, h2, h3, _⟩)
      · exact h
      · exact absurd ⟨h1.symm, h2, h3⟩ hn
  · intro hi
    cases free with
    | true =>
      refine how_none fun b hb => ?_
      rcases (hs o k b).1 hb with ⟨_, h⟩ | ⟨h, _⟩
      · exact h hi
      · cases h
    | false => exact how_has hr ((hs o k x.a).2 (.inr ⟨rfl, hi.1.symm, hi.2.1, hi.2.2, rfl⟩))

/-! ### Owners who leave -/
def leaveL (l : List Lk) (o : Int) : List Lk := l.filter fun x => !decide (x.o = o)
def has1 (l : List Lk) (o : Int) : Nat := if l.any (fun x => decide (x.o = o)) then 1 else 0
def cnt (l : List Lk) : Nat := has1 l 0 + has1 l 1 + has1 l 2 + has1 l 3
theorem has1_le (l : List Lk) (o : Int) : has1 l o ≤ 1 := by unfold has1; split <;> omega
theorem cnt_le (l : List Lk) : cnt l ≤ 4 := by
  have := has1_le l 0; have := has1_le l 1; have := has1_le l 2; have := has1_le l 3
  unfold cnt; omega
theorem has1_leave (l : List Lk) (o o' : Int) : has1 (leaveL l o) o' = if o = o' then 0 else has1 l o' := by
  unfold has1 leaveL
  by_cases h : o = o'
  · subst h
    rw [if_pos rfl, if_neg]
    rw [Bool.not_eq_true, List.any_eq_false]
    intro x hx
    have := (List.mem_filter.1 hx).2
    simpa using this
  · rw [if_neg h]
    have : (l.filter fun x => !decide (x.o = o)).any (fun x => decide (x.o = o')) = l.any (fun x => decide (x.o = o')) := by
      rw [Bool.eq_iff_iff, List.any_eq_true, List.any_eq_true]
      constructor
      · rintro ⟨x, hx, h2⟩; exact ⟨x, (List.mem_filter.1 hx).1, h2⟩
      · rintro ⟨x, hx, h2⟩
        refine ⟨x, List.mem_filter.2 ⟨hx, ?_⟩, h2⟩
        simp at h2 ⊢; omega
    rw [this]
theorem cnt_leave {l : List Lk} (hok : ∀ x ∈ l, okK x) {y : Lk} (hy : y ∈ l) : cnt (leaveL l y.o) + 1 ≤ cnt l := by
  obtain ⟨h1, h2, _⟩ := hok y hy
  have hh : has1 l y.o = 1 := by
    unfold has1; rw [if_pos]
    exact List.any_eq_true.2 ⟨y, hy, by simp⟩
  unfold cnt
  rw [has1_leave, has1_leave, has1_leave, has1_leave]
  have c : y.o = 0 ∨ y.o = 1 ∨ y.o = 2 ∨ y.o = 3 := by omega
  rcases c with c | c | c | c <;> rw [c] at hh ⊢ <;> simp <;> omega
theorem cnt_zero {l : List Lk} (hok : ∀ x ∈ l, okK x) (h : cnt l = 0) : l = [] := by
  cases l with
  | nil => rfl
  | cons y r => have := cnt_leave hok (y := y) (by simp); omega
theorem leave_right {l : List Lk} (h : RightK l) (o : Int) : RightK (leaveL l o) := right_filter h _
theorem leave_len (l : List Lk) (o : Int) : (leaveL l o).length ≤ l.length := List.length_filter_le _ _
end Go.Proofs.Ytampldoimpfjgab.KM
