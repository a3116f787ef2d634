/-
  Plain mathematics of locks, on: the bytes that the document's answer writes down, owner by owner, and the locks that they are.
-/
import Derived.Test.YtampldoimpfjgabKMath3
namespace Go.Proofs.Ytampldoimpfjgab.KM

/-- How a byte is, the last one that has it says. -/
def bytesF (o : Int) (F : Nat → Int) : List Lk → Nat → Int
  | [], k => F k
  | x :: r, k => bytesF o (fun j => if x.o = o ∧ x.f ≤ j ∧ (j : Int) < x.t then howB x.a else F j) r k
theorem bytesF_snoc (o : Int) (l : List Lk) (x : Lk) : ∀ F k, bytesF o F (l ++ [x]) k = if x.o = o ∧ x.f ≤ k ∧ (k : Int) < x.t then howB x.a else bytesF o F l k := by
  induction l with
  | nil => intro F k; simp [bytesF]
  | cons y r ih => intro F k; rw [List.cons_append, bytesF, ih]; rfl
theorem bytesF_cases (o : Int) (k : Nat) (l : List Lk) : ∀ F, (∃ y ∈ l, y.o = o ∧ y.f ≤ k ∧ (k : Int) < y.t ∧ bytesF o F l k = howB y.a) ∨ ((∀ y ∈ l, ¬ (y.o = o ∧ y.f ≤ k ∧ (k : Int) < y.t)) ∧ bytesF o F l k = F k) := by
  induction l with
  | nil => intro F; exact .inr ⟨by simp, rfl⟩
  | cons x r ih =>
    intro F
    rcases ih (fun j => if x.o = o ∧ x.f ≤ j ∧ (j : Int) < x.t then howB x.a else F j) with ⟨y, hy, h1, h2, h3, h4⟩ | ⟨h1, h2⟩
    · exact .inl ⟨y, by simp [hy], h1, h2, h3, h4⟩
    · by_cases hx : x.o = o ∧ x.f ≤ k ∧ (k : Int) < x.t
      · exact .inl ⟨x, by simp, hx.1, hx.2.1, hx.2.2, by rw [bytesF, h2, if_pos hx]⟩
      · refine .inr ⟨fun y hy => ?_, by rw [bytesF, h2, if_neg hx]⟩
        rcases List.mem_cons.1 hy with rfl | hy
        · exact hx
        · exact h1 y hy
theorem howB_inj {a b : Bool} (h : howB a = howB b) : a = b := by
  cases a <;> cases b <;> simp [howB] at h ⊢
theorem howB_pos (a : Bool) : 0 < howB a := by cases a <;> simp [howB]
theorem bytes_has {l : List Lk} (h : RightK l) (o : Int) (k : Nat) (b : Bool) : bytesF o (fun _ => 0) l k = howB b ↔ Has l o k b := by
  rcases bytesF_cases o k l (fun _ => 0) with ⟨y, hy, h1, h2, h3, h4⟩ | ⟨h1, h2⟩
  · rw [h4]
    constructor
    · intro e
      exact ⟨y, hy, h1, h2, h3, howB_inj e⟩
    · intro e
      rw [has_unique h ⟨y, hy, h1, h2, h3, rfl⟩ e]
  · rw [h2]
    constructor
    · intro e
      have := howB_pos b
      omega
    · rintro ⟨y, hy, a1, a2, a3, _⟩
      exact absurd ⟨a1, a2, a3⟩ (h1 y hy)
theorem bytes_three (o : Int) (k : Nat) (l : List Lk) : bytesF o (fun _ => 0) l k = 0 ∨ bytesF o (fun _ => 0) l k = 1 ∨ bytesF o (fun _ => 0) l k = 2 := by
  rcases bytesF_cases o k l (fun _ => 0) with ⟨y, hy, h1, h2, h3, h4⟩ | ⟨h1, h2⟩
  · rw [h4]; cases y.a <;> simp [howB]
  · exact .inl h2

/-- The bytes of an owner, those of a lock being so. -/
def setF (l : List Lk) (x : Lk) (how o : Int) (k : Nat) : Int := if o = x.o ∧ x.f ≤ k ∧ (k : Int) < x.t then how else bytesF o (fun _ => 0) l k
theorem setF_three (l : List Lk) (x : Lk) (how o : Int) (k : Nat) (h : how = 0 ∨ how = 1 ∨ how = 2) : setF l x how o k = 0 ∨ setF l x how o k = 1 ∨ setF l x how o k = 2 := by
  unfold setF
  split
  · exact h
  · exact bytes_three o k l
/-- The runs of the owners below o. -/
structure RunsTo (Fs : Int → Nat → Int) (o : Nat) (out : List Lk) : Prop where
  ok : ∀ x ∈ out, 0 ≤ x.o ∧ x.o < o ∧ 0 ≤ x.f ∧ x.f < x.t ∧ x.t ≤ 1000
  rises : out.Pairwise R
  has : ∀ o' (i : Nat) b, Has out o' i b ↔ 0 ≤ o' ∧ o' < o ∧ i < 1000 ∧ Fs o' i = howB b
  len : out.length ≤ o * 1000
theorem runsTo_nil (Fs : Int → Nat → Int) : RunsTo Fs 0 [] :=
  ⟨by simp, by simp, fun o' i b => ⟨fun ⟨y, hy, _⟩ => by simp at hy, fun h => by omega⟩, by simp⟩
theorem runsTo_step {Fs : Int → Nat → Int} {o : Nat} {out r : List Lk} (h : RunsTo Fs o out) (hr : RunsOf (o : Int) (Fs (o : Int)) 1000 r) (hl : r.length ≤ 1000) : RunsTo Fs (o + 1) (out ++ r) := by
  refine ⟨fun x hx => ?_, ?_, fun o' i b => ?_, ?_⟩
  · rcases List.mem_append.1 hx with hx | hx
    · obtain ⟨a, b, c⟩ := h.ok x hx; exact ⟨a, by omega, c⟩
    · have := hr.own x hx
      obtain ⟨a, b, c⟩ := hr.ok x hx
      exact ⟨by omega, by omega, a, b, by omega⟩
  · refine List.pairwise_append.2 ⟨h.rises, hr.rises, fun a ha b hb => ?_⟩
    have h1 := (h.ok a ha).2.1
    have h2 := hr.own b hb
    exact .inl (by omega)
  · rw [has_append, h.has]
    constructor
    · rintro (⟨h1, h2, h3⟩ | hh)
      · exact ⟨h1, by omega, h3⟩
      · have e : o' = o := by
          obtain ⟨y, hy, e, _⟩ := hh
          rw [← e]; exact hr.own y hy
        subst e
        obtain ⟨a, b'⟩ := (hr.has i b).1 hh
        exact ⟨by omega, by omega, a, b'⟩
    · rintro ⟨h1, h2, h3, h4⟩
      by_cases e : o' = o
      · subst e
        exact .inr ((hr.has i b).2 ⟨h3, h4⟩)
      · exact .inl ⟨h1, by omega, h3, h4⟩
  · rw [List.length_append]
    have := h.len
    omega
/-- What has the bytes that are asked for clashes nowhere. -/
theorem noClash_spec {free : Bool} {l m : List Lk} {x : Lk} (h : RightK l) (hx : okK x) (hm : free = true ∨ l.any (clash x) = false) (hs : HasSpec free l x m) : NoClash m := by
  cases free with
  | true =>
    intro o o' k b b' hne h1 h2
    rcases (hs _ _ _).1 h1 with ⟨h1, _⟩ | ⟨h1, _⟩
    · rcases (hs _ _ _).1 h2 with ⟨h2, _⟩ | ⟨h2, _⟩
      · exact h.no o o' k b b' hne h1 h2
      · cases h2
    · cases h1
  | false =>
    have hm : l.any (clash x) = false := by
      rcases hm with hm | hm
      · cases hm
      · exact hm
    have hcx : ∀ y ∈ l, clash x y = false := fun y hy => by have := List.any_eq_false.1 hm y hy; simpa using this
    have hmeet : ∀ o k b, o ≠ x.o → Has l o k b → x.f ≤ k → k < x.t → b = false ∧ x.a = false := by
      rintro o k b hne ⟨y, hy, rfl, h1, h2, rfl⟩ h3 h4
      have hc := hcx y hy
      rw [← Bool.not_eq_true, clash_iff hx (h.ok y hy)] at hc
      by_cases ha : x.a = true ∨ y.a = true
      · exact absurd ⟨fun e => hne e.symm, ha, k, h3, h4, h1, h2⟩ hc
      · simp only [not_or, Bool.not_eq_true] at ha; exact ⟨ha.2, ha.1⟩
    intro o o' k b b' hne h1 h2
    rcases (hs _ _ _).1 h1 with ⟨h1, _⟩ | ⟨_, h1, h3, h4, h5⟩ <;> rcases (hs _ _ _).1 h2 with ⟨h2, _⟩ | ⟨_, h2, h6, h7, h8⟩
    · exact h.no o o' k b b' hne h1 h2
    · have := hmeet o k b (by omega) h1 h6 h7; exact ⟨this.1, by rw [← h8]; exact this.2⟩
    · have := hmeet o' k b' (by omega) h2 h3 h4; exact ⟨by rw [← h5]; exact this.2, this.1⟩
    · omega
def howOf (free : Bool) (x : Lk) : Int := if free then 0 else howB x.a
theorem howOf_three (free : Bool) (x : Lk) : howOf free x = 0 ∨ howOf free x = 1 ∨ howOf free x = 2 := by
  unfold howOf howB
  cases free <;> cases x.a <;> simp
/-- The four owners' runs are what is asked for. -/
theorem runs_spec {free : Bool} {l m : List Lk} {x : Lk} (h : RightK l) (hx : okK x) (hm : free = true ∨ l.any (clash x) = false) (hr : RunsTo (setF l x (howOf free x)) 4 m) : RightK m ∧ HasSpec free l x m := by
  have hok : ∀ y ∈ m, okK y := fun y hy => by
    obtain ⟨a, b, c, d, e⟩ := hr.ok y hy
    exact ⟨a, by omega, c, d, e⟩
  have hin : ∀ {l : List Lk}, (∀ y ∈ l, okK y) → ∀ {o k b}, Has l o k b → 0 ≤ o ∧ o < 4 ∧ 0 ≤ k ∧ k < 1000 := by
    rintro l hl o k b ⟨y, hy, rfl, h1, h2, _⟩
    obtain ⟨a, b, c, d, e⟩ := hl y hy
    exact ⟨a, b, by omega, by omega⟩
  have hs : HasSpec free l x m := by
    intro o k b
    have key : ∀ i : Nat, k = (i : Int) → (setF l x (howOf free x) o i = howB b ↔ (Has l o k b ∧ ¬ (o = x.o ∧ x.f ≤ k ∧ k < x.t)) ∨ (free = false ∧ x.o = o ∧ x.f ≤ k ∧ k < x.t ∧ x.a = b)) := by
      rintro i rfl
      unfold setF
      by_cases hi : o = x.o ∧ x.f ≤ (i : Int) ∧ (i : Int) < x.t
      · rw [if_pos hi]
        constructor
        · intro e
          cases free with
          | true => have := howB_pos b; simp [howOf] at e; omega
          | false => exact .inr ⟨rfl, hi.1.symm, hi.2.1, hi.2.2, howB_inj e⟩
        · rintro (⟨_, hn⟩ | ⟨rfl, _, _, _, rfl⟩)
          · exact absurd hi hn
          · rfl
      · rw [if_neg hi, bytes_has h]
        constructor
        · exact fun hh => .inl ⟨hh, hi⟩
        · rintro (⟨hh, _⟩ | ⟨_, h1, h2, h3, _⟩)
          · exact hh
          · exact absurd ⟨h1.symm, h2, h3⟩ hi
    constructor
    · intro hh
      obtain ⟨a, b', c, d⟩ := hin hok hh
      obtain ⟨i, rfl⟩ := Int.eq_ofNat_of_zero_le c
      exact (key i rfl).1 ((hr.has o i b).1 hh).2.2.2
    · intro hh
      have hb : 0 ≤ o ∧ o < 4 ∧ 0 ≤ k ∧ k < 1000 := by
        rcases hh with ⟨hh, _⟩ | ⟨_, rfl, h2, h3, _⟩
        · exact hin h.ok hh
        · obtain ⟨a, b', c, d, e⟩ := hx; exact ⟨a, b', by omega, by omega⟩
      obtain ⟨i, rfl⟩ := Int.eq_ofNat_of_zero_le hb.2.2.1
      exact (hr.has o i b).2 ⟨hb.1, by omega, by omega, (key i rfl).2 hh⟩
  exact ⟨⟨hok, hr.rises, noClash_spec h hx hm hs⟩, hs⟩
end Go.Proofs.Ytampldoimpfjgab.KM
