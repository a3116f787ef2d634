/-
  What path.Parse answers, and what it leaves of memory; the closed fact that the statements ask first.
-/
import Derived.Test.YtkbpcjidemkknabGreatDoorWalks2
namespace Go.Proofs.YtkbpcjidemkknabGreatDoor
open Go.RowKit PM
set_option linter.unusedVariables false

namespace PM
def skip (p : List UInt8) : Bool := p.isEmpty || p == [46]
def bad (p : List UInt8) : Bool := !(p == [46, 46]) && !named p
def parseP : List (List UInt8) → Option (List (List UInt8))
  | [] => some []
  | p :: r => if skip p then parseP r else if bad p then none else (parseP r).map (p :: ·)
/-- The names along a path, and what is wrong with it. -/
def parseL (l : List UInt8) : List (List UInt8) × Int :=
  if 80 < l.length then ([], 4) else if l.isEmpty then ([], 6) else match parseP (parts l) with
    | none => ([], 7)
    | some x => (x, 0)
theorem parseP_skip {L : List (List UInt8)} {k : Nat} {p : List UInt8} {d : List (List UInt8)} {r : Option (List (List UInt8))} (hp : L[k]? = some p) (h : r = (parseP (L.drop k)).map (d ++ ·)) (hs : skip p = true) : r = (parseP (L.drop (k + 1))).map (d ++ ·) := by
  obtain ⟨hk, rfl⟩ := List.getElem?_eq_some_iff.1 hp
  rw [h, List.drop_eq_getElem_cons hk, parseP, if_pos hs]
theorem parseP_bad {L : List (List UInt8)} {k : Nat} {p : List UInt8} {d : List (List UInt8)} {r : Option (List (List UInt8))} (hp : L[k]? = some p) (h : r = (parseP (L.drop k)).map (d ++ ·)) (hs : skip p = false) (hb : bad p = true) : r = none := by
  obtain ⟨hk, rfl⟩ := List.getElem?_eq_some_iff.1 hp
  rw [h, List.drop_eq_getElem_cons hk, parseP, if_neg (by simp [hs]), if_pos hb]; rfl
theorem parseP_good {L : List (List UInt8)} {k : Nat} {p : List UInt8} {d : List (List UInt8)} {r : Option (List (List UInt8))} (hp : L[k]? = some p) (h : r = (parseP (L.drop k)).map (d ++ ·)) (hs : skip p = false) (hb : bad p = false) : r = (parseP (L.drop (k + 1))).map (d ++ [p] ++ ·) := by
  obtain ⟨hk, rfl⟩ := List.getElem?_eq_some_iff.1 hp
  rw [h, List.drop_eq_getElem_cons hk, parseP, if_neg (by simp [hs]), if_neg (by simp [hb])]
  cases parseP (L.drop (k + 1)) <;> simp
end PM

/-- The slice v holds the strings bs, in memory of the call's own from 'base' on. -/
def Strs (w : World) (base : Nat) (v : Value) (bs : List ByteArray) : Prop := w.ownsRow base 9 1 v bs.length (bs.map Value.string)
theorem Strs.nil (w : World) (base : Nat) : Strs w base (.slice none 0 0) [] := World.ownsRow_nil _ _ _ _
theorem Strs.mono {w : World} {base base' : Nat} {v : Value} {bs : List ByteArray} (h : Strs w base v bs) (hb : base' ≤ base) : Strs w base' v bs := by
  refine ⟨h.1, h.2.imp id ?_⟩
  rintro ⟨g, cap, cur, e, hg, r⟩
  exact ⟨g, cap, cur, e, Nat.le_trans hb hg, r⟩
theorem Strs.below {w w' : World} {base : Nat} {v : Value} {bs : List ByteArray} (h : Strs w base v bs) (hb : Below w.heap.size w w') : Strs w' base v bs := by
  refine ⟨h.1, h.2.imp id ?_⟩
  rintro ⟨g, cap, cur, e, hg, hh, r⟩
  have hlt : g < w.heap.size := by
    rcases Nat.lt_or_ge g w.heap.size with h' | h'
    · exact h'
    · rw [Array.getElem?_eq_none h'] at hh; cases hh
  exact ⟨g, cap, cur, e, hg, by rw [hb.block g hlt]; exact hh, r⟩
theorem Strs.of_row {w : World} {base : Nat} {v : Value} {bs : List ByteArray} (h : w.ownsRow base 9 1 v bs.length (bs.map Value.string)) : Strs w base v bs := h

theorem info9 : ∃ i0, Tryz.prog.info? 9 = some i0 ∧ i0.zero = some (.string ByteArray.empty) ∧ i0.size = 1 ∧ i0.bytes = 16 := by
  have h : (Tryz.prog.info? 9).map (fun i => (i.zero, i.size, i.bytes)) = some (some (.string ByteArray.empty), 1, 16) := by kernel_rfl
  cases hi : Tryz.prog.info? 9 with
  | none => rw [hi] at h; cases h
  | some i0 =>
    rw [hi] at h
    simp only [Option.map_some, Option.some.injEq, Prod.mk.injEq] at h
    exact ⟨i0, rfl, h.1, h.2.1, h.2.2⟩

theorem beq_lit (p : ByteArray) (l : List UInt8) (b : Bool) (h : (p.data.toList == l) = b) : (p.toList == l) = b := by
  rw [Lib.toList_data]; exact h
theorem eq_lit (p : ByteArray) (l : List UInt8) (h : (p.data.toList == l) = true) : p.toList = l := by
  rw [Lib.toList_data]; simpa using h
theorem ne_lit (p : ByteArray) (l : List UInt8) (h : (p.data.toList == l) = false) : ¬ p.toList = l := by
  rw [Lib.toList_data]; simpa using h
theorem skip_no {p : List UInt8} (h : skip p = false) : ¬ p = [] ∧ (p == [46]) = false := by
  simp only [skip, Bool.or_eq_false_iff] at h
  refine ⟨?_, h.2⟩
  rintro rfl
  simp at h
theorem skip_yes {p : List UInt8} (h : skip p = true) (h0 : ¬ p = []) : (p == [46]) = true := by
  simp only [skip, Bool.or_eq_true] at h
  rcases h with h | h
  · exact absurd (List.isEmpty_iff.1 h) h0
  · exact h
theorem bad_yes {p : List UInt8} (h : bad p = true) : (p == [46, 46]) = false ∧ named p = false := by
  simpa only [bad, Bool.and_eq_true, Bool.not_eq_true'] using h
theorem bad_no {p : List UInt8} (h : bad p = false) : (p == [46, 46]) = true ∨ (p == [46, 46]) = false ∧ named p = true := by
  cases h1 : (p == [46, 46]) with
  | true => exact .inl rfl
  | false => rw [bad, h1] at h; exact .inr ⟨rfl, by simpa using h⟩

/-- What a call that answers a list of names and a number leaves. -/
def ParsePost (w : World) (l : List (List UInt8)) (n : Int) (e : Ending) (w' : World) : Prop :=
  (∃ v bs, e = .returned (.tuple #[v, .int .i64 n]) ∧ Strs w' w.heap.size v bs ∧ bs.map (·.data.toList) = l) ∧ Below w.heap.size w w'
theorem ParsePost.mk {w w' : World} {l l' : List (List UInt8)} {n n' : Int} {v : Value} {bs : List ByteArray} {P : List (List UInt8) × Int} (hP : P = (l', n')) (hn : P.2 = n) (hl : P.1 = l) (h : Strs w' w.heap.size v bs) (he : bs.map (·.data.toList) = l') (hB : Below w.heap.size w w') :
    ParsePost w l n (.returned (.tuple #[v, .int .i64 n'])) w' := by
  subst hP; subst hn; subst hl
  exact ⟨⟨v, bs, rfl, h, he⟩, hB⟩
end Go.Proofs.YtkbpcjidemkknabGreatDoor
