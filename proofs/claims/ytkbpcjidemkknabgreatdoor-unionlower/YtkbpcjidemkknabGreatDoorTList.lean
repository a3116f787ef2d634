/-
  tree.List of a right tree: the names of what lies right in a directory.
-/
import Derived.Test.YtkbpcjidemkknabGreatDoorTSame
namespace Go.Proofs.YtkbpcjidemkknabGreatDoor
open Go.RowKit PM Go.Sort
set_option linter.unusedVariables false

def namesL (t : List Ent) (q : List UInt8) : List (List UInt8) := (t.filter fun e => decide (dirOf e.p = q)).map fun e => (cutL e.p).2
def listL (t : List Ent) (q : List UInt8) : List (List UInt8) × Int := if noDirL t q = 0 then (namesL t q, 0) else ([], noDirL t q)
theorem names_step {t : List Ent} {k : Nat} {y : Ent} {q : List UInt8} (hy : t[k]? = some y) : namesL (t.take (k + 1)) q = namesL (t.take k) q ++ (if dirOf y.p = q then [(cutL y.p).2] else []) := by
  rw [take_step hy]
  unfold namesL
  rw [List.filter_append, List.map_append]
  by_cases h : dirOf y.p = q <;> simp [h]
theorem cut_grown (s : ByteArray) (w : World) (hs : s.size < 4611686018427387904) : Calls Tryz.prog 53 #[.string s] w fun e w' => (∃ d n : ByteArray, e = .returned (.tuple #[.string d, .string n]) ∧ d.data.toList = (cutL s.data.toList).1 ∧ n.data.toList = (cutL s.data.toList).2) ∧ Grown w w' :=
  (cut_any s w hs).mono fun e w' ⟨h, n, hw⟩ => ⟨h, by rw [hw]; exact (Grown.refl w).drewN n⟩
theorem below_build {w wr w3 w1 : World} {o : Obj} {base : Nat} {r : Option Nat} (hB : Below base w wr) (hb : base ≤ wr.heap.size) (hG : Grown (wr.alloc o) w3) (o2 : Obj) (hg : (w3.alloc o2).grownBy w1 r) (hr : ∀ k, r = some k → base ≤ k) : Below base w w1 := by
  have h1 : Below base w w3 := (hB.alloc hb o).trans (hG.below.mono (by simp; omega))
  have h3 := hG.size
  simp at h3
  exact (h1.alloc (by omega) o2).grown hg (by simp; omega) hr

theorem eq_cases (d q : ByteArray) : ((d.toList == q.toList) = true ∧ Aside (d.data.toList = q.data.toList)) ∨ ((d.toList == q.toList) = false ∧ Aside (¬ d.data.toList = q.data.toList)) := by
  by_cases h : d.data.toList = q.data.toList
  · exact .inl ⟨(eq_parts h).1, h⟩
  · exact .inr ⟨(ne_parts h).1, h⟩
end Go.Proofs.YtkbpcjidemkknabGreatDoor
