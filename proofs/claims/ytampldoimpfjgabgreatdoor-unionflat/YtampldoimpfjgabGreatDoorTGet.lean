/-
  What is at a path behind a change; what tree.Get answers where the entries rise.
-/
import Derived.Test.YtampldoimpfjgabGreatDoorTMove3
namespace Go.Proofs.YtampldoimpfjgabGreatDoor
open Go.RowKit PM Go.Sort
set_option linter.unusedVariables false

theorem getL_congr {a b : List Ent} {q : List UInt8} (ha : Sorted a) (hb : Sorted b) (h : ∀ x, x.p = q → (x ∈ a ↔ x ∈ b)) : getL a q = getL b q := by
  by_cases hq : q = []
  · rw [hq, getL_nil, getL_nil]
  cases h1 : getL a q with
  | none =>
    have := (getL_none h1).2
    exact (getL_none_of hq fun e he hp => this e ((h e hp).2 he) hp).symm
  | some x =>
    obtain ⟨hx, hp⟩ := getL_some hq h1
    have := getL_of hb ((h x hp).1 hx) (by rw [hp]; exact hq)
    rw [hp] at this; exact this.symm
theorem getL_put_same {t : List Ent} {e : Ent} (hs : Sorted t) (he : e.p ≠ []) : getL (putL t e) e.p = some e := getL_of (sorted_putL hs e) (mem_putL.2 (.inl rfl)) he
theorem getL_put_other {t : List Ent} {e : Ent} {q : List UInt8} (hs : Sorted t) (hq : q ≠ e.p) : getL (putL t e) q = getL t q :=
  getL_congr (sorted_putL hs e) hs fun x hx => by
    rw [mem_putL]
    constructor
    · rintro (rfl | ⟨h, _⟩)
      · exact absurd hx.symm hq
      · exact h
    · intro h; exact .inr ⟨h, by rw [hx]; exact hq⟩
theorem getL_rem_same {t : List Ent} {p : List UInt8} (hp : p ≠ []) : getL (remL t p) p = none := getL_none_of hp fun e he => (mem_remL.1 he).2
theorem getL_rem_other {t : List Ent} {p q : List UInt8} (hs : Sorted t) (hq : q ≠ p) : getL (remL t p) q = getL t q :=
  getL_congr (sorted_remL hs p) hs fun x hx => by
    rw [mem_remL]
    exact ⟨fun h => h.1, fun h => ⟨h, by rw [hx]; exact hq⟩⟩
theorem fits_rem {t : List Ent} {p : List UInt8} (hF : Fits t) : Fits (remL t p) := fun x hx => hF x (mem_remL.1 hx).1
/-- What tree.Get answers where the entries rise. -/
theorem get_det (t : List Ent) (q : ByteArray) (p : Option Addr) (cap : Nat) (w : World) (hL : Lies w p t) (hF : Fits t) (hn : t.length < 4611686018427387904) (hq : q.size ≤ maxLen) (hs : Sorted t) (x : Ent) (b : Bool) (hx : (getL t q.data.toList).getD zeroE = x) (hb : (getL t q.data.toList).isSome = b) :
    Calls Tryz.prog 23 #[.slice p t.length cap, .string q] w fun r w' => r = .returned (.tuple #[.agg #[.string x.path, .int .i64 x.kind, .string x.text, .bool x.opq], .bool b]) ∧ Below w.heap.size w w' := by
  refine (get_any t q p cap w hL hF hn hq).mono ?_
  rintro r w' ⟨x', b', rfl, hg, hz, _, hB⟩
  have h1 := getD_of (hg hs) hz
  have h2 : (getL t q.data.toList).isSome = b' := by rw [hg hs]; cases b' <;> rfl
  rw [← hx, h1, ← hb, h2]
  exact ⟨rfl, hB⟩
theorem upA {w W : World} {o o2 : Obj} (h : Below (w.heap.size + 1) (w.alloc o) W) : Below (w.heap.size + 1) (w.alloc o) (W.alloc o2) := h.alloc (by have := h.size; simpa using this) _
end Go.Proofs.YtampldoimpfjgabGreatDoor
