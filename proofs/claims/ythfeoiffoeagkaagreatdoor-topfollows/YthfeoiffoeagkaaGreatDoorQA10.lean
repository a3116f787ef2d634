/-
  Entries appended one by one, in memory of the call's own.
-/
import Derived.Test.YthfeoiffoeagkaaGreatDoorQA5
namespace Go.Proofs.YthfeoiffoeagkaaGreatDoor
open Go.RowKit PM Go.Sort
set_option linter.unusedVariables false
def Rows (w : World) (base : Nat) (v : Value) (l : List Ent) : Prop := w.ownsRow base 53 4 v l.length (l.flatMap encE)
theorem Rows.nil (w : World) (base : Nat) : Rows w base (.slice none 0 0) [] := World.ownsRow_nil _ _ _ _
theorem Rows.mono {w : World} {base base' : Nat} {v : Value} {l : List Ent} (h : Rows w base v l) (hb : base' ≤ base) : Rows w base' v l := by
 refine ⟨h.1, h.2.imp id ?_⟩
 rintro ⟨g, cap, cur, e, hg, r⟩
 exact ⟨g, cap, cur, e, Nat.le_trans hb hg, r⟩
theorem Rows.below {w w' : World} {base : Nat} {v : Value} {l : List Ent} (h : Rows w base v l) (hb : Below w.heap.size w w') : Rows w' base v l := by
 refine ⟨h.1, h.2.imp id ?_⟩
 rintro ⟨g, cap, cur, e, hg, hh, r⟩
 have hlt : g < w.heap.size := by
  rcases Nat.lt_or_ge g w.heap.size with h' | h'
  ·exact h'
  ·rw [Array.getElem?_eq_none h'] at hh; cases hh
 exact ⟨g, cap, cur, e, hg, by rw [hb.block g hlt]; exact hh, r⟩
theorem Rows.form {w : World} {base : Nat} {v : Value} {l : List Ent} (h : Rows w base v l) : ∃ p c, v = .slice p l.length c ∧ Lies w p l ∧ l.length ≤ c ∧ (p = none → c = 0) := by
 by_cases hv : v = .slice none 0 0
 ·have hl : l = [] := by
   obtain ⟨h1, ⟨_, h2⟩ | ⟨g, cap, cur, hv', _⟩⟩ := h
   ·exact List.eq_nil_of_length_eq_zero h2
   ·rw [hv'] at hv; cases hv
  subst hl
  exact ⟨none, 0, hv, Lies.nil _ _, Nat.le_refl _, fun _ => rfl⟩
 ·obtain ⟨g, c, e, _, ho⟩ := Own.of_row h hv rfl
  exact ⟨_, c, e, ho.lies, ho.len, fun h => by cases h⟩
theorem row_one_new (W : World) (y : Ent) (H : Nat) (hH : H = W.heap.size) : ∀ j u, (encE y)[j]? = some u → (W.alloc (.cells #[.string y.path, .int .i64 y.kind, .string y.text, .bool y.opq] 53)).cell? ((⟨H, 0, none⟩ : Addr).add j) = some u := by
 subst hH
 intro j u h
 have hj := encE_lt h
 obtain rfl | rfl | rfl | rfl : j = 0 ∨ j = 1 ∨ j = 2 ∨ j = 3 := by omega
 all_goals (simp [encE] at h; subst h; rw [Addr.add_lit]; simp)
def RowsPost (l : List Ent) (w : World) (e : Ending) (w' : World) : Prop := (∃ v, e = .returned v ∧ Rows w' w.heap.size v l) ∧ Below w.heap.size w w'
theorem append_row {ops : Array Oper} {rest : List Oper} {o : Oper} {a : Act} {Q : Exit → Act → World → Prop} (X : World) (y : Ent) (hgd : o.guard = none) (s x : Operand)
  (ho : o.op = .call { callee := .builtin .append, args := #[s, x], argTypes := #[23, 23] }) (base : Nat) (v : Value) (l : List Ent) (hs : a.eval s = v) (hrow : Rows X base v l) (hlen : l.length ≤ 20000) (hbase : base ≤ X.heap.size)
  (H : Nat) (hH : H = X.heap.size) (hx : a.eval x = .slice (some ⟨H, 0, none⟩) 1 1)
  (h : ∀ v' w', Rows w' base v' (l ++ [y]) → Below base X w' → (∀ ad : Addr, ad.block < X.heap.size → (∀ g, v.ownBlock = some g → ad.block ≠ g) → w'.cell? ad = X.cell? ad) → X.heap.size ≤ w'.heap.size → wpList Tryz.prog ops Q rest (a.put o.dst v') w') :
  wpList Tryz.prog ops Q (o :: rest) a (X.alloc (.cells #[.string y.path, .int .i64 y.kind, .string y.text, .bool y.opq] 53)) := by
 obtain ⟨i0, hi, hz0, hz1, hz2⟩ := info38
 refine wpList_append_own _ hgd s x 23 ho base 53 i0 _ 4 48 Tryz.underlying23 hi hz0 hz1 hz2 rfl (by decide) _ _ _ hs (World.ownsRow.alloc hrow _) _ 1 1 (encE y) hx rfl (row_one_new _ _ _ hH) (fun u hu => flat_one (t := [y]) (by simpa using hu)) (by unfold maxLen; omega) (by omega) (by simp; omega) ?_
 intro v' w' hown hgrow _
 have hsz : X.heap.size ≤ w'.heap.size := by have := hgrow.size; simp at this; omega
 refine h v' w' (by simpa [Rows] using hown) (((Below.refl base X).alloc hbase _).grown hgrow (by simp; omega) (fun j hj => (World.ownsRow.lt hrow j hj).1)) (fun ad had hne => ?_) hsz
 have h1 : w'.cell? ad = (X.alloc (.cells #[.string y.path, .int .i64 y.kind, .string y.text, .bool y.opq] 53)).cell? ad := World.cell?_of_block (hgrow.block _ (by simp; omega) (fun e => hne _ e.symm rfl))
 rw [h1]
 exact ((Grown.refl X).alloc _).cell had
end Go.Proofs.YthfeoiffoeagkaaGreatDoor
