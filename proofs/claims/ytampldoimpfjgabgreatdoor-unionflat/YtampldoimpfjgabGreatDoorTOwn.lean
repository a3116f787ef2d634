/-
  A row of entries in a block of the call's own: how it is read, written, cut, and kept.
-/
import Derived.Test.YtampldoimpfjgabGreatDoorTWalks7
import Derived.Lib.SliceRun
import Derived.Laws.AppendOwnNone
namespace Go.Proofs.YtampldoimpfjgabGreatDoor
open Go.RowKit PM Go.Sort
set_option linter.unusedVariables false

def Own (w : World) (g cap : Nat) (l : List Ent) : Prop :=
  ∃ cur : Array Value, w.heap[g]? = some (.cells cur 28 (0, 0)) ∧ cur.size = cap * 4 ∧ l.length ≤ cap ∧ cap ≤ maxLen ∧ ∀ j e, l[j]? = some e → ∀ i v, (encE e)[i]? = some v → cur[j * 4 + i]? = some v
theorem encE_len (e : Ent) : (encE e).length = 4 := rfl
theorem encE_lt {e : Ent} {i : Nat} {v : Value} (h : (encE e)[i]? = some v) : i < 4 := by
  have := (List.getElem?_eq_some_iff.1 h).1; rwa [encE_len] at this
theorem flat_len (ns : List Ent) : (ns.flatMap encE).length = ns.length * 4 := by
  induction ns with
  | nil => rfl
  | cons x r ih => rw [List.flatMap_cons, List.length_append, ih, encE_len]; simp; omega
section
variable {w w' W : World} {g cap : Nat} {l : List Ent}
theorem Own.lt (h : Own w g cap l) : g < w.heap.size := by
  obtain ⟨cur, hc, _⟩ := h
  exact (Array.getElem?_eq_some_iff.1 hc).1
theorem Own.len (h : Own w g cap l) : l.length ≤ cap := by obtain ⟨_, _, _, h, _⟩ := h; exact h
theorem Own.max (h : Own w g cap l) : cap ≤ maxLen := by obtain ⟨_, _, _, _, h, _⟩ := h; exact h
theorem Own.frozen (h : Own w g cap l) (o : Nat) : w.frozen? ⟨g, o, none⟩ = false := by
  obtain ⟨cur, hc, _⟩ := h
  simp [World.frozen?, hc]
theorem Own.there (h : Own w g cap l) {o : Nat} (ho : o < cap * 4) : (w.cell? ⟨g, o, none⟩).isSome = true := by
  obtain ⟨cur, hc, hs, _⟩ := h
  simp [World.cell?, hc, hs, ho]
theorem Own.cell (h : Own w g cap l) {j : Nat} {e : Ent} (he : l[j]? = .some e) {i : Nat} {v : Value} (hv : (encE e)[i]? = .some v) : w.cell? ⟨g, j * 4 + i, none⟩ = .some v := by
  obtain ⟨cur, hc, _, _, _, h⟩ := h
  simp [World.cell?, hc, h j e he i v hv]
theorem Own.cells (h : Own w g cap l) {j : Nat} {e : Ent} (he : l[j]? = .some e) :
    (w.cell? ⟨g, j * 4, none⟩ = .some (.string e.path) ∧ w.cell? ⟨g, j * 4 + 1, none⟩ = .some (.int .i64 e.kind) ∧ w.cell? ⟨g, j * 4 + 2, none⟩ = .some (.string e.text) ∧ w.cell? ⟨g, j * 4 + 3, none⟩ = .some (.bool e.opq)) ∧
    (w.frozen? ⟨g, j * 4, none⟩ = false ∧ w.frozen? ⟨g, j * 4 + 1, none⟩ = false ∧ w.frozen? ⟨g, j * 4 + 2, none⟩ = false ∧ w.frozen? ⟨g, j * 4 + 3, none⟩ = false) :=
  ⟨⟨h.cell he (i := 0) rfl, h.cell he (i := 1) rfl, h.cell he (i := 2) rfl, h.cell he (i := 3) rfl⟩, h.frozen _, h.frozen _, h.frozen _, h.frozen _⟩
theorem Own.lies (h : Own w g cap l) : Lies w (.some ⟨g, 0, none⟩) l :=
  .inr ⟨g, 0, rfl, h.lt, fun j e he i v hv => by rw [Nat.zero_add]; exact h.cell he hv⟩
theorem Own.kept (h : Own w g cap l) (hk : w'.heap[g]? = w.heap[g]?) : Own w' g cap l := by
  obtain ⟨cur, hc, h⟩ := h
  exact ⟨cur, hk.trans hc, h⟩
theorem Own.below (h : Own w g cap l) {B : Nat} (hB : Below B w w') (hg : g < B) : Own w' g cap l := h.kept (hB.block g hg)
theorem Own.grown (h : Own w g cap l) (hB : Grown w w') : Own w' g cap l := h.below hB.below h.lt
theorem Own.take (h : Own w g cap l) (k : Nat) : Own w g cap (l.take k) := by
  obtain ⟨cur, hc, hs, hl, hm, h⟩ := h
  refine ⟨cur, hc, hs, by rw [List.length_take]; omega, hm, fun j e he => h j e ?_⟩
  rw [List.getElem?_take] at he
  split at he
  · exact he
  · cases he
theorem heap_set {cur : Array Value} {t : TypeId} {f : Nat × Nat} (h : w.heap[g]? = .some (.cells cur t f)) (o : Nat) (v : Value) : (w.setCell ⟨g, o, none⟩ v).heap[g]? = .some (.cells (cur.setIfInBounds o v) t f) := by
  simp [World.setCell, Array.getElem?_modify, h]
theorem Own.setCells {vs : List Value} {o : Nat} (h : Own w g cap l) : ∃ cur cur' : Array Value, w.heap[g]? = .some (.cells cur 28 (0, 0)) ∧ (w.setCells g o vs).heap[g]? = .some (.cells cur' 28 (0, 0)) ∧ cur'.size = cur.size ∧ (∀ x, x < o ∨ o + vs.length ≤ x → cur'[x]? = cur[x]?) ∧ (∀ j v, vs[j]? = .some v → o + j < cur.size → cur'[o + j]? = .some v) := by
  obtain ⟨cur, hc, _⟩ := h
  refine ⟨cur, ?_⟩
  have key : ∀ (vs : List Value) (o : Nat) (w : World) (cur : Array Value), w.heap[g]? = .some (.cells cur 28 (0, 0)) → ∃ cur' : Array Value, (w.setCells g o vs).heap[g]? = .some (.cells cur' 28 (0, 0)) ∧ cur'.size = cur.size ∧ (∀ x, x < o ∨ o + vs.length ≤ x → cur'[x]? = cur[x]?) ∧ (∀ j v, vs[j]? = .some v → o + j < cur.size → cur'[o + j]? = .some v) := by
    intro vs
    induction vs with
    | nil => intro o w cur hc; exact ⟨cur, hc, rfl, fun _ _ => rfl, fun j v hj => by simp at hj⟩
    | cons v r ih =>
      intro o w cur hc
      obtain ⟨cur', h1, h2, h3, h4⟩ := ih (o + 1) (w.setCell ⟨g, o, none⟩ v) _ (heap_set hc o v)
      refine ⟨cur', h1, by rw [h2]; simp, fun x hx => ?_, fun j u hj hlt => ?_⟩
      · rw [h3 x (by simp at hx; omega), Array.getElem?_setIfInBounds, if_neg (by simp at hx; omega)]
      · cases j with
        | zero =>
          simp at hj; subst hj
          rw [Nat.add_zero, h3 o (by omega), Array.getElem?_setIfInBounds, if_pos rfl, if_pos (by omega)]
        | succ j => rw [show o + (j + 1) = o + 1 + j by omega]; exact h4 j u (by simpa using hj) (by simp; omega)
  obtain ⟨cur', h1, h2, h3, h4⟩ := key vs o w cur hc
  exact ⟨cur', hc, h1, h2, h3, h4⟩
/-- Written behind the row. -/
theorem Own.beyond {vs : List Value} {o : Nat} (h : Own w g cap l) (ho : l.length * 4 ≤ o) : Own (w.setCells g o vs) g cap l := by
  obtain ⟨cur, cur', h0, h1, h2, h3, _⟩ := h.setCells (vs := vs) (o := o)
  obtain ⟨c, hc, hs, hl, hm, hh⟩ := h
  obtain rfl : c = cur := by have := hc.symm.trans h0; simpa using this
  refine ⟨cur', h1, by rw [h2, hs], hl, hm, fun j e he i v hv => ?_⟩
  have hj := (List.getElem?_eq_some_iff.1 he).1
  have hi := encE_lt hv
  rw [h3 _ (by omega)]; exact hh j e he i v hv
/-- A run of entries written over the row from place j on. -/
theorem Own.over {ns : List Ent} {j : Nat} (h : Own w g cap l) (hj : j ≤ l.length) (hc : j + ns.length ≤ cap) : Own (w.setCells g (j * 4) (ns.flatMap encE)) g cap (l.take j ++ ns ++ l.drop (j + ns.length)) := by
  obtain ⟨cur, cur', h0, h1, h2, h3, h4⟩ := h.setCells (vs := ns.flatMap encE) (o := j * 4)
  obtain ⟨c, hc0, hs, hl, hm, hh⟩ := h
  obtain rfl : c = cur := by have := hc0.symm.trans h0; simpa using this
  have hfl := flat_len ns
  refine ⟨cur', h1, by rw [h2, hs], by simp; omega, hm, fun k e he i v hv => ?_⟩
  have hi := encE_lt hv
  by_cases c1 : k < j
  · rw [List.append_assoc, List.getElem?_append_left (by rw [List.length_take]; omega), List.getElem?_take, if_pos c1] at he
    rw [h3 _ (by omega)]; exact hh k e he i v hv
  · by_cases c2 : k < j + ns.length
    · rw [List.append_assoc, List.getElem?_append_right (by rw [List.length_take]; omega), List.length_take, Nat.min_eq_left hj, List.getElem?_append_left (by omega)] at he
      rw [show k * 4 + i = j * 4 + ((k - j) * 4 + i) by omega]
      refine h4 _ v ?_ (by rw [hs]; omega)
      have key : ∀ (ns : List Ent) (q : Nat), ns[q]? = .some e → (ns.flatMap encE)[q * 4 + i]? = .some v := by
        intro ns
        induction ns with
        | nil => intro q hq; simp at hq
        | cons x r ih =>
          intro q hq
          rw [List.flatMap_cons]
          cases q with
          | zero => simp at hq; subst hq; rw [List.getElem?_append_left (by rw [encE_len]; omega)]; simpa using hv
          | succ q =>
            rw [List.getElem?_append_right (by rw [encE_len]; omega), encE_len, show (q + 1) * 4 + i - 4 = q * 4 + i by omega]
            exact ih q (by simpa using hq)
      exact key ns _ he
    · rw [List.getElem?_append_right (by rw [List.length_append, List.length_take]; omega), List.length_append, List.length_take, Nat.min_eq_left hj, List.getElem?_drop, show j + ns.length + (k - (j + ns.length)) = k by omega] at he
      rw [h3 _ (by rw [hfl]; omega)]; exact hh k e he i v hv
theorem set_eq (l : List Ent) (j : Nat) (e : Ent) (hj : j < l.length) : l.take j ++ [e] ++ l.drop (j + 1) = l.set j e := by
  apply List.ext_getElem?
  intro k
  rw [List.getElem?_set]
  by_cases c1 : k < j
  · rw [List.append_assoc, List.getElem?_append_left (by rw [List.length_take]; omega), List.getElem?_take, if_pos c1, if_neg (by omega)]
  · by_cases c2 : k = j
    · subst c2
      rw [List.append_assoc, List.getElem?_append_right (by rw [List.length_take]; omega), List.length_take, Nat.min_eq_left (by omega)]
      simp [hj]
    · rw [List.getElem?_append_right (by simp; omega), if_neg (by omega)]
      simp only [List.length_append, List.length_take, Nat.min_eq_left (Nat.le_of_lt hj), List.length_singleton, List.getElem?_drop]
      congr 1; omega
/-- One entry written over. -/
theorem Own.set (h : Own w g cap l) {j : Nat} (hj : j < l.length) (e : Ent) : Own ((((w.setCell ⟨g, j * 4, none⟩ (.string e.path)).setCell ⟨g, j * 4 + 1, none⟩ (.int .i64 e.kind)).setCell ⟨g, j * 4 + 2, none⟩ (.string e.text)).setCell ⟨g, j * 4 + 3, none⟩ (.bool e.opq)) g cap (l.set j e) := by
  have := h.over (ns := [e]) (j := j) (by omega) (by have := h.len; simp; omega)
  rw [List.length_singleton, set_eq l j e hj] at this
  exact this

/-! what else has turned -/
theorem gby_refl (w : World) (r : Option Nat) : w.grownBy w r := ⟨rfl, rfl, rfl, Nat.le_refl _, fun _ _ _ => rfl⟩
theorem gby_below (h : w.grownBy W (.some g)) (hB : Below W.heap.size W w') : w.grownBy w' (.some g) :=
  ⟨hB.os.trans h.os, hB.tape.trans h.tape, hB.output.trans h.output, Nat.le_trans h.size hB.size, fun k hk hn => (hB.block k (Nat.lt_of_lt_of_le hk h.size)).trans (h.block k hk hn)⟩
theorem gby_grown (h : w.grownBy W (.some g)) (hB : Grown W w') : w.grownBy w' (.some g) := gby_below h hB.below
theorem gby_alloc (h : w.grownBy W (.some g)) (o : Obj) : w.grownBy (W.alloc o) (.some g) := gby_grown h ((Grown.refl W).alloc o)
theorem gby_set (h : w.grownBy W (.some g)) (o : Nat) (v : Value) : w.grownBy (W.setCell ⟨g, o, none⟩ v) (.some g) :=
  ⟨h.os, h.tape, h.output, by simp [World.setCell]; exact h.size, fun k hk hn => (Below.heap_setCell _ _ _ _ (by intro e; exact hn (by rw [e]))).trans (h.block k hk hn)⟩
theorem gby_setCells : ∀ (vs : List Value) (o : Nat) (W : World), w.grownBy W (.some g) → w.grownBy (W.setCells g o vs) (.some g)
  | [], _, _, h => h
  | v :: r, o, W, h => gby_setCells r (o + 1) _ (gby_set h o v)
theorem gby_cell (h : w.grownBy W (.some g)) {a : Addr} (ha : a.block < w.heap.size) (hn : a.block ≠ g) : W.cell? a = w.cell? a := World.cell?_of_block (w := w) (h.block _ ha (by simpa using hn))
theorem gby_trans {W2 : World} (h : w.grownBy W (.some g)) (k : W.grownBy W2 (.some g)) : w.grownBy W2 (.some g) :=
  ⟨k.os.trans h.os, k.tape.trans h.tape, k.output.trans h.output, Nat.le_trans h.size k.size, fun i hi hn => (k.block i (Nat.lt_of_lt_of_le hi h.size) hn).trans (h.block i hi hn)⟩
end
end Go.Proofs.YtampldoimpfjgabGreatDoor
