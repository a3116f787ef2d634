/-
  The statement LockByte, walked.
-/
import Derived.Test.YtampldoimpfjgabK8
namespace Go.Proofs.Ytampldoimpfjgab
open Go.RowKit Go.Sort KM
set_option linter.unusedVariables false

def coverK (o k : Int) (y : Lk) : Bool := decide (y.o = o) && decide (y.f ≤ k) && decide (k < y.t)
theorem howL_none {l : List Lk} {o k : Int} (h : ∀ x ∈ l, coverK o k x = false) : howL l o k = 0 := by
  unfold howL
  rw [List.find?_eq_none.2 (fun x hx => by have := h x hx; unfold coverK at this; simp [this])]
theorem howL_at {l : List Lk} {o k : Int} {j : Nat} {y : Lk} (hy : l[j]? = some y) (hc : coverK o k y = true) (h : ∀ x ∈ l.take j, coverK o k x = false) : howL l o k = if y.a then 2 else 1 := by
  unfold howL
  have := find_at hy hc h
  unfold coverK at this
  rw [this]
theorem cover_cases (o k : Int) (y : Lk) : (coverK o k y = true ∧ y.o = o ∧ y.f ≤ k ∧ k < y.t) ∨ (coverK o k y = false ∧ (((y.o == o) = false) ∨ ((y.o == o) = true ∧ (¬ y.f ≤ k ∨ (y.f ≤ k ∧ ¬ k < y.t))))) := by
  unfold coverK
  by_cases h1 : y.o = o <;> by_cases h2 : y.f ≤ k <;> by_cases h3 : k < y.t <;> simp [h1, h2, h3] <;> omega
set_option maxHeartbeats 400000 in
theorem how_any (l : List Lk) (o k : Int) (B1 B2 : Nat) (p : Option Addr) (cap : Nat) (w : World) (hL : Lies w p l) (hn : l.length < 4611686018427387904) (h1 : w.cell? ⟨B1, 0, none⟩ = some (.int .i64 o)) (h2 : w.cell? ⟨B2, 0, none⟩ = some (.int .i64 k)) (hb1 : B1 < w.heap.size) (hb2 : B2 < w.heap.size) :
    Calls Try.prog 17 #[.slice p l.length cap, .pointer (some ⟨B1, 0, none⟩), .pointer (some ⟨B2, 0, none⟩)] w fun r w' => r = .returned (.int .i64 (howL l o k)) ∧ Below w.heap.size w w' := by
  have HL : Aside (Lies w p l) := hL
  have H1 : Aside (w.cell? ⟨B1, 0, none⟩ = some (.int .i64 o)) := h1
  have H2 : Aside (w.cell? ⟨B2, 0, none⟩ = some (.int .i64 k)) := h2
  clear hL h1 h2
  obtain ⟨n, hnl⟩ : ∃ n, n = l.length := ⟨_, rfl⟩
  have HN : Aside (n = l.length) := hnl
  rw [← hnl] at hn ⊢
  clear hnl
  go_enter Try.func17, Try.ntmps17
  go_wp2
  go_loopg [9] n (fun gg s9 wr => ∃ j : Nat, j ≤ n ∧ n - j ≤ gg ∧ s9 = .int .i64 j ∧ Aside (Grown w wr) ∧ Aside (∀ x ∈ l.take j, coverK o k x = false))
  case atStart => exact ⟨0, Nat.zero_le _, by omega, rfl, Grown.refl w, by intro x hx; simp at hx⟩
  case round =>
    obtain ⟨j, hj, hg, rfl, BW, HA⟩ := hrel
    have hs := BW.out.size
    by_cases hlt : j < n
    · have hltz : (j : Int) < (n : Int) := by omega
      obtain ⟨y, hy⟩ : ∃ y, l[j]? = some y := ⟨_, List.getElem?_eq_getElem (by have := HN.out; omega)⟩
      have HY : Aside (l[j]? = some y) := hy
      rcases HL.out with h0 | ⟨b, off, rfl, hb, hc⟩
      · rw [h0] at hy; simp at hy
      obtain ⟨c0, c1, c2, c3⟩ := Lies.cells hc hb BW.out.below hy
      have hb' : b < wr.heap.size := by omega
      have hne : b ≠ wr.heap.size := by omega
      have d1 := (BW.out.cell (p := ⟨B1, 0, none⟩) hb1).trans H1.out
      have d2 := (BW.out.cell (p := ⟨B2, 0, none⟩) hb2).trans H2.out
      have e1 : B1 < wr.heap.size := by omega
      have e2 : B2 < wr.heap.size := by omega
      have e3 : B1 ≠ wr.heap.size := by omega
      have e4 : B2 ≠ wr.heap.size := by omega
      clear hc hy
      obtain ⟨yo, yf, yt, ya⟩ := y
      simp only at c0 c1 c2 c3
      rcases cover_cases o k ⟨yo, yf, yt, ya⟩ with ⟨hcv, g1, g2, g3⟩ | ⟨hcv, hw⟩
      · simp only at g1 g2 g3
        have HR : Aside (howL l o k = if ya then 2 else 1) := howL_at HY.out hcv HA.out
        clear hcv
        subst g1
        cases ya
        · go_wp2
          go_ret
          exact ⟨ret_int (by rw [HR.out]; rfl), (BW.out.alloc _).below⟩
        · go_wp2
          go_ret
          exact ⟨ret_int (by rw [HR.out]; rfl), (BW.out.alloc _).below⟩
      · have HR : Aside (∀ x ∈ l.take (j + 1), coverK o k x = false) := take_false HY.out hcv HA.out
        clear hcv
        simp only at hw
        rcases hw with g1 | ⟨g1, g2 | ⟨g2, g3⟩⟩ <;>
        (go_wp2
         go_roundg (n - (j + 1))
         case measure => omega
         case rel => exact ⟨j + 1, by omega, by omega, by go_num, BW.out.alloc _, HR.out⟩)
    · have hltz : ¬ (j : Int) < (n : Int) := by omega
      have HR : Aside (howL l o k = 0) := howL_none (fun x hx => HA.out x (by rw [List.take_of_length_le (by have := HN.out; omega)]; exact hx))
      go_wp2
      go_ret
      exact ⟨ret_int HR.out.symm, BW.out.below⟩
/-- How the byte must be then. -/
theorem byte_spec {free : Bool} {l m : List Lk} {x : Lk} (hs : SetSpec free l x 0 m) (o k : Int) :
    (¬ (o = x.o ∧ x.f ≤ k ∧ k < x.t) → howL l o k = howL m o k) ∧ ((o = x.o ∧ x.f ≤ k ∧ k < x.t) → howL m o k = if free then 0 else howB x.a) := by
  rcases spec_right hs with ⟨h, _⟩ | ⟨_, h1, _, h2, h3⟩
  · exact absurd rfl h
  · exact how_spec h1 h2 h3 o k
/-- The boxes of LockByte: the lock, the owner, the byte. -/
structure BBox (x : Lk) (o k : Int) (w W : World) : Prop where
  below : Below w.heap.size w W
  x0 : W.cell? ⟨w.heap.size, 0, none⟩ = some (.int .i64 x.o)
  x1 : W.cell? ⟨w.heap.size, 1, none⟩ = some (.int .i64 x.f)
  x2 : W.cell? ⟨w.heap.size, 2, none⟩ = some (.int .i64 x.t)
  x3 : W.cell? ⟨w.heap.size, 3, none⟩ = some (.bool x.a)
  co : W.cell? ⟨w.heap.size + 1, 0, none⟩ = some (.int .i64 o)
  ck : W.cell? ⟨w.heap.size + 1 + 1, 0, none⟩ = some (.int .i64 k)
  size : w.heap.size + 3 ≤ W.heap.size
theorem BBox.kept {x : Lk} {o k : Int} {w W W' : World} (h : BBox x o k w W) (hN : Below W.heap.size W W') : BBox x o k w W' := by
  have hs := h.size
  have hz := hN.size
  exact ⟨Below.onto h.below hN, (hN.cell (p := ⟨w.heap.size, 0, none⟩) (by show w.heap.size < _; omega)).trans h.x0, (hN.cell (p := ⟨w.heap.size, 1, none⟩) (by show w.heap.size < _; omega)).trans h.x1, (hN.cell (p := ⟨w.heap.size, 2, none⟩) (by show w.heap.size < _; omega)).trans h.x2, (hN.cell (p := ⟨w.heap.size, 3, none⟩) (by show w.heap.size < _; omega)).trans h.x3, (hN.cell (p := ⟨w.heap.size + 1, 0, none⟩) (by show w.heap.size + 1 < _; omega)).trans h.co, (hN.cell (p := ⟨w.heap.size + 1 + 1, 0, none⟩) (by show w.heap.size + 1 + 1 < _; omega)).trans h.ck, by omega⟩
theorem cell_top {W : World} {H : Nat} (hH : H = W.heap.size) (v : Value) (T : TypeId) : (W.alloc (.cells #[v] T)).cell? ⟨H, 0, none⟩ = some v := by subst hH; simp
theorem BBox.start (x : Lk) (o k : Int) (w : World) : BBox x o k w (((w.alloc (.cells #[.int .i64 x.o, .int .i64 x.f, .int .i64 x.t, .bool x.a] 24)).alloc (.cells #[.int .i64 o] 3)).alloc (.cells #[.int .i64 k] 3)) := by
  have e1 : w.heap.size + 1 = (w.alloc (.cells #[.int .i64 x.o, .int .i64 x.f, .int .i64 x.t, .bool x.a] 24)).heap.size := by simp
  have e2 : w.heap.size + 1 + 1 = ((w.alloc (.cells #[.int .i64 x.o, .int .i64 x.f, .int .i64 x.t, .bool x.a] 24)).alloc (.cells #[.int .i64 o] 3)).heap.size := by simp
  refine ⟨((((Grown.refl w).alloc _).alloc _).alloc _).below, ?_, ?_, ?_, ?_, ?_, ?_, by simp⟩
  · exact Lib.cell?_alloc_some _ (Lib.cell?_alloc_some _ (by simp))
  · exact Lib.cell?_alloc_some _ (Lib.cell?_alloc_some _ (by simp))
  · exact Lib.cell?_alloc_some _ (Lib.cell?_alloc_some _ (by simp))
  · exact Lib.cell?_alloc_some _ (Lib.cell?_alloc_some _ (by simp))
  · exact Lib.cell?_alloc_some _ (cell_top e1 _ _)
  · exact cell_top e2 _ _
theorem spec_len {free : Bool} {l m : List Lk} {x : Lk} {e : Int} (h : SetSpec free l x e m) : m.length ≤ 40 := by
  rcases spec_right h with ⟨_, rfl⟩ | ⟨_, _, h, _⟩
  · simp
  · exact h
/-- What Take, or Free, has made, as it is wanted in LockByte. -/
theorem byte_parts {free : Bool} {l : List Lk} {x : Lk} {w w' : World} {e : Ending} (h : ChangePost free l x w e w') :
    Below w.heap.size w w' ∧ ((∃ v err, e = .returned (.tuple #[v, .int .i64 err]) ∧ ¬ err = 0) ∨ ∃ p n c m, e = .returned (.tuple #[.slice p n c, .int .i64 0]) ∧ Aside (n = m.length ∧ Lies w' p m ∧ SetSpec free l x 0 m)) := by
  obtain ⟨v, err, m, rfl, hR, hS, hB⟩ := h
  by_cases h0 : err = 0
  · subst h0
    obtain ⟨p, c, rfl, hL, _, _⟩ := hR.form
    exact ⟨hB, .inr ⟨p, m.length, c, m, rfl, rfl, hL, hS⟩⟩
  · exact ⟨hB, .inl ⟨v, err, rfl, h0⟩⟩
theorem how_of {l m : List Lk} {x : Lk} {free : Bool} {o k : Int} {n B1 B2 : Nat} {p : Option Addr} {c : Nat} {w : World} (h : n = m.length ∧ Lies w p m ∧ SetSpec free l x 0 m) {W : World} (hB : Below w.heap.size w W) (h1 : W.cell? ⟨B1, 0, none⟩ = some (.int .i64 o)) (h2 : W.cell? ⟨B2, 0, none⟩ = some (.int .i64 k)) (hb1 : B1 < W.heap.size) (hb2 : B2 < W.heap.size) :
    Calls Try.prog 17 #[.slice p n c, .pointer (some ⟨B1, 0, none⟩), .pointer (some ⟨B2, 0, none⟩)] W fun r w' => r = .returned (.int .i64 (howL m o k)) ∧ Below W.heap.size W w' := by
  obtain ⟨rfl, hL, hS⟩ := h
  have := spec_len hS
  exact how_any m o k B1 B2 p c W (hL.kept hB) (by omega) h1 h2 hb1 hb2
end Go.Proofs.Ytampldoimpfjgab
