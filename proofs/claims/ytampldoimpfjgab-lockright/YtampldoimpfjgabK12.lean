/-
  The statement LockRight, walked.
-/
import Derived.Test.YtampldoimpfjgabK9
namespace Go.Proofs.Ytampldoimpfjgab
open Go.RowKit Go.Sort KM
set_option linter.unusedVariables false

/-- A slice of bools that came in. -/
def Bools (w : World) (p : Option Addr) (bs : List Bool) : Prop :=
  bs = [] ∨ ∃ b off, p = some ⟨b, off, none⟩ ∧ b < w.heap.size ∧ ∀ j v, bs[j]? = some v → w.cell? ⟨b, off + j, none⟩ = some (.bool v)
theorem Bools.at {w W : World} {p : Option Addr} {bs : List Bool} (h : Bools w p bs) (hB : Below w.heap.size w W) {j : Nat} {v : Bool} (hv : bs[j]? = some v) : ∃ b off, p = some ⟨b, off, none⟩ ∧ b < w.heap.size ∧ W.cell? ⟨b, off + j, none⟩ = some (.bool v) := by
  rcases h with h | ⟨b, off, h1, h2, h3⟩
  · rw [h] at hv; simp at hv
  · exact ⟨b, off, h1, h2, (hB.cell (p := ⟨b, off + j, none⟩) h2).trans (h3 j v hv)⟩
/-- What has been taken, as it stands in a round. -/
structure RInv (m : List Lk) (v : Value) (w W : World) : Prop where
  rows : Rows W w.heap.size v m
  len : m.length ≤ 40
  right : RightK m
  below : Below w.heap.size w W
theorem right_fault {m : List Lk} (h40 : m.length ≤ 40) (hr : RightK m) : faultK m = (0, 0) := fault_zero_at (fault_zero.2 ⟨h40, hr⟩)
/-- What a change makes of them. -/
theorem right_parts {free : Bool} {l : List Lk} {x : Lk} {w0 w w' : World} {e : Ending} (h : ChangePost free l x w e w') (hB : Below w0.heap.size w0 w) :
    Below w.heap.size w w' ∧ ((∃ p c err, e = .returned (.tuple #[.slice p 0 c, .int .i64 err]) ∧ ¬ err = 0) ∨ ∃ p n c m, e = .returned (.tuple #[.slice p n c, .int .i64 0]) ∧ Aside (n = m.length ∧ n ≤ c ∧ Lies w' p m ∧ RInv m (.slice p n c) w0 w')) := by
  obtain ⟨v, err, m, rfl, hR, hS, hN⟩ := h
  refine ⟨hN, ?_⟩
  obtain ⟨p, c, rfl, hL, hc, _⟩ := hR.form
  rcases spec_right hS with ⟨h1, rfl⟩ | ⟨rfl, _, h2, h3, _⟩
  · exact .inl ⟨p, c, err, rfl, h1⟩
  · exact .inr ⟨p, m.length, c, m, rfl, rfl, hc, hL, ⟨hR.mono hB.size, h2, h3, Below.onto hB hN⟩⟩
theorem right_kept {m : List Lk} {p : Option Addr} {n c : Nat} {w W W' : World} (h : n = m.length ∧ n ≤ c ∧ Lies W p m ∧ RInv m (.slice p n c) w W) (hB : Below W.heap.size W W') : n = m.length ∧ n ≤ c ∧ Lies W' p m ∧ RInv m (.slice p n c) w W' :=
  ⟨h.1, h.2.1, h.2.2.1.kept hB, ⟨h.2.2.2.rows.below hB, h.2.2.2.len, h.2.2.2.right, Below.onto h.2.2.2.below hB⟩⟩
theorem right_calls {m : List Lk} {p : Option Addr} {n c : Nat} {w W : World} (h : n = m.length ∧ n ≤ c ∧ Lies W p m ∧ RInv m (.slice p n c) w W) (x : Lk) :
    (∀ W', Below W.heap.size W W' → Calls Try.prog 11 #[.slice p n c, .agg #[.int .i64 x.o, .int .i64 x.f, .int .i64 x.t, .bool x.a]] W' (ChangePost false m x W')) ∧ (∀ W', Below W.heap.size W W' → Calls Try.prog 14 #[.slice p n c, .agg #[.int .i64 x.o, .int .i64 x.f, .int .i64 x.t, .bool x.a]] W' (ChangePost true m x W')) := by
  obtain ⟨rfl, h1, h2, h3⟩ := h
  have := h3.len
  exact ⟨fun W' hB => take_any m x p c W' (h2.kept hB) (by omega) h1, fun W' hB => free_any m x p c W' (h2.kept hB) (by omega) h1⟩
theorem right_wrong {m : List Lk} {p : Option Addr} {n c : Nat} {w W : World} (h : n = m.length ∧ n ≤ c ∧ Lies W p m ∧ RInv m (.slice p n c) w W) :
    ∀ W', Below W.heap.size W W' → Calls Try.prog 7 #[.slice p n c] W' fun e w' => e = .returned (.agg #[.int .i64 0, .int .i64 0]) ∧ Below W'.heap.size W' w' := by
  obtain ⟨rfl, h1, h2, h3⟩ := h
  have := h3.len
  intro W' hB
  refine (wrong_any m p c W' (h2.kept hB) (by omega) h1).mono ?_
  rintro e w' ⟨rfl, hN⟩
  rw [right_fault h3.len h3.right]
  exact ⟨rfl, hN⟩
set_option maxHeartbeats 800000 in
theorem right_walk (l : List Lk) (bs : List Bool) (p pb : Option Addr) (cap capb : Nat) (w : World) (hL : Lies w p l) (hn : l.length < 4611686018427387904) (hb : Bools w pb bs) (hnb : bs.length < 4611686018427387904) :
    Calls Try.prog 4 #[.slice p l.length cap, .slice pb bs.length capb] w fun r w' => r = .returned (.bool true) ∧ Below w.heap.size w w' := by
  have HL : Aside (Lies w p l) := hL
  have HBS : Aside (Bools w pb bs) := hb
  obtain ⟨n, hnl⟩ : ∃ n, n = l.length := ⟨_, rfl⟩
  have HN : Aside (n = l.length) := hnl
  rw [← hnl] at hn ⊢
  obtain ⟨nb, hnbl⟩ : ∃ nb, nb = bs.length := ⟨_, rfl⟩
  have HNB : Aside (nb = bs.length) := hnbl
  rw [← hnbl] at hnb ⊢
  clear hnl hnbl hL hb
  go_enter Try.func4, Try.ntmps4
  go_wp2_with (go_at_call 16; refine (alive_any _).mono ?_; rintro e w1 ⟨rfl, hN1⟩; have HN1 : Aside (Below w.heap.size w w1) := hN1; clear hN1)
  have hfld := field27
  go_loopg [5, 14] n (fun gg s5 s14 wr => ∃ (k : Nat) (pm : Option Addr) (nm cm : Nat) (m : List Lk), k ≤ n ∧ n - k ≤ gg ∧ s14 = .int .i64 k ∧ s5 = .slice pm nm cm ∧ Aside (nm = m.length ∧ nm ≤ cm ∧ Lies wr pm m ∧ RInv m (.slice pm nm cm) w wr))
  case atStart => exact ⟨0, none, 0, 0, [], Nat.zero_le _, by omega, rfl, rfl, (⟨rfl, Nat.le_refl _, Lies.nil _ _, ⟨Rows.nil _ _, by decide, rightNil, HN1.out⟩⟩ : _ ∧ _ ∧ _ ∧ _)⟩
  case round =>
    obtain ⟨k, pm, nm, cm, m, hk, hg, rfl, rfl, J⟩ := hrel
    by_cases hlt : k < n
    · have hltz : (k : Int) < (n : Int) := by omega
      obtain ⟨y, hy⟩ : ∃ y, l[k]? = some y := ⟨_, List.getElem?_eq_getElem (by have := HN.out; omega)⟩
      have hBw := J.out.2.2.2.below
      rcases HL.out with h0 | ⟨b, off, rfl, hb, hc⟩
      · rw [h0] at hy; simp at hy
      obtain ⟨c0, c1, c2, c3⟩ := Lies.cells hc hb hBw hy
      have hsz := hBw.size
      have hb' : b < wr.heap.size := by omega
      have hne : b ≠ wr.heap.size := by omega
      have hX : Below wr.heap.size wr (wr.alloc (.cells #[.int .i64 y.o, .int .i64 y.f, .int .i64 y.t, .bool y.a] 24)) := ((Grown.refl wr).alloc _).below
      have hBX := Below.onto hBw hX
      have hR := right_calls J.out y
      clear hc hy
      by_cases hkb : k < nb
      · have hkbz : (k : Int) < (nb : Int) := by omega
        obtain ⟨f, hf⟩ : ∃ f, bs[k]? = some f := ⟨_, List.getElem?_eq_getElem (by have := HNB.out; omega)⟩
        obtain ⟨fb, foff, rfl, hfl0, hf0⟩ := HBS.out.at hBw hf
        have hfl : fb < wr.heap.size := by omega
        clear hf
        cases f
        · go_wp2_with (first
            | (go_at_call 11; refine (hR.1 _ hX).mono ?_; clear hR; intro e w2 hC; obtain ⟨hN, ⟨pv, cv, err, rfl, herr⟩ | ⟨pv, nv, cv, mv, rfl, HV⟩⟩ := right_parts hC hBX <;> clear hC <;> have hN2 : Below wr.heap.size wr w2 := Below.onto hX hN <;> clear hN <;> have b0 := (hN2.cell (p := ⟨fb, foff + k, none⟩) hfl).trans hf0)
            | (go_at_call 7; refine (right_wrong HV.out _ (Below.refl _ _)).mono ?_; rintro e w4 ⟨rfl, hN⟩; have HN4 : Aside (nv = mv.length ∧ nv ≤ cv ∧ Lies w4 pv mv ∧ RInv mv (.slice pv nv cv) w w4) := right_kept HV.out hN; clear hN))
          · go_roundg (n - (k + 1))
            case measure => omega
            case rel => exact ⟨k + 1, pm, nm, cm, m, by omega, by omega, by go_num, rfl, right_kept J.out hN2⟩
          · go_roundg (n - (k + 1))
            case measure => omega
            case rel => exact ⟨k + 1, pv, nv, cv, mv, by omega, by omega, by go_num, rfl, HN4.out⟩
        · go_wp2_with (first
            | (go_at_call 11; refine (hR.1 _ hX).mono ?_; rintro e w2 ⟨v2, err2, m2, rfl, _, _, hN⟩; have hBB : Below (wr.heap.size + 1) (wr.alloc (.cells #[.int .i64 y.o, .int .i64 y.f, .int .i64 y.t, .bool y.a] 24)) w2 := hN.mono (by simp); obtain ⟨⟨a0, a1, a2, a3⟩, _⟩ := new4 (Nat.lt_succ_self _) hBB; have hN1 : Below wr.heap.size wr w2 := base1 hBB; have b0 := (hN1.cell (p := ⟨fb, foff + k, none⟩) hfl).trans hf0; have hBY := Below.onto hBw hN1; clear hN hBB)
            | (go_at_call 14; refine (hR.2 _ hN1).mono ?_; clear hR; intro e w3 hC; obtain ⟨hN, ⟨pv, cv, err, rfl, herr⟩ | ⟨pv, nv, cv, mv, rfl, HV⟩⟩ := right_parts hC hBY <;> clear hC <;> have hN2 : Below wr.heap.size wr w3 := Below.onto hN1 hN <;> clear hN)
            | (go_at_call 7; refine (right_wrong HV.out _ (Below.refl _ _)).mono ?_; rintro e w4 ⟨rfl, hN⟩; have HN4 : Aside (nv = mv.length ∧ nv ≤ cv ∧ Lies w4 pv mv ∧ RInv mv (.slice pv nv cv) w w4) := right_kept HV.out hN; clear hN))
          · go_roundg (n - (k + 1))
            case measure => omega
            case rel => exact ⟨k + 1, pm, nm, cm, m, by omega, by omega, by go_num, rfl, right_kept J.out hN2⟩
          · go_roundg (n - (k + 1))
            case measure => omega
            case rel => exact ⟨k + 1, pv, nv, cv, mv, by omega, by omega, by go_num, rfl, HN4.out⟩
      · have hkbz : ¬ (k : Int) < (nb : Int) := by omega
        go_wp2_with (first
          | (go_at_call 11; refine (hR.1 _ hX).mono ?_; clear hR; intro e w2 hC; obtain ⟨hN, ⟨pv, cv, err, rfl, herr⟩ | ⟨pv, nv, cv, mv, rfl, HV⟩⟩ := right_parts hC hBX <;> clear hC <;> have hN2 : Below wr.heap.size wr w2 := Below.onto hX hN <;> clear hN)
          | (go_at_call 7; refine (right_wrong HV.out _ (Below.refl _ _)).mono ?_; rintro e w4 ⟨rfl, hN⟩; have HN4 : Aside (nv = mv.length ∧ nv ≤ cv ∧ Lies w4 pv mv ∧ RInv mv (.slice pv nv cv) w w4) := right_kept HV.out hN; clear hN))
        · go_roundg (n - (k + 1))
          case measure => omega
          case rel => exact ⟨k + 1, pm, nm, cm, m, by omega, by omega, by go_num, rfl, right_kept J.out hN2⟩
        · go_roundg (n - (k + 1))
          case measure => omega
          case rel => exact ⟨k + 1, pv, nv, cv, mv, by omega, by omega, by go_num, rfl, HN4.out⟩
    · have hltz : ¬ (k : Int) < (n : Int) := by omega
      have HB : Aside (Below w.heap.size w wr) := J.out.2.2.2.below
      go_wp2
      go_ret
      exact ⟨rfl, HB.out⟩
end Go.Proofs.Ytampldoimpfjgab
