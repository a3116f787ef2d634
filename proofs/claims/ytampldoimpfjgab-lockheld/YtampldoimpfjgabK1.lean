/-
  What lock.clash, lock.rise, lock.Meets, lock.wrongBehind and lock.Wrong answer.
-/
import Derived.Test.YtampldoimpfjgabKSort
import Derived.Test.YtampldoimpfjgabKMath2
namespace Go.Proofs.Ytampldoimpfjgab
open Go.RowKit Go.Sort KM
set_option linter.unusedVariables false

theorem clash_any (x y : Lk) (w : World) : Calls Try.prog 22 #[.agg #[.int .i64 x.o, .int .i64 x.f, .int .i64 x.t, .bool x.a], .agg #[.int .i64 y.o, .int .i64 y.f, .int .i64 y.t, .bool y.a]] w fun r w' => r = .returned (.bool (clash x y)) ∧ Grown w w' := by
  obtain ⟨xo, xf, xt, xa⟩ := x
  obtain ⟨yo, yf, yt, ya⟩ := y
  simp only
  by_cases h1 : xo = yo
  · go_enter Try.func22, Try.ntmps22
    go_wp2
    go_ret
    exact ⟨ret_bool (by simp [KM.clash, *] <;> omega), ((Grown.refl w).alloc _).alloc _⟩
  · have h1' : (xo != yo) = true := bne_iff_ne.2 h1
    cases xa <;> cases ya <;> by_cases h3 : xf < yt <;>
    (go_enter Try.func22, Try.ntmps22
     go_wp2
     go_ret
     exact ⟨ret_bool (by simp [KM.clash, *] <;> omega), ((Grown.refl w).alloc _).alloc _⟩)
theorem rise_any (y x : Lk) (w : World) : Calls Try.prog 32 #[.agg #[.int .i64 y.o, .int .i64 y.f, .int .i64 y.t, .bool y.a], .agg #[.int .i64 x.o, .int .i64 x.f, .int .i64 x.t, .bool x.a]] w fun r w' => r = .returned (.bool (rise y x)) ∧ Grown w w' := by
  obtain ⟨xo, xf, xt, xa⟩ := x
  obtain ⟨yo, yf, yt, ya⟩ := y
  simp only
  by_cases h1 : yo = xo
  · by_cases h2 : yt < xf
    · go_enter Try.func32, Try.ntmps32
      go_wp2
      go_ret
      exact ⟨ret_bool (by simp [KM.rise, *]), ((Grown.refl w).alloc _).alloc _⟩
    · by_cases h3 : yt = xf
      · cases xa <;> cases ya <;>
        (go_enter Try.func32, Try.ntmps32
         go_wp2
         go_ret
         exact ⟨ret_bool (by simp [KM.rise]), ((Grown.refl w).alloc _).alloc _⟩)
      · have h3' : (yt == xf) = false := beq_eq_false_iff_ne.2 h3
        go_enter Try.func32, Try.ntmps32
        go_wp2
        go_ret
        exact ⟨ret_bool (by simp [KM.rise, *]), ((Grown.refl w).alloc _).alloc _⟩
  · go_enter Try.func32, Try.ntmps32
    go_wp2
    go_ret
    exact ⟨ret_bool (by simp [KM.rise, *]), ((Grown.refl w).alloc _).alloc _⟩
theorem meetsP_any (y x : Lk) (B : Nat) (w : World) (hB : B < w.heap.size) (hc : ∀ i v, (encK x)[i]? = some v → w.cell? ⟨B, i, none⟩ = some v) :
    Calls Try.prog 21 #[.agg #[.int .i64 y.o, .int .i64 y.f, .int .i64 y.t, .bool y.a], .pointer (some ⟨B, 0, none⟩)] w fun r w' => r = .returned (.bool (clash x y)) ∧ Grown w w' := by
  have c0 := hc 0 _ rfl
  have c1 := hc 1 _ rfl
  have c2 := hc 2 _ rfl
  have c3 := hc 3 _ rfl
  clear hc
  have hne : B ≠ w.heap.size := by omega
  go_enter Try.func21, Try.ntmps21
  go_wp2_with (go_at_call 22; refine (clash_any x y _).mono ?_; rintro r w' ⟨rfl, hG⟩)
  go_ret
  exact ⟨rfl, ((Grown.refl w).alloc _).trans hG⟩
def zeroL : Lk := ⟨0, 0, 0, false⟩
/-- The first one that clashes, if there is one. -/
def MeetIs (l : List Lk) (x y : Lk) (b : Bool) : Prop := (b = false ∧ y = zeroL ∧ l.any (clash x) = false) ∨ (b = true ∧ l.find? (clash x) = some y)
theorem MeetIs.any {l : List Lk} {x y : Lk} {b : Bool} (h : MeetIs l x y b) : l.any (clash x) = b := by
  rcases h with ⟨rfl, _, h⟩ | ⟨rfl, h⟩
  · exact h
  · exact List.any_eq_true.2 ⟨y, List.mem_of_find?_eq_some h, List.find?_some h⟩
theorem find_at {l : List Lk} {pr : Lk → Bool} {k : Nat} {y : Lk} (hy : l[k]? = some y) (hp : pr y = true) (ha : ∀ x ∈ l.take k, pr x = false) : l.find? pr = some y := by
  obtain ⟨h1, h2⟩ := List.getElem?_eq_some_iff.1 hy
  have e : l = l.take k ++ y :: l.drop (k + 1) := by
    rw [← h2, ← List.drop_eq_getElem_cons h1, List.take_append_drop]
  rw [e, List.find?_append, List.find?_eq_none.2 (fun x hx => by simp [ha x hx])]
  simp [hp]
theorem new4h {X W : World} {H : Nat} {a b c d : Value} {t : TypeId} (hH : H = X.heap.size) (h : Below (H + 1) (X.alloc (.cells #[a, b, c, d] t)) W) :
    (W.cell? ⟨H, 0, none⟩ = some a ∧ W.cell? ⟨H, 1, none⟩ = some b ∧ W.cell? ⟨H, 2, none⟩ = some c ∧ W.cell? ⟨H, 3, none⟩ = some d) ∧
    (W.frozen? ⟨H, 0, none⟩ = false ∧ W.frozen? ⟨H, 1, none⟩ = false ∧ W.frozen? ⟨H, 2, none⟩ = false ∧ W.frozen? ⟨H, 3, none⟩ = false) := by
  subst hH
  exact new4 (Nat.lt_succ_self _) h
theorem store4 {w W : World} {n H : Nat} (h : Below n w W) (hH : n ≤ H) (a b c d : Value) : Below n w ((((W.setCell ⟨H, 0, none⟩ a).setCell ⟨H, 1, none⟩ b).setCell ⟨H, 2, none⟩ c).setCell ⟨H, 3, none⟩ d) :=
  (((h.setCell hH _).setCell hH _).setCell hH _).setCell hH _
theorem store2 {w W : World} {n H : Nat} (h : Below n w W) (hH : n ≤ H) (a b : Value) : Below n w ((W.setCell ⟨H, 0, none⟩ a).setCell ⟨H, 1, none⟩ b) :=
  (h.setCell hH _).setCell hH _
def MeetsPost (l : List Lk) (x : Lk) (w : World) (e : Ending) (w' : World) : Prop :=
  ∃ y b, e = .returned (.tuple #[.agg #[.int .i64 y.o, .int .i64 y.f, .int .i64 y.t, .bool y.a], .bool b]) ∧ MeetIs l x y b ∧ Below w.heap.size w w'
/-- What IndexFunc found, and that it lies there. -/
theorem idx_cells {pr : Lk → Bool} {l : List Lk} {p : Option Addr} {n : Nat} {w w0 w1 : World} {r : Ending} (hn : n = l.length) (hL : Lies w p l) (hG0 : Grown w w0) (h : IdxPost pr l w0 r w1) :
    Aside (Grown w w1) ∧ ((r = .returned (.int .i64 (-1)) ∧ Aside (∀ x ∈ l, pr x = false)) ∨ ∃ (k : Nat) (y : Lk) (b off : Nat), k < n ∧ r = .returned (.int .i64 k) ∧ Aside (l.find? pr = some y) ∧ p = some ⟨b, off, none⟩ ∧ b < w.heap.size ∧
      w1.cell? ⟨b, off + k * 4, none⟩ = some (.int .i64 y.o) ∧ w1.cell? ⟨b, off + k * 4 + 1, none⟩ = some (.int .i64 y.f) ∧ w1.cell? ⟨b, off + k * 4 + 2, none⟩ = some (.int .i64 y.t) ∧ w1.cell? ⟨b, off + k * 4 + 3, none⟩ = some (.bool y.a)) := by
  obtain ⟨hG, ⟨h1, h2⟩ | ⟨k, y, hk, hy, hr, hpy, ha⟩⟩ := IdxPost.parts hn h
  · exact ⟨hG0.trans hG, .inl ⟨h1, h2⟩⟩
  · refine ⟨hG0.trans hG, .inr ⟨k, y, ?_⟩⟩
    rcases hL with h0 | ⟨b, off, rfl, hb, hc⟩
    · rw [h0] at hy; simp at hy
    · exact ⟨b, off, hk, hr, find_at hy hpy ha, rfl, hb, Lies.cells hc hb (hG0.trans hG).below hy⟩
theorem meets_any (l : List Lk) (x : Lk) (p : Option Addr) (cap : Nat) (w : World) (hL : Lies w p l) (hn : l.length < 4611686018427387904) :
    Calls Try.prog 9 #[.slice p l.length cap, .agg #[.int .i64 x.o, .int .i64 x.f, .int .i64 x.t, .bool x.a]] w (MeetsPost l x w) := by
  have eg : ∀ args w, (callFunc 21 args).run Try.prog w = .ok (.enter 21 args) w := enters_of Try.func21 (by kernel_rfl) rfl
  have hs := index_any (clash x) 21 #[.pointer (some ⟨w.heap.size, 0, none⟩)] eg l p cap ((w.alloc (.cells #[.int .i64 x.o, .int .i64 x.f, .int .i64 x.t, .bool x.a] 24)).alloc (.cells #[.int .i64 0, .int .i64 0, .int .i64 0, .bool false] 24)) (hL.grown (((Grown.refl w).alloc _).alloc _)) hn
    (fun W y hG hy => meetsP_any y x w.heap.size W (by have := hG.size; simp at this; omega) (fun i v hv => by
      have hi := encK_lt hv
      refine (hG.cell (p := ⟨w.heap.size, i, none⟩) (by simp; omega)).trans ?_
      obtain rfl | rfl | rfl | rfl : i = 0 ∨ i = 1 ∨ i = 2 ∨ i = 3 := by omega
      all_goals (simp [encK] at hv; subst hv; simp)))
  clear eg
  have HL : Aside (Lies w p l) := hL
  clear hL
  obtain ⟨n, hnl⟩ : ∃ n, n = l.length := ⟨_, rfl⟩
  have HN : Aside (n = l.length) := hnl
  rw [← hnl] at hn hs ⊢
  clear hnl
  go_enter Try.func9, Try.ntmps9
  go_wp2_with (go_at_call 20; refine hs.mono ?_; clear hs; intro e w1 hIP; obtain ⟨⟨r0, r1, r2, r3⟩, ⟨f0, f1, f2, f3⟩⟩ := new4h (H := w.heap.size + 1) (by simp) (hIP.1.below.mono (by simp)); rcases idx_cells HN.out HL.out (((Grown.refl w).alloc _).alloc _) hIP with ⟨HG, ⟨rfl, HA⟩ | ⟨k0, y0, b, off, hk0, rfl, HA, rfl, hb, c0, c1, c2, c3⟩⟩ <;> clear hIP)
  · refine bodyPost_ret (v := .tuple #[.agg #[.int .i64 zeroL.o, .int .i64 zeroL.f, .int .i64 zeroL.t, .bool zeroL.a], .bool false]) (by simp [results, Try.results9, go_sem, zeroL, r0, r1, r2, r3]) rfl ?_
    exact ⟨zeroL, false, rfl, .inl ⟨rfl, rfl, List.any_eq_false.2 fun y hy => by simp [HA.out y hy]⟩, store4 HG.out.below (by omega) _ _ _ _⟩
  · refine bodyPost_ret (v := .tuple #[.agg #[.int .i64 y0.o, .int .i64 y0.f, .int .i64 y0.t, .bool y0.a], .bool true]) (by simp [results, Try.results9, go_sem, r0, r1, r2, r3]) rfl ?_
    exact ⟨y0, true, rfl, .inr ⟨rfl, HA.out⟩, store4 HG.out.below (by omega) _ _ _ _⟩
end Go.Proofs.Ytampldoimpfjgab
