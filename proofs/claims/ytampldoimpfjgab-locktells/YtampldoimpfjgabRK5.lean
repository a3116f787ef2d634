/-
  The document's own SetLock: what is refused.
-/
import Derived.Test.YtampldoimpfjgabRK4
import Derived.Test.YtampldoimpfjgabK11
namespace Go.Proofs.Ytampldoimpfjgab
open Go.RowKit Go.Sort KM
set_option linter.unusedVariables false

/-- What the document's own calls answer. -/
structure RefC (l : List Lk) (x : Lk) (p : Option Addr) (n cap : Nat) (w : World) : Prop where
  wr1 : ∀ W, Below w.heap.size w W → Calls Try.prog 8 #[.slice p n cap] W (WrongPost l W)
  wr2 : ∀ (W : World) (H : Nat), H = W.heap.size → Calls Try.prog 8 #[.slice (some ⟨H, 0, none⟩) 1 1] (W.alloc (.cells #[.int .i64 x.o, .int .i64 x.f, .int .i64 x.t, .bool x.a] 24)) fun e w' => e = .returned (.agg #[.int .i64 (faultK [x]).1, .int .i64 (faultK [x]).2]) ∧ Below W.heap.size W w'
theorem refC (l : List Lk) (x : Lk) (p : Option Addr) (cap : Nat) (w : World) (hL : Lies w p l) (hn : l.length < 4611686018427387904) (hcap : l.length ≤ cap) : RefC l x p l.length cap w :=
  ⟨fun W hB => refWrong_any l p cap W (hL.kept hB) hn hcap, fun W H hH => by
    refine (refWrong_any [x] (some ⟨H, 0, none⟩) 1 _ (.inr ⟨H, 0, rfl, by rw [hH]; simp, fun j e he i v hv => ?_⟩) (by show 1 < _; decide) (by show 1 ≤ 1; decide)).mono ?_
    · cases j with
      | zero =>
        obtain rfl : x = e := by simpa using he
        have := row_one_new W x H hH i v hv
        rw [Addr.add_lit] at this
        simpa using this
      | succ j => simp at he
    · rintro e w' ⟨rfl, hB⟩
      exact ⟨rfl, ((Grown.refl W).alloc _).below.trans (hB.mono (by simp))⟩⟩
theorem preErr_one {l : List Lk} {x : Lk} (h : ¬ (faultK l).1 = 0) : preErr l x = (faultK l).1 := by unfold preErr; rw [if_neg h]
theorem preErr_two {l : List Lk} {x : Lk} (h : (faultK l).1 = 0) : preErr l x = (faultK [x]).1 := by
  unfold preErr; rw [if_pos h, fault_one]; split <;> rfl
set_option maxHeartbeats 400000 in
theorem set_1 (free : Bool) (l : List Lk) (x : Lk) (how : Int) (p : Option Addr) (n cap : Nat) (w : World) (hC : RefC l x p n cap w) (h1 : ¬ (faultK l).1 = 0) :
    Calls Try.prog 12 #[.slice p n cap, .agg #[.int .i64 x.o, .int .i64 x.f, .int .i64 x.t, .bool x.a], .int .i64 how] w (ChangePost free l x w) := by
  have HP : Aside (preErr l x = (faultK l).1) := preErr_one h1
  have hw1 := hC.wr1
  unfold WrongPost at hw1
  generalize (faultK l).1 = f1 at *
  clear hC
  have I : Below (w.heap.size + 1) (w.alloc (.cells #[.int .i64 x.o, .int .i64 x.f, .int .i64 x.t, .bool x.a] 24)) (w.alloc (.cells #[.int .i64 x.o, .int .i64 x.f, .int .i64 x.t, .bool x.a] 24)) := Below.refl _ _
  have hfld := field27
  go_enter Try.func12, Try.ntmps12
  go_wp2_with (go_at_call 8; refine (hw1 _ (base1 I)).mono ?_; clear hw1; rintro e w3 ⟨rfl, hN⟩; replace I := up1 I hN; clear hN)
  go_quiet (fail)
  go_wp2
  go_ret2
  exact ⟨.slice none 0 0, f1, [], rfl, Rows.nil _ _, .inl ⟨by rw [HP.out]; exact h1, HP.out.symm, rfl⟩, below_drewN (base1 (upA I)) _⟩
set_option maxHeartbeats 400000 in
theorem set_2 (free : Bool) (l : List Lk) (x : Lk) (how : Int) (p : Option Addr) (n cap : Nat) (w : World) (hC : RefC l x p n cap w) (h1 : (faultK l).1 = 0) (h2 : ¬ (faultK [x]).1 = 0) :
    Calls Try.prog 12 #[.slice p n cap, .agg #[.int .i64 x.o, .int .i64 x.f, .int .i64 x.t, .bool x.a], .int .i64 how] w (ChangePost free l x w) := by
  have HP : Aside (preErr l x = (faultK [x]).1) := preErr_two h1
  have hw1 := hC.wr1
  have hw2 := hC.wr2
  unfold WrongPost at hw1
  rw [h1] at hw1
  generalize (faultK [x]).1 = f2 at *
  generalize (faultK [x]).2 = f2' at *
  generalize (faultK l).2 = f1' at *
  clear hC h1
  have I : Below (w.heap.size + 1) (w.alloc (.cells #[.int .i64 x.o, .int .i64 x.f, .int .i64 x.t, .bool x.a] 24)) (w.alloc (.cells #[.int .i64 x.o, .int .i64 x.f, .int .i64 x.t, .bool x.a] 24)) := Below.refl _ _
  have hfld := field27
  go_enter Try.func12, Try.ntmps12
  go_wp2_with (first
    | (go_at_call 8; refine (hw1 _ (base1 I)).mono ?_; clear hw1; rintro e w3 ⟨rfl, hN⟩; replace I := upA (o2 := .cells #[.int .i64 0, .int .i64 f1'] 27) (up1 I hN); clear hN; obtain ⟨⟨q0, q1, q2, q3⟩, _⟩ := new4 (Nat.lt_succ_self _) I)
    | (go_at_call 8; refine (hw2 _ (w3.heap.size + 1) (by simp)).mono ?_; clear hw2; rintro e w4 ⟨rfl, hN⟩; replace I := up1 I hN; clear hN))
  go_quiet (fail)
  go_wp2
  go_ret2
  exact ⟨.slice none 0 0, f2, [], rfl, Rows.nil _ _, .inl ⟨by rw [HP.out]; exact h2, HP.out.symm, rfl⟩, below_drewN (base1 (upA I)) _⟩
end Go.Proofs.Ytampldoimpfjgab
