/-
  The statement LockHeld, walked.
-/
import Derived.Test.YtampldoimpfjgabK9
namespace Go.Proofs.Ytampldoimpfjgab
open Go.RowKit Go.Sort KM
set_option linter.unusedVariables false

/-- What the calls answer. -/
structure HeldC (l : List Lk) (x : Lk) (p : Option Addr) (n cap : Nat) (w : World) : Prop where
  take : ∀ W, Below w.heap.size w W → Calls Try.prog 11 #[.slice p n cap, .agg #[.int .i64 x.o, .int .i64 x.f, .int .i64 x.t, .bool x.a]] W (ChangePost false l x W)
  wr1 : ∀ W, Below w.heap.size w W → Calls Try.prog 7 #[.slice p n cap] W (WrongPost l W)
  wr2 : ∀ (W : World) (H : Nat), H = W.heap.size → Calls Try.prog 7 #[.slice (some ⟨H, 0, none⟩) 1 1] (W.alloc (.cells #[.int .i64 x.o, .int .i64 x.f, .int .i64 x.t, .bool x.a] 24)) fun e w' => e = .returned (.agg #[.int .i64 (faultK [x]).1, .int .i64 (faultK [x]).2]) ∧ Below W.heap.size W w'
  meets : ∀ W, Below w.heap.size w W → Calls Try.prog 9 #[.slice p n cap, .agg #[.int .i64 x.o, .int .i64 x.f, .int .i64 x.t, .bool x.a]] W (MeetsPost l x W)
theorem heldC (l : List Lk) (x : Lk) (p : Option Addr) (cap : Nat) (w : World) (hL : Lies w p l) (hn : l.length < 4611686018427387904) (hcap : l.length ≤ cap) : HeldC l x p l.length cap w :=
  ⟨fun W hB => take_any l x p cap W (hL.kept hB) hn hcap, fun W hB => wrong_any l p cap W (hL.kept hB) hn hcap, fun W H hH => by
    refine (wrong_any [x] (some ⟨H, 0, none⟩) 1 _ (.inr ⟨H, 0, rfl, by rw [hH]; simp, fun j e he i v hv => ?_⟩) (by show 1 < _; decide) (by show 1 ≤ 1; decide)).mono ?_
    · cases j with
      | zero =>
        obtain rfl : x = e := by simpa using he
        have := row_one_new W x H hH i v hv
        rw [Addr.add_lit] at this
        simpa using this
      | succ j => simp at he
    · rintro e w' ⟨rfl, hB⟩
      exact ⟨rfl, ((Grown.refl W).alloc _).below.trans (hB.mono (by simp))⟩,
   fun W hB => meets_any l x p cap W (hL.kept hB) hn⟩
/-- Taken again, when nobody is in the way. -/
theorem take_free {l : List Lk} {x : Lk} (hr : RightK l) (h40 : l.length ≤ 40) (hx : okK x) (ha : l.any (clash x) = false) {e : Int} {m : List Lk} (hs : SetSpec false l x e m) : e = 0 ∨ e = 5 := by
  have h0 : preErr l x = 0 := preErr_zero.2 ⟨⟨h40, hr⟩, hx⟩
  rcases hs with ⟨h1, _⟩ | ⟨_, _, h2, _⟩ | ⟨_, _, _, _, _, ⟨_, h3, _⟩ | ⟨_, h3, _⟩⟩
  · exact absurd h0 h1
  · rw [ha] at h2; cases h2
  · exact .inr h3
  · exact .inl h3
theorem take_meets {l : List Lk} {x : Lk} (h0 : preErr l x = 0) {e : Int} {m : List Lk} (hs : SetSpec false l x e m) (h5 : ¬ e = 5) : (e = 13 ∧ l.any (clash x) = true) ∨ (e = 0 ∧ l.any (clash x) = false) := by
  rcases hs with ⟨h1, _⟩ | ⟨_, _, h2, h3, _⟩ | ⟨_, h2, _, _, _, ⟨_, h3, _⟩ | ⟨_, h3, _⟩⟩
  · exact absurd h0 h1
  · exact .inl ⟨h3, h2⟩
  · exact absurd h3 h5
  · rcases h2 with h2 | h2
    · cases h2
    · exact .inr ⟨h3, h2⟩
set_option maxHeartbeats 400000 in
theorem held_1 (l : List Lk) (x : Lk) (p : Option Addr) (n cap : Nat) (w : World) (hC : HeldC l x p n cap w) (h1 : ¬ (faultK l).1 = 0) :
    Calls Try.prog 6 #[.slice p n cap, .agg #[.int .i64 x.o, .int .i64 x.f, .int .i64 x.t, .bool x.a]] w fun r w' => r = .returned (.bool true) ∧ Below w.heap.size w w' := by
  have ht := hC.take
  have hw1 := hC.wr1
  unfold WrongPost at hw1
  generalize (faultK l).1 = f1 at *
  clear hC
  have I : Below (w.heap.size + 1) (w.alloc (.cells #[.int .i64 x.o, .int .i64 x.f, .int .i64 x.t, .bool x.a] 24)) (w.alloc (.cells #[.int .i64 x.o, .int .i64 x.f, .int .i64 x.t, .bool x.a] 24)) := Below.refl _ _
  have hfld := field27
  go_enter Try.func6, Try.ntmps6
  go_wp2_with (first
    | (go_at_call 16; refine (alive_any _).mono ?_; rintro e w1 ⟨rfl, hN⟩; replace I := up1 I hN; clear hN; obtain ⟨⟨q0, q1, q2, q3⟩, _⟩ := new4 (Nat.lt_succ_self _) I)
    | (go_at_call 11; refine (ht _ (base1 I)).mono ?_; clear ht; rintro e w2 ⟨v, err, m, rfl, hR, hS, hN⟩; replace I := up1 I hN; clear hN hR hS; obtain ⟨⟨a0, a1, a2, a3⟩, _⟩ := new4 (Nat.lt_succ_self _) I)
    | (go_at_call 7; refine (hw1 _ (base1 I)).mono ?_; clear hw1; rintro e w3 ⟨rfl, hN⟩; replace I := up1 I hN; clear hN))
  go_ret
  exact ⟨rfl, base1 I⟩
set_option maxHeartbeats 400000 in
theorem held_2 (l : List Lk) (x : Lk) (p : Option Addr) (n cap : Nat) (w : World) (hC : HeldC l x p n cap w) (h1 : (faultK l).1 = 0) (h2 : ¬ (faultK [x]).1 = 0) :
    Calls Try.prog 6 #[.slice p n cap, .agg #[.int .i64 x.o, .int .i64 x.f, .int .i64 x.t, .bool x.a]] w fun r w' => r = .returned (.bool true) ∧ Below w.heap.size w w' := by
  have ht := hC.take
  have hw1 := hC.wr1
  have hw2 := hC.wr2
  unfold WrongPost at hw1
  rw [h1] at hw1
  generalize (faultK [x]).1 = f2 at *
  clear hC h1
  have I : Below (w.heap.size + 1) (w.alloc (.cells #[.int .i64 x.o, .int .i64 x.f, .int .i64 x.t, .bool x.a] 24)) (w.alloc (.cells #[.int .i64 x.o, .int .i64 x.f, .int .i64 x.t, .bool x.a] 24)) := Below.refl _ _
  have hfld := field27
  go_enter Try.func6, Try.ntmps6
  go_wp2_with (first
    | (go_at_call 16; refine (alive_any _).mono ?_; rintro e w1 ⟨rfl, hN⟩; replace I := up1 I hN; clear hN; obtain ⟨⟨q0, q1, q2, q3⟩, _⟩ := new4 (Nat.lt_succ_self _) I)
    | (go_at_call 11; refine (ht _ (base1 I)).mono ?_; clear ht; rintro e w2 ⟨v, err, m, rfl, hR, hS, hN⟩; replace I := up1 I hN; clear hN hR hS; obtain ⟨⟨a0, a1, a2, a3⟩, _⟩ := new4 (Nat.lt_succ_self _) I)
    | (go_at_call 7; refine (hw1 _ (base1 I)).mono ?_; clear hw1; rintro e w3 ⟨rfl, hN⟩; replace I := up1 I hN; clear hN; obtain ⟨⟨b0, b1, b2, b3⟩, _⟩ := new4 (Nat.lt_succ_self _) I)
    | (go_at_call 7; refine (hw2 _ _ rfl).mono ?_; clear hw2; rintro e w4 ⟨rfl, hN⟩; replace I := up1 I hN; clear hN))
  go_ret
  exact ⟨rfl, base1 I⟩
/-- The locks, as they stand in a round. -/
structure HInv (l : List Lk) (p : Option Addr) (n cap : Nat) (W : World) : Prop where
  lies : Lies W p l
  num : n = l.length
  cap' : n ≤ cap
  nil : p = none → cap = 0
  len : l.length ≤ 40
  right : RightK l
theorem HInv.calls {l : List Lk} {p : Option Addr} {n cap : Nat} {W : World} (h : HInv l p n cap W) (x : Lk) : HeldC l x p n cap W := by
  have h1 := h.num
  subst h1
  exact heldC l x p cap W h.lies (by have := h.len; omega) h.cap'
theorem HInv.leave {l : List Lk} {p : Option Addr} {n cap : Nat} {w W : World} (h : HInv l p n cap w) (o : Int) (hB : Below w.heap.size w W) : Calls Try.prog 15 #[.slice p n cap, .int .i64 o] W (LeavePost l o W) := by
  have h1 := h.num
  subst h1
  exact leave_any l o p cap W (h.lies.kept hB) h.nil (by have := h.len; omega)
theorem HInv.next {l : List Lk} {p : Option Addr} {n cap i g c : Nat} {w W W' : World} {x z : Lk} (h : HInv l p n cap W) (hM : MeetIs l x z true) (hc : cnt l + i ≤ 4) (hO : Own W' g c (leaveL l z.o)) (hI : Below (w.heap.size + 1) (w.alloc (.cells #[.int .i64 x.o, .int .i64 x.f, .int .i64 x.t, .bool x.a] 24)) W') :
    HInv (leaveL l z.o) (some ⟨g, 0, none⟩) (leaveL l z.o).length c W' ∧ cnt (leaveL l z.o) + (i + 1) ≤ 4 ∧ Below (w.heap.size + 1) (w.alloc (.cells #[.int .i64 x.o, .int .i64 x.f, .int .i64 x.t, .bool x.a] 24)) W' := by
  rcases hM with ⟨h0, _⟩ | ⟨_, hf⟩
  · cases h0
  · refine ⟨⟨hO.lies, rfl, hO.len, nofun, by have := leave_len l z.o; have := h.len; omega, leave_right h.right _⟩, ?_, hI⟩
    have := cnt_leave h.right.ok (List.mem_of_find?_eq_some hf)
    omega
set_option maxHeartbeats 1600000 in
theorem held_3 (l : List Lk) (x : Lk) (p : Option Addr) (n cap : Nat) (w : World) (hC : HeldC l x p n cap w) (hL : Lies w p l) (hnl : n = l.length) (hcap : n ≤ cap) (hnil : p = none → cap = 0) (h1 : (faultK l).1 = 0) (h2 : (faultK [x]).1 = 0) :
    Calls Try.prog 6 #[.slice p n cap, .agg #[.int .i64 x.o, .int .i64 x.f, .int .i64 x.t, .bool x.a]] w fun r w' => r = .returned (.bool true) ∧ Below w.heap.size w w' := by
  have ht := hC.take
  have hw1 := hC.wr1
  have hw2 := hC.wr2
  have hme := hC.meets
  have hx : okK x := by
    rw [fault_one] at h2
    by_cases h : okK x
    · exact h
    · rw [if_neg h] at h2; cases h2
  have HR0 : Aside ((l.length ≤ 40 ∧ RightK l) ∧ okK x) := ⟨fault_zero.1 h1, hx⟩
  have H0 : Aside (preErr l x = 0) := preErr_zero.2 HR0.out
  have HLn : Aside (Lies w p l ∧ n = l.length ∧ n ≤ cap ∧ (p = none → cap = 0)) := ⟨hL, hnl, hcap, hnil⟩
  unfold WrongPost at hw1
  rw [h1] at hw1
  rw [h2] at hw2
  clear hC h1 h2 hL hnl hcap hnil hx
  have I : Below (w.heap.size + 1) (w.alloc (.cells #[.int .i64 x.o, .int .i64 x.f, .int .i64 x.t, .bool x.a] 24)) (w.alloc (.cells #[.int .i64 x.o, .int .i64 x.f, .int .i64 x.t, .bool x.a] 24)) := Below.refl _ _
  have hfld := field27
  go_enter Try.func6, Try.ntmps6
  go_wp2_with (first
    | (go_at_call 16; refine (alive_any _).mono ?_; rintro e w1 ⟨rfl, hN⟩; replace I := up1 I hN; clear hN; obtain ⟨⟨q0, q1, q2, q3⟩, _⟩ := new4 (Nat.lt_succ_self _) I)
    | (go_at_call 11; refine (ht _ (base1 I)).mono ?_; clear ht; rintro e w2 ⟨v, err, m, rfl, hR, hS, hN⟩; replace I := up1 I hN; have HS : Aside (SetSpec false l x err m) := hS; clear hN hR hS; obtain ⟨⟨a0, a1, a2, a3⟩, _⟩ := new4 (Nat.lt_succ_self _) I)
    | (go_at_call 7; refine (hw1 _ (base1 I)).mono ?_; clear hw1; rintro e w3 ⟨rfl, hN⟩; replace I := up1 I hN; clear hN; obtain ⟨⟨b0, b1, b2, b3⟩, _⟩ := new4 (Nat.lt_succ_self _) I)
    | (go_at_call 7; refine (hw2 _ _ rfl).mono ?_; clear hw2; rintro e w4 ⟨rfl, hN⟩; replace I := up1 I hN; clear hN; obtain ⟨⟨c0, c1, c2, c3⟩, _⟩ := new4 (Nat.lt_succ_self _) I; rcases Decidable.em (err = 5) with rfl | h5; (skip); rotate_left; rcases take_meets H0.out HS.out h5 with ⟨rfl, ha⟩ | ⟨rfl, ha⟩; (skip); rotate_left; rotate_left)
    | (go_at_call 9; refine (hme _ (base1 I)).mono ?_; clear hme; rintro e w5 ⟨y, b, rfl, hM, hN⟩; replace I := up1 I hN; clear hN; obtain ⟨⟨g0, g1, g2, g3⟩, _⟩ := new4 (Nat.lt_succ_self _) I; have hb := hM.any; rw [ha] at hb; subst hb; clear hM))
  · go_ret
    exact ⟨rfl, base1 I⟩
  all_goals (
    have HI : Aside (Below (w.heap.size + 1) (w.alloc (.cells #[.int .i64 x.o, .int .i64 x.f, .int .i64 x.t, .bool x.a] 24)) (w5.alloc (.cells #[.int .i64 y.o, .int .i64 y.f, .int .i64 y.t, .bool y.a] 24))) := upA I
    have HHI : Aside (HInv l p n cap (w5.alloc (.cells #[.int .i64 y.o, .int .i64 y.f, .int .i64 y.t, .bool y.a] 24))) := ⟨HLn.out.1.kept (base1 HI.out), HLn.out.2.1, HLn.out.2.2.1, HLn.out.2.2.2, HR0.out.1.1, HR0.out.1.2⟩
    clear I HS HLn H0 g0 g1 g2 g3
    go_loopg [0, 44] 4 (fun gg s0 s44 wr => ∃ (i : Nat) (p' : Option Addr) (n' cap' : Nat) (l' : List Lk), s44 = .int .i64 i ∧ i ≤ 4 ∧ 4 - i ≤ gg ∧ s0 = .slice p' n' cap' ∧ Aside (HInv l' p' n' cap' wr ∧ cnt l' + i ≤ 4 ∧ Below (w.heap.size + 1) (w.alloc (.cells #[.int .i64 x.o, .int .i64 x.f, .int .i64 x.t, .bool x.a] 24)) wr))
    case atStart => exact ⟨0, p, n, cap, l, rfl, by omega, by omega, rfl, (⟨HHI.out, by have := cnt_le l; omega, HI.out⟩ : _ ∧ _ ∧ _)⟩
    case round =>
      obtain ⟨i, p', n', cap', l', rfl, hi, hgg, rfl, J⟩ := hrel
      have hC := J.out.1.calls x
      have ht := hC.take
      have hme := hC.meets
      have hle := fun W (hB : Below wr.heap.size wr W) o => J.out.1.leave o hB
      obtain ⟨⟨q0, q1, q2, q3⟩, _⟩ := new4 (Nat.lt_succ_self _) J.out.2.2
      clear hC
      by_cases hlt : i < 4
      · have hltz : (i : Int) < 4 := by omega
        go_wp2_with (first
          | (go_at_call 9; refine (hme _ (Below.refl _ _)).mono ?_; clear hme; rintro e w6 ⟨z, b, rfl, hM, hN⟩; have HM : Aside (MeetIs l' x z b) := hM; have hN6 : Below wr.heap.size wr (w6.alloc (.cells #[.int .i64 z.o, .int .i64 z.f, .int .i64 z.t, .bool z.a] 24)) := hN.alloc hN.size _; have I6 := up1 J.out.2.2 hN6; obtain ⟨⟨r0, r1, r2, r3⟩, _⟩ := new4 (Nat.lt_succ_self _) I6; clear hM hN; cases b)
          | (go_at_call 11; refine (ht _ hN6).mono ?_; clear ht; rintro e w7 ⟨v7, e7, m7, rfl, _, hS7, hN7⟩; have I7 := up1 I6 hN7; clear hN7; rcases take_free J.out.1.right J.out.1.len HR0.out.2 HM.out.any hS7 with rfl | rfl <;> clear hS7)
          | (go_at_call 15; refine (hle _ hN6 _).mono ?_; clear hle; rintro e w7 ⟨g, c, rfl, hg, hO, hN7⟩; have HO : Aside (Own w7 g c (leaveL l' z.o)) := hO; have I7 : Aside (Below (w.heap.size + 1) (w.alloc (.cells #[.int .i64 x.o, .int .i64 x.f, .int .i64 x.t, .bool x.a] 24)) w7) := up1 I6 hN7; clear hO hN7 I6 hg))
        · go_ret
          exact ⟨rfl, base1 I7⟩
        · go_ret
          exact ⟨rfl, base1 I7⟩
        · go_roundg (4 - (i + 1))
          case measure => omega
          case rel => exact ⟨i + 1, some ⟨g, 0, none⟩, _, c, leaveL l' z.o, by go_num, by omega, by omega, rfl, J.out.1.next HM.out J.out.2.1 HO.out I7.out⟩
      · have hltz : ¬ (i : Int) < 4 := by omega
        have HA : Aside (l'.any (clash x) = false) := by show _ = _; rw [cnt_zero J.out.1.right.ok (by have := J.out.2.1; omega)]; rfl
        go_wp2_with (go_at_call 11; refine (ht _ (Below.refl _ _)).mono ?_; clear ht; rintro e w7 ⟨v7, e7, m7, rfl, _, hS7, hN7⟩; have I7 := up1 J.out.2.2 hN7; clear hN7; rcases take_free J.out.1.right J.out.1.len HR0.out.2 HA.out hS7 with rfl | rfl <;> clear hS7)
        · go_ret
          exact ⟨rfl, base1 I7⟩
        · go_ret
          exact ⟨rfl, base1 I7⟩)
theorem held_walk (l : List Lk) (x : Lk) (p : Option Addr) (cap : Nat) (w : World) (hL : Lies w p l) (hn : l.length * 32 ≤ 140737488355328) (hcap : l.length ≤ cap) (hnil : p = none → cap = 0) :
    Calls Try.prog 6 #[.slice p l.length cap, .agg #[.int .i64 x.o, .int .i64 x.f, .int .i64 x.t, .bool x.a]] w fun r w' => r = .returned (.bool true) ∧ Below w.heap.size w w' := by
  have hC := heldC l x p cap w hL (by omega) hcap
  by_cases h1 : (faultK l).1 = 0
  · by_cases h2 : (faultK [x]).1 = 0
    · exact held_3 l x p _ cap w hC hL rfl hcap hnil h1 h2
    · exact held_2 l x p _ cap w hC h1 h2
  · exact held_1 l x p _ cap w hC h1
end Go.Proofs.Ytampldoimpfjgab
