/-
  The statement LockByte, walked: its ways.
-/
import Derived.Test.YtampldoimpfjgabK9
namespace Go.Proofs.Ytampldoimpfjgab
open Go.RowKit Go.Sort KM
set_option linter.unusedVariables false

set_option maxHeartbeats 800000 in
theorem byte_f_o1 (l : List Lk) (x : Lk) (o k : Int) (p : Option Addr) (n cap : Nat) (w : World) (hnl : n = l.length) (hL : Lies w p l) (hn : n < 4611686018427387904) (hcap : n ≤ cap) (ho : ¬ o = x.o) :
    Calls Try.prog 5 #[.slice p n cap, .agg #[.int .i64 x.o, .int .i64 x.f, .int .i64 x.t, .bool x.a], .bool false, .int .i64 o, .int .i64 k] w fun r w' => r = .returned (.bool true) ∧ Below w.heap.size w w' := by
  have HIN : Aside (¬ (o = x.o ∧ x.f ≤ k ∧ k < x.t)) := (by omega : ¬ (o = x.o ∧ x.f ≤ k ∧ k < x.t))
  have ht : ∀ W, Below w.heap.size w W → Calls Try.prog 11 #[.slice p n cap, .agg #[.int .i64 x.o, .int .i64 x.f, .int .i64 x.t, .bool x.a]] W (ChangePost false l x W) := fun W hB => by subst hnl; exact take_any l x p cap W (hL.kept hB) hn hcap
  have hf : ∀ W, Below w.heap.size w W → Calls Try.prog 14 #[.slice p n cap, .agg #[.int .i64 x.o, .int .i64 x.f, .int .i64 x.t, .bool x.a]] W (ChangePost true l x W) := fun W hB => by subst hnl; exact free_any l x p cap W (hL.kept hB) hn hcap
  have hh : ∀ W, Below w.heap.size w W → ∀ B1 B2, W.cell? ⟨B1, 0, none⟩ = some (.int .i64 o) → W.cell? ⟨B2, 0, none⟩ = some (.int .i64 k) → B1 < W.heap.size → B2 < W.heap.size → Calls Try.prog 17 #[.slice p n cap, .pointer (some ⟨B1, 0, none⟩), .pointer (some ⟨B2, 0, none⟩)] W (fun r w' => r = .returned (.int .i64 (howL l o k)) ∧ Below W.heap.size W w') := fun W hB B1 B2 => by subst hnl; exact how_any l o k B1 B2 p cap W (hL.kept hB) hn
  have I := BBox.start x o k w
  have ho' : (o != x.o) = true := bne_iff_ne.2 ho
  clear hnl hL
  go_enter Try.func5, Try.ntmps5
  go_wp2_with (first
    | (go_at_call 16; refine (alive_any _).mono ?_; rintro e w1 ⟨rfl, hN⟩; replace I := I.kept hN; clear hN; obtain ⟨q0, q1, q2, q3, qo, qk⟩ : _ ∧ _ ∧ _ ∧ _ ∧ _ ∧ _ := ⟨I.x0, I.x1, I.x2, I.x3, I.co, I.ck⟩)
    | (go_at_call 11; refine (ht _ I.below).mono ?_; clear ht; intro e w2 hC; obtain ⟨hN, ⟨v, err, rfl, herr⟩ | ⟨pm, nm, cm, m, rfl, HM⟩⟩ := byte_parts hC <;> replace I := I.kept hN <;> clear hC hN <;> obtain ⟨q0, q1, q2, q3, qo, qk⟩ : _ ∧ _ ∧ _ ∧ _ ∧ _ ∧ _ := ⟨I.x0, I.x1, I.x2, I.x3, I.co, I.ck⟩)
    | ((first | go_at_call 17 | go_at_fn 17); refine (hh _ I.below (w.heap.size + 1) (w.heap.size + 1 + 1) I.co I.ck (by have := I.size; omega) (by have := I.size; omega)).mono ?_; clear hh; rintro e w5 ⟨rfl, hN⟩; replace I := I.kept hN; have hB5 := hN; clear hN)
    | ((first | go_at_call 17 | go_at_fn 17); refine (how_of HM.out hB5 I.co I.ck (by have := I.size; omega) (by have := I.size; omega)).mono ?_; rintro e w6 ⟨rfl, hN⟩; replace I := I.kept hN; clear hN))
  · go_ret
    exact ⟨rfl, I.below⟩
  · go_ret
    refine ⟨ret_bool ?_, I.below⟩
    rw [(byte_spec HM.out.2.2 o k).1 (by have h := HIN.out; simpa using h)]
    simp
set_option maxHeartbeats 800000 in
theorem byte_f_o2 (l : List Lk) (x : Lk) (o k : Int) (p : Option Addr) (n cap : Nat) (w : World) (hnl : n = l.length) (hL : Lies w p l) (hn : n < 4611686018427387904) (hcap : n ≤ cap) (ho : o = x.o) (hf1 : k < x.f) :
    Calls Try.prog 5 #[.slice p n cap, .agg #[.int .i64 x.o, .int .i64 x.f, .int .i64 x.t, .bool x.a], .bool false, .int .i64 o, .int .i64 k] w fun r w' => r = .returned (.bool true) ∧ Below w.heap.size w w' := by
  have HIN : Aside (¬ (o = x.o ∧ x.f ≤ k ∧ k < x.t)) := (by omega : ¬ (o = x.o ∧ x.f ≤ k ∧ k < x.t))
  subst ho
  have ht : ∀ W, Below w.heap.size w W → Calls Try.prog 11 #[.slice p n cap, .agg #[.int .i64 x.o, .int .i64 x.f, .int .i64 x.t, .bool x.a]] W (ChangePost false l x W) := fun W hB => by subst hnl; exact take_any l x p cap W (hL.kept hB) hn hcap
  have hf : ∀ W, Below w.heap.size w W → Calls Try.prog 14 #[.slice p n cap, .agg #[.int .i64 x.o, .int .i64 x.f, .int .i64 x.t, .bool x.a]] W (ChangePost true l x W) := fun W hB => by subst hnl; exact free_any l x p cap W (hL.kept hB) hn hcap
  have hh : ∀ W, Below w.heap.size w W → ∀ B1 B2, W.cell? ⟨B1, 0, none⟩ = some (.int .i64 x.o) → W.cell? ⟨B2, 0, none⟩ = some (.int .i64 k) → B1 < W.heap.size → B2 < W.heap.size → Calls Try.prog 17 #[.slice p n cap, .pointer (some ⟨B1, 0, none⟩), .pointer (some ⟨B2, 0, none⟩)] W (fun r w' => r = .returned (.int .i64 (howL l x.o k)) ∧ Below W.heap.size W w') := fun W hB B1 B2 => by subst hnl; exact how_any l x.o k B1 B2 p cap W (hL.kept hB) hn
  have I := BBox.start x x.o k w
  clear hnl hL
  go_enter Try.func5, Try.ntmps5
  go_wp2_with (first
    | (go_at_call 16; refine (alive_any _).mono ?_; rintro e w1 ⟨rfl, hN⟩; replace I := I.kept hN; clear hN; obtain ⟨q0, q1, q2, q3, qo, qk⟩ : _ ∧ _ ∧ _ ∧ _ ∧ _ ∧ _ := ⟨I.x0, I.x1, I.x2, I.x3, I.co, I.ck⟩)
    | (go_at_call 11; refine (ht _ I.below).mono ?_; clear ht; intro e w2 hC; obtain ⟨hN, ⟨v, err, rfl, herr⟩ | ⟨pm, nm, cm, m, rfl, HM⟩⟩ := byte_parts hC <;> replace I := I.kept hN <;> clear hC hN <;> obtain ⟨q0, q1, q2, q3, qo, qk⟩ : _ ∧ _ ∧ _ ∧ _ ∧ _ ∧ _ := ⟨I.x0, I.x1, I.x2, I.x3, I.co, I.ck⟩)
    | ((first | go_at_call 17 | go_at_fn 17); refine (hh _ I.below (w.heap.size + 1) (w.heap.size + 1 + 1) I.co I.ck (by have := I.size; omega) (by have := I.size; omega)).mono ?_; clear hh; rintro e w5 ⟨rfl, hN⟩; replace I := I.kept hN; have hB5 := hN; clear hN)
    | ((first | go_at_call 17 | go_at_fn 17); refine (how_of HM.out hB5 I.co I.ck (by have := I.size; omega) (by have := I.size; omega)).mono ?_; rintro e w6 ⟨rfl, hN⟩; replace I := I.kept hN; clear hN))
  · go_ret
    exact ⟨rfl, I.below⟩
  · go_ret
    refine ⟨ret_bool ?_, I.below⟩
    rw [(byte_spec HM.out.2.2 x.o k).1 (by have h := HIN.out; simpa using h)]
    simp
set_option maxHeartbeats 800000 in
theorem byte_f_o3 (l : List Lk) (x : Lk) (o k : Int) (p : Option Addr) (n cap : Nat) (w : World) (hnl : n = l.length) (hL : Lies w p l) (hn : n < 4611686018427387904) (hcap : n ≤ cap) (ho : o = x.o) (hf1 : ¬ k < x.f) (hf2 : x.t ≤ k) :
    Calls Try.prog 5 #[.slice p n cap, .agg #[.int .i64 x.o, .int .i64 x.f, .int .i64 x.t, .bool x.a], .bool false, .int .i64 o, .int .i64 k] w fun r w' => r = .returned (.bool true) ∧ Below w.heap.size w w' := by
  have HIN : Aside (¬ (o = x.o ∧ x.f ≤ k ∧ k < x.t)) := (by omega : ¬ (o = x.o ∧ x.f ≤ k ∧ k < x.t))
  subst ho
  have ht : ∀ W, Below w.heap.size w W → Calls Try.prog 11 #[.slice p n cap, .agg #[.int .i64 x.o, .int .i64 x.f, .int .i64 x.t, .bool x.a]] W (ChangePost false l x W) := fun W hB => by subst hnl; exact take_any l x p cap W (hL.kept hB) hn hcap
  have hf : ∀ W, Below w.heap.size w W → Calls Try.prog 14 #[.slice p n cap, .agg #[.int .i64 x.o, .int .i64 x.f, .int .i64 x.t, .bool x.a]] W (ChangePost true l x W) := fun W hB => by subst hnl; exact free_any l x p cap W (hL.kept hB) hn hcap
  have hh : ∀ W, Below w.heap.size w W → ∀ B1 B2, W.cell? ⟨B1, 0, none⟩ = some (.int .i64 x.o) → W.cell? ⟨B2, 0, none⟩ = some (.int .i64 k) → B1 < W.heap.size → B2 < W.heap.size → Calls Try.prog 17 #[.slice p n cap, .pointer (some ⟨B1, 0, none⟩), .pointer (some ⟨B2, 0, none⟩)] W (fun r w' => r = .returned (.int .i64 (howL l x.o k)) ∧ Below W.heap.size W w') := fun W hB B1 B2 => by subst hnl; exact how_any l x.o k B1 B2 p cap W (hL.kept hB) hn
  have I := BBox.start x x.o k w
  clear hnl hL
  go_enter Try.func5, Try.ntmps5
  go_wp2_with (first
    | (go_at_call 16; refine (alive_any _).mono ?_; rintro e w1 ⟨rfl, hN⟩; replace I := I.kept hN; clear hN; obtain ⟨q0, q1, q2, q3, qo, qk⟩ : _ ∧ _ ∧ _ ∧ _ ∧ _ ∧ _ := ⟨I.x0, I.x1, I.x2, I.x3, I.co, I.ck⟩)
    | (go_at_call 11; refine (ht _ I.below).mono ?_; clear ht; intro e w2 hC; obtain ⟨hN, ⟨v, err, rfl, herr⟩ | ⟨pm, nm, cm, m, rfl, HM⟩⟩ := byte_parts hC <;> replace I := I.kept hN <;> clear hC hN <;> obtain ⟨q0, q1, q2, q3, qo, qk⟩ : _ ∧ _ ∧ _ ∧ _ ∧ _ ∧ _ := ⟨I.x0, I.x1, I.x2, I.x3, I.co, I.ck⟩)
    | ((first | go_at_call 17 | go_at_fn 17); refine (hh _ I.below (w.heap.size + 1) (w.heap.size + 1 + 1) I.co I.ck (by have := I.size; omega) (by have := I.size; omega)).mono ?_; clear hh; rintro e w5 ⟨rfl, hN⟩; replace I := I.kept hN; have hB5 := hN; clear hN)
    | ((first | go_at_call 17 | go_at_fn 17); refine (how_of HM.out hB5 I.co I.ck (by have := I.size; omega) (by have := I.size; omega)).mono ?_; rintro e w6 ⟨rfl, hN⟩; replace I := I.kept hN; clear hN))
  · go_ret
    exact ⟨rfl, I.below⟩
  · go_ret
    refine ⟨ret_bool ?_, I.below⟩
    rw [(byte_spec HM.out.2.2 x.o k).1 (by have h := HIN.out; simpa using h)]
    simp
set_option maxHeartbeats 800000 in
theorem byte_f_int (l : List Lk) (x : Lk) (o k : Int) (p : Option Addr) (n cap : Nat) (w : World) (hnl : n = l.length) (hL : Lies w p l) (hn : n < 4611686018427387904) (hcap : n ≤ cap) (ho : o = x.o) (hf1 : ¬ k < x.f) (hf2 : ¬ x.t ≤ k) (hxa : x.a = true) :
    Calls Try.prog 5 #[.slice p n cap, .agg #[.int .i64 x.o, .int .i64 x.f, .int .i64 x.t, .bool x.a], .bool false, .int .i64 o, .int .i64 k] w fun r w' => r = .returned (.bool true) ∧ Below w.heap.size w w' := by
  have HIN : Aside ((o = x.o ∧ x.f ≤ k ∧ k < x.t)) := (by omega : (o = x.o ∧ x.f ≤ k ∧ k < x.t))
  obtain ⟨xo, xf, xt, xa⟩ := x
  simp only at hxa ho hf1 hf2 HIN
  subst hxa
  subst ho
  have ht : ∀ W, Below w.heap.size w W → Calls Try.prog 11 #[.slice p n cap, .agg #[.int .i64 o, .int .i64 xf, .int .i64 xt, .bool true]] W (ChangePost false l (⟨o, xf, xt, true⟩ : Lk) W) := fun W hB => by subst hnl; exact take_any l (⟨o, xf, xt, true⟩ : Lk) p cap W (hL.kept hB) hn hcap
  have hf : ∀ W, Below w.heap.size w W → Calls Try.prog 14 #[.slice p n cap, .agg #[.int .i64 o, .int .i64 xf, .int .i64 xt, .bool true]] W (ChangePost true l (⟨o, xf, xt, true⟩ : Lk) W) := fun W hB => by subst hnl; exact free_any l (⟨o, xf, xt, true⟩ : Lk) p cap W (hL.kept hB) hn hcap
  have hh : ∀ W, Below w.heap.size w W → ∀ B1 B2, W.cell? ⟨B1, 0, none⟩ = some (.int .i64 o) → W.cell? ⟨B2, 0, none⟩ = some (.int .i64 k) → B1 < W.heap.size → B2 < W.heap.size → Calls Try.prog 17 #[.slice p n cap, .pointer (some ⟨B1, 0, none⟩), .pointer (some ⟨B2, 0, none⟩)] W (fun r w' => r = .returned (.int .i64 (howL l o k)) ∧ Below W.heap.size W w') := fun W hB B1 B2 => by subst hnl; exact how_any l o k B1 B2 p cap W (hL.kept hB) hn
  have I := BBox.start (⟨o, xf, xt, true⟩ : Lk) o k w
  dsimp only at I
  clear hnl hL
  go_enter Try.func5, Try.ntmps5
  go_wp2_with (first
    | (go_at_call 16; refine (alive_any _).mono ?_; rintro e w1 ⟨rfl, hN⟩; replace I := I.kept hN; clear hN; obtain ⟨q0, q1, q2, q3, qo, qk⟩ : _ ∧ _ ∧ _ ∧ _ ∧ _ ∧ _ := ⟨I.x0, I.x1, I.x2, I.x3, I.co, I.ck⟩)
    | (go_at_call 11; refine (ht _ I.below).mono ?_; clear ht; intro e w2 hC; obtain ⟨hN, ⟨v, err, rfl, herr⟩ | ⟨pm, nm, cm, m, rfl, HM⟩⟩ := byte_parts hC <;> replace I := I.kept hN <;> clear hC hN <;> obtain ⟨q0, q1, q2, q3, qo, qk⟩ : _ ∧ _ ∧ _ ∧ _ ∧ _ ∧ _ := ⟨I.x0, I.x1, I.x2, I.x3, I.co, I.ck⟩)
    | ((first | go_at_call 17 | go_at_fn 17); refine (how_of HM.out (Below.refl _ _) I.co I.ck (by have := I.size; omega) (by have := I.size; omega)).mono ?_; rintro e w5 ⟨rfl, hN⟩; replace I := I.kept hN; clear hN))
  · go_ret
    exact ⟨rfl, I.below⟩
  · go_ret
    refine ⟨ret_bool ?_, I.below⟩
    rw [(byte_spec HM.out.2.2 o k).2 (by have h := HIN.out; simpa using h)]
    simp [howB]
set_option maxHeartbeats 800000 in
theorem byte_f_inf (l : List Lk) (x : Lk) (o k : Int) (p : Option Addr) (n cap : Nat) (w : World) (hnl : n = l.length) (hL : Lies w p l) (hn : n < 4611686018427387904) (hcap : n ≤ cap) (ho : o = x.o) (hf1 : ¬ k < x.f) (hf2 : ¬ x.t ≤ k) (hxa : x.a = false) :
    Calls Try.prog 5 #[.slice p n cap, .agg #[.int .i64 x.o, .int .i64 x.f, .int .i64 x.t, .bool x.a], .bool false, .int .i64 o, .int .i64 k] w fun r w' => r = .returned (.bool true) ∧ Below w.heap.size w w' := by
  have HIN : Aside ((o = x.o ∧ x.f ≤ k ∧ k < x.t)) := (by omega : (o = x.o ∧ x.f ≤ k ∧ k < x.t))
  obtain ⟨xo, xf, xt, xa⟩ := x
  simp only at hxa ho hf1 hf2 HIN
  subst hxa
  subst ho
  have ht : ∀ W, Below w.heap.size w W → Calls Try.prog 11 #[.slice p n cap, .agg #[.int .i64 o, .int .i64 xf, .int .i64 xt, .bool false]] W (ChangePost false l (⟨o, xf, xt, false⟩ : Lk) W) := fun W hB => by subst hnl; exact take_any l (⟨o, xf, xt, false⟩ : Lk) p cap W (hL.kept hB) hn hcap
  have hf : ∀ W, Below w.heap.size w W → Calls Try.prog 14 #[.slice p n cap, .agg #[.int .i64 o, .int .i64 xf, .int .i64 xt, .bool false]] W (ChangePost true l (⟨o, xf, xt, false⟩ : Lk) W) := fun W hB => by subst hnl; exact free_any l (⟨o, xf, xt, false⟩ : Lk) p cap W (hL.kept hB) hn hcap
  have hh : ∀ W, Below w.heap.size w W → ∀ B1 B2, W.cell? ⟨B1, 0, none⟩ = some (.int .i64 o) → W.cell? ⟨B2, 0, none⟩ = some (.int .i64 k) → B1 < W.heap.size → B2 < W.heap.size → Calls Try.prog 17 #[.slice p n cap, .pointer (some ⟨B1, 0, none⟩), .pointer (some ⟨B2, 0, none⟩)] W (fun r w' => r = .returned (.int .i64 (howL l o k)) ∧ Below W.heap.size W w') := fun W hB B1 B2 => by subst hnl; exact how_any l o k B1 B2 p cap W (hL.kept hB) hn
  have I := BBox.start (⟨o, xf, xt, false⟩ : Lk) o k w
  dsimp only at I
  clear hnl hL
  go_enter Try.func5, Try.ntmps5
  go_wp2_with (first
    | (go_at_call 16; refine (alive_any _).mono ?_; rintro e w1 ⟨rfl, hN⟩; replace I := I.kept hN; clear hN; obtain ⟨q0, q1, q2, q3, qo, qk⟩ : _ ∧ _ ∧ _ ∧ _ ∧ _ ∧ _ := ⟨I.x0, I.x1, I.x2, I.x3, I.co, I.ck⟩)
    | (go_at_call 11; refine (ht _ I.below).mono ?_; clear ht; intro e w2 hC; obtain ⟨hN, ⟨v, err, rfl, herr⟩ | ⟨pm, nm, cm, m, rfl, HM⟩⟩ := byte_parts hC <;> replace I := I.kept hN <;> clear hC hN <;> obtain ⟨q0, q1, q2, q3, qo, qk⟩ : _ ∧ _ ∧ _ ∧ _ ∧ _ ∧ _ := ⟨I.x0, I.x1, I.x2, I.x3, I.co, I.ck⟩)
    | ((first | go_at_call 17 | go_at_fn 17); refine (how_of HM.out (Below.refl _ _) I.co I.ck (by have := I.size; omega) (by have := I.size; omega)).mono ?_; rintro e w5 ⟨rfl, hN⟩; replace I := I.kept hN; clear hN))
  · go_ret
    exact ⟨rfl, I.below⟩
  · go_ret
    refine ⟨ret_bool ?_, I.below⟩
    rw [(byte_spec HM.out.2.2 o k).2 (by have h := HIN.out; simpa using h)]
    simp [howB]
set_option maxHeartbeats 800000 in
theorem byte_t_o1 (l : List Lk) (x : Lk) (o k : Int) (p : Option Addr) (n cap : Nat) (w : World) (hnl : n = l.length) (hL : Lies w p l) (hn : n < 4611686018427387904) (hcap : n ≤ cap) (ho : ¬ o = x.o) :
    Calls Try.prog 5 #[.slice p n cap, .agg #[.int .i64 x.o, .int .i64 x.f, .int .i64 x.t, .bool x.a], .bool true, .int .i64 o, .int .i64 k] w fun r w' => r = .returned (.bool true) ∧ Below w.heap.size w w' := by
  have HIN : Aside (¬ (o = x.o ∧ x.f ≤ k ∧ k < x.t)) := (by omega : ¬ (o = x.o ∧ x.f ≤ k ∧ k < x.t))
  have ht : ∀ W, Below w.heap.size w W → Calls Try.prog 11 #[.slice p n cap, .agg #[.int .i64 x.o, .int .i64 x.f, .int .i64 x.t, .bool x.a]] W (ChangePost false l x W) := fun W hB => by subst hnl; exact take_any l x p cap W (hL.kept hB) hn hcap
  have hf : ∀ W, Below w.heap.size w W → Calls Try.prog 14 #[.slice p n cap, .agg #[.int .i64 x.o, .int .i64 x.f, .int .i64 x.t, .bool x.a]] W (ChangePost true l x W) := fun W hB => by subst hnl; exact free_any l x p cap W (hL.kept hB) hn hcap
  have hh : ∀ W, Below w.heap.size w W → ∀ B1 B2, W.cell? ⟨B1, 0, none⟩ = some (.int .i64 o) → W.cell? ⟨B2, 0, none⟩ = some (.int .i64 k) → B1 < W.heap.size → B2 < W.heap.size → Calls Try.prog 17 #[.slice p n cap, .pointer (some ⟨B1, 0, none⟩), .pointer (some ⟨B2, 0, none⟩)] W (fun r w' => r = .returned (.int .i64 (howL l o k)) ∧ Below W.heap.size W w') := fun W hB B1 B2 => by subst hnl; exact how_any l o k B1 B2 p cap W (hL.kept hB) hn
  have I := BBox.start x o k w
  have ho' : (o != x.o) = true := bne_iff_ne.2 ho
  clear hnl hL
  go_enter Try.func5, Try.ntmps5
  go_wp2_with (first
    | (go_at_call 16; refine (alive_any _).mono ?_; rintro e w1 ⟨rfl, hN⟩; replace I := I.kept hN; clear hN; obtain ⟨q0, q1, q2, q3, qo, qk⟩ : _ ∧ _ ∧ _ ∧ _ ∧ _ ∧ _ := ⟨I.x0, I.x1, I.x2, I.x3, I.co, I.ck⟩)
    | (go_at_call 11; refine (ht _ I.below).mono ?_; clear ht; rintro e w2 ⟨v2, err2, m2, rfl, _, _, hN⟩; replace I := I.kept hN; clear hN; obtain ⟨q0, q1, q2, q3, qo, qk⟩ : _ ∧ _ ∧ _ ∧ _ ∧ _ ∧ _ := ⟨I.x0, I.x1, I.x2, I.x3, I.co, I.ck⟩)
    | (go_at_call 14; refine (hf _ I.below).mono ?_; clear hf; intro e w3 hC; obtain ⟨hN, ⟨v, err, rfl, herr⟩ | ⟨pm, nm, cm, m, rfl, HM⟩⟩ := byte_parts hC <;> replace I := I.kept hN <;> clear hC hN <;> obtain ⟨q0, q1, q2, q3, qo, qk⟩ : _ ∧ _ ∧ _ ∧ _ ∧ _ ∧ _ := ⟨I.x0, I.x1, I.x2, I.x3, I.co, I.ck⟩)
    | ((first | go_at_call 17 | go_at_fn 17); refine (hh _ I.below (w.heap.size + 1) (w.heap.size + 1 + 1) I.co I.ck (by have := I.size; omega) (by have := I.size; omega)).mono ?_; clear hh; rintro e w5 ⟨rfl, hN⟩; replace I := I.kept hN; have hB5 := hN; clear hN)
    | ((first | go_at_call 17 | go_at_fn 17); refine (how_of HM.out hB5 I.co I.ck (by have := I.size; omega) (by have := I.size; omega)).mono ?_; rintro e w6 ⟨rfl, hN⟩; replace I := I.kept hN; clear hN))
  · go_ret
    exact ⟨rfl, I.below⟩
  · go_ret
    refine ⟨ret_bool ?_, I.below⟩
    rw [(byte_spec HM.out.2.2 o k).1 (by have h := HIN.out; simpa using h)]
    simp
set_option maxHeartbeats 800000 in
theorem byte_t_o2 (l : List Lk) (x : Lk) (o k : Int) (p : Option Addr) (n cap : Nat) (w : World) (hnl : n = l.length) (hL : Lies w p l) (hn : n < 4611686018427387904) (hcap : n ≤ cap) (ho : o = x.o) (hf1 : k < x.f) :
    Calls Try.prog 5 #[.slice p n cap, .agg #[.int .i64 x.o, .int .i64 x.f, .int .i64 x.t, .bool x.a], .bool true, .int .i64 o, .int .i64 k] w fun r w' => r = .returned (.bool true) ∧ Below w.heap.size w w' := by
  have HIN : Aside (¬ (o = x.o ∧ x.f ≤ k ∧ k < x.t)) := (by omega : ¬ (o = x.o ∧ x.f ≤ k ∧ k < x.t))
  subst ho
  have ht : ∀ W, Below w.heap.size w W → Calls Try.prog 11 #[.slice p n cap, .agg #[.int .i64 x.o, .int .i64 x.f, .int .i64 x.t, .bool x.a]] W (ChangePost false l x W) := fun W hB => by subst hnl; exact take_any l x p cap W (hL.kept hB) hn hcap
  have hf : ∀ W, Below w.heap.size w W → Calls Try.prog 14 #[.slice p n cap, .agg #[.int .i64 x.o, .int .i64 x.f, .int .i64 x.t, .bool x.a]] W (ChangePost true l x W) := fun W hB => by subst hnl; exact free_any l x p cap W (hL.kept hB) hn hcap
  have hh : ∀ W, Below w.heap.size w W → ∀ B1 B2, W.cell? ⟨B1, 0, none⟩ = some (.int .i64 x.o) → W.cell? ⟨B2, 0, none⟩ = some (.int .i64 k) → B1 < W.heap.size → B2 < W.heap.size → Calls Try.prog 17 #[.slice p n cap, .pointer (some ⟨B1, 0, none⟩), .pointer (some ⟨B2, 0, none⟩)] W (fun r w' => r = .returned (.int .i64 (howL l x.o k)) ∧ Below W.heap.size W w') := fun W hB B1 B2 => by subst hnl; exact how_any l x.o k B1 B2 p cap W (hL.kept hB) hn
  have I := BBox.start x x.o k w
  clear hnl hL
  go_enter Try.func5, Try.ntmps5
  go_wp2_with (first
    | (go_at_call 16; refine (alive_any _).mono ?_; rintro e w1 ⟨rfl, hN⟩; replace I := I.kept hN; clear hN; obtain ⟨q0, q1, q2, q3, qo, qk⟩ : _ ∧ _ ∧ _ ∧ _ ∧ _ ∧ _ := ⟨I.x0, I.x1, I.x2, I.x3, I.co, I.ck⟩)
    | (go_at_call 11; refine (ht _ I.below).mono ?_; clear ht; rintro e w2 ⟨v2, err2, m2, rfl, _, _, hN⟩; replace I := I.kept hN; clear hN; obtain ⟨q0, q1, q2, q3, qo, qk⟩ : _ ∧ _ ∧ _ ∧ _ ∧ _ ∧ _ := ⟨I.x0, I.x1, I.x2, I.x3, I.co, I.ck⟩)
    | (go_at_call 14; refine (hf _ I.below).mono ?_; clear hf; intro e w3 hC; obtain ⟨hN, ⟨v, err, rfl, herr⟩ | ⟨pm, nm, cm, m, rfl, HM⟩⟩ := byte_parts hC <;> replace I := I.kept hN <;> clear hC hN <;> obtain ⟨q0, q1, q2, q3, qo, qk⟩ : _ ∧ _ ∧ _ ∧ _ ∧ _ ∧ _ := ⟨I.x0, I.x1, I.x2, I.x3, I.co, I.ck⟩)
    | ((first | go_at_call 17 | go_at_fn 17); refine (hh _ I.below (w.heap.size + 1) (w.heap.size + 1 + 1) I.co I.ck (by have := I.size; omega) (by have := I.size; omega)).mono ?_; clear hh; rintro e w5 ⟨rfl, hN⟩; replace I := I.kept hN; have hB5 := hN; clear hN)
    | ((first | go_at_call 17 | go_at_fn 17); refine (how_of HM.out hB5 I.co I.ck (by have := I.size; omega) (by have := I.size; omega)).mono ?_; rintro e w6 ⟨rfl, hN⟩; replace I := I.kept hN; clear hN))
  · go_ret
    exact ⟨rfl, I.below⟩
  · go_ret
    refine ⟨ret_bool ?_, I.below⟩
    rw [(byte_spec HM.out.2.2 x.o k).1 (by have h := HIN.out; simpa using h)]
    simp
set_option maxHeartbeats 800000 in
theorem byte_t_o3 (l : List Lk) (x : Lk) (o k : Int) (p : Option Addr) (n cap : Nat) (w : World) (hnl : n = l.length) (hL : Lies w p l) (hn : n < 4611686018427387904) (hcap : n ≤ cap) (ho : o = x.o) (hf1 : ¬ k < x.f) (hf2 : x.t ≤ k) :
    Calls Try.prog 5 #[.slice p n cap, .agg #[.int .i64 x.o, .int .i64 x.f, .int .i64 x.t, .bool x.a], .bool true, .int .i64 o, .int .i64 k] w fun r w' => r = .returned (.bool true) ∧ Below w.heap.size w w' := by
  have HIN : Aside (¬ (o = x.o ∧ x.f ≤ k ∧ k < x.t)) := (by omega : ¬ (o = x.o ∧ x.f ≤ k ∧ k < x.t))
  subst ho
  have ht : ∀ W, Below w.heap.size w W → Calls Try.prog 11 #[.slice p n cap, .agg #[.int .i64 x.o, .int .i64 x.f, .int .i64 x.t, .bool x.a]] W (ChangePost false l x W) := fun W hB => by subst hnl; exact take_any l x p cap W (hL.kept hB) hn hcap
  have hf : ∀ W, Below w.heap.size w W → Calls Try.prog 14 #[.slice p n cap, .agg #[.int .i64 x.o, .int .i64 x.f, .int .i64 x.t, .bool x.a]] W (ChangePost true l x W) := fun W hB => by subst hnl; exact free_any l x p cap W (hL.kept hB) hn hcap
  have hh : ∀ W, Below w.heap.size w W → ∀ B1 B2, W.cell? ⟨B1, 0, none⟩ = some (.int .i64 x.o) → W.cell? ⟨B2, 0, none⟩ = some (.int .i64 k) → B1 < W.heap.size → B2 < W.heap.size → Calls Try.prog 17 #[.slice p n cap, .pointer (some ⟨B1, 0, none⟩), .pointer (some ⟨B2, 0, none⟩)] W (fun r w' => r = .returned (.int .i64 (howL l x.o k)) ∧ Below W.heap.size W w') := fun W hB B1 B2 => by subst hnl; exact how_any l x.o k B1 B2 p cap W (hL.kept hB) hn
  have I := BBox.start x x.o k w
  clear hnl hL
  go_enter Try.func5, Try.ntmps5
  go_wp2_with (first
    | (go_at_call 16; refine (alive_any _).mono ?_; rintro e w1 ⟨rfl, hN⟩; replace I := I.kept hN; clear hN; obtain ⟨q0, q1, q2, q3, qo, qk⟩ : _ ∧ _ ∧ _ ∧ _ ∧ _ ∧ _ := ⟨I.x0, I.x1, I.x2, I.x3, I.co, I.ck⟩)
    | (go_at_call 11; refine (ht _ I.below).mono ?_; clear ht; rintro e w2 ⟨v2, err2, m2, rfl, _, _, hN⟩; replace I := I.kept hN; clear hN; obtain ⟨q0, q1, q2, q3, qo, qk⟩ : _ ∧ _ ∧ _ ∧ _ ∧ _ ∧ _ := ⟨I.x0, I.x1, I.x2, I.x3, I.co, I.ck⟩)
    | (go_at_call 14; refine (hf _ I.below).mono ?_; clear hf; intro e w3 hC; obtain ⟨hN, ⟨v, err, rfl, herr⟩ | ⟨pm, nm, cm, m, rfl, HM⟩⟩ := byte_parts hC <;> replace I := I.kept hN <;> clear hC hN <;> obtain ⟨q0, q1, q2, q3, qo, qk⟩ : _ ∧ _ ∧ _ ∧ _ ∧ _ ∧ _ := ⟨I.x0, I.x1, I.x2, I.x3, I.co, I.ck⟩)
    | ((first | go_at_call 17 | go_at_fn 17); refine (hh _ I.below (w.heap.size + 1) (w.heap.size + 1 + 1) I.co I.ck (by have := I.size; omega) (by have := I.size; omega)).mono ?_; clear hh; rintro e w5 ⟨rfl, hN⟩; replace I := I.kept hN; have hB5 := hN; clear hN)
    | ((first | go_at_call 17 | go_at_fn 17); refine (how_of HM.out hB5 I.co I.ck (by have := I.size; omega) (by have := I.size; omega)).mono ?_; rintro e w6 ⟨rfl, hN⟩; replace I := I.kept hN; clear hN))
  · go_ret
    exact ⟨rfl, I.below⟩
  · go_ret
    refine ⟨ret_bool ?_, I.below⟩
    rw [(byte_spec HM.out.2.2 x.o k).1 (by have h := HIN.out; simpa using h)]
    simp
set_option maxHeartbeats 800000 in
theorem byte_t_int (l : List Lk) (x : Lk) (o k : Int) (p : Option Addr) (n cap : Nat) (w : World) (hnl : n = l.length) (hL : Lies w p l) (hn : n < 4611686018427387904) (hcap : n ≤ cap) (ho : o = x.o) (hf1 : ¬ k < x.f) (hf2 : ¬ x.t ≤ k) (hxa : x.a = true) :
    Calls Try.prog 5 #[.slice p n cap, .agg #[.int .i64 x.o, .int .i64 x.f, .int .i64 x.t, .bool x.a], .bool true, .int .i64 o, .int .i64 k] w fun r w' => r = .returned (.bool true) ∧ Below w.heap.size w w' := by
  have HIN : Aside ((o = x.o ∧ x.f ≤ k ∧ k < x.t)) := (by omega : (o = x.o ∧ x.f ≤ k ∧ k < x.t))
  obtain ⟨xo, xf, xt, xa⟩ := x
  simp only at hxa ho hf1 hf2 HIN
  subst hxa
  subst ho
  have ht : ∀ W, Below w.heap.size w W → Calls Try.prog 11 #[.slice p n cap, .agg #[.int .i64 o, .int .i64 xf, .int .i64 xt, .bool true]] W (ChangePost false l (⟨o, xf, xt, true⟩ : Lk) W) := fun W hB => by subst hnl; exact take_any l (⟨o, xf, xt, true⟩ : Lk) p cap W (hL.kept hB) hn hcap
  have hf : ∀ W, Below w.heap.size w W → Calls Try.prog 14 #[.slice p n cap, .agg #[.int .i64 o, .int .i64 xf, .int .i64 xt, .bool true]] W (ChangePost true l (⟨o, xf, xt, true⟩ : Lk) W) := fun W hB => by subst hnl; exact free_any l (⟨o, xf, xt, true⟩ : Lk) p cap W (hL.kept hB) hn hcap
  have hh : ∀ W, Below w.heap.size w W → ∀ B1 B2, W.cell? ⟨B1, 0, none⟩ = some (.int .i64 o) → W.cell? ⟨B2, 0, none⟩ = some (.int .i64 k) → B1 < W.heap.size → B2 < W.heap.size → Calls Try.prog 17 #[.slice p n cap, .pointer (some ⟨B1, 0, none⟩), .pointer (some ⟨B2, 0, none⟩)] W (fun r w' => r = .returned (.int .i64 (howL l o k)) ∧ Below W.heap.size W w') := fun W hB B1 B2 => by subst hnl; exact how_any l o k B1 B2 p cap W (hL.kept hB) hn
  have I := BBox.start (⟨o, xf, xt, true⟩ : Lk) o k w
  dsimp only at I
  clear hnl hL
  go_enter Try.func5, Try.ntmps5
  go_wp2_with (first
    | (go_at_call 16; refine (alive_any _).mono ?_; rintro e w1 ⟨rfl, hN⟩; replace I := I.kept hN; clear hN; obtain ⟨q0, q1, q2, q3, qo, qk⟩ : _ ∧ _ ∧ _ ∧ _ ∧ _ ∧ _ := ⟨I.x0, I.x1, I.x2, I.x3, I.co, I.ck⟩)
    | (go_at_call 11; refine (ht _ I.below).mono ?_; clear ht; rintro e w2 ⟨v2, err2, m2, rfl, _, _, hN⟩; replace I := I.kept hN; clear hN; obtain ⟨q0, q1, q2, q3, qo, qk⟩ : _ ∧ _ ∧ _ ∧ _ ∧ _ ∧ _ := ⟨I.x0, I.x1, I.x2, I.x3, I.co, I.ck⟩)
    | (go_at_call 14; refine (hf _ I.below).mono ?_; clear hf; intro e w3 hC; obtain ⟨hN, ⟨v, err, rfl, herr⟩ | ⟨pm, nm, cm, m, rfl, HM⟩⟩ := byte_parts hC <;> replace I := I.kept hN <;> clear hC hN <;> obtain ⟨q0, q1, q2, q3, qo, qk⟩ : _ ∧ _ ∧ _ ∧ _ ∧ _ ∧ _ := ⟨I.x0, I.x1, I.x2, I.x3, I.co, I.ck⟩)
    | ((first | go_at_call 17 | go_at_fn 17); refine (how_of HM.out (Below.refl _ _) I.co I.ck (by have := I.size; omega) (by have := I.size; omega)).mono ?_; rintro e w5 ⟨rfl, hN⟩; replace I := I.kept hN; clear hN))
  · go_ret
    exact ⟨rfl, I.below⟩
  · go_ret
    refine ⟨ret_bool ?_, I.below⟩
    rw [(byte_spec HM.out.2.2 o k).2 (by have h := HIN.out; simpa using h)]
    simp
set_option maxHeartbeats 800000 in
theorem byte_t_inf (l : List Lk) (x : Lk) (o k : Int) (p : Option Addr) (n cap : Nat) (w : World) (hnl : n = l.length) (hL : Lies w p l) (hn : n < 4611686018427387904) (hcap : n ≤ cap) (ho : o = x.o) (hf1 : ¬ k < x.f) (hf2 : ¬ x.t ≤ k) (hxa : x.a = false) :
    Calls Try.prog 5 #[.slice p n cap, .agg #[.int .i64 x.o, .int .i64 x.f, .int .i64 x.t, .bool x.a], .bool true, .int .i64 o, .int .i64 k] w fun r w' => r = .returned (.bool true) ∧ Below w.heap.size w w' := by
  have HIN : Aside ((o = x.o ∧ x.f ≤ k ∧ k < x.t)) := (by omega : (o = x.o ∧ x.f ≤ k ∧ k < x.t))
  obtain ⟨xo, xf, xt, xa⟩ := x
  simp only at hxa ho hf1 hf2 HIN
  subst hxa
  subst ho
  have ht : ∀ W, Below w.heap.size w W → Calls Try.prog 11 #[.slice p n cap, .agg #[.int .i64 o, .int .i64 xf, .int .i64 xt, .bool false]] W (ChangePost false l (⟨o, xf, xt, false⟩ : Lk) W) := fun W hB => by subst hnl; exact take_any l (⟨o, xf, xt, false⟩ : Lk) p cap W (hL.kept hB) hn hcap
  have hf : ∀ W, Below w.heap.size w W → Calls Try.prog 14 #[.slice p n cap, .agg #[.int .i64 o, .int .i64 xf, .int .i64 xt, .bool false]] W (ChangePost true l (⟨o, xf, xt, false⟩ : Lk) W) := fun W hB => by subst hnl; exact free_any l (⟨o, xf, xt, false⟩ : Lk) p cap W (hL.kept hB) hn hcap
  have hh : ∀ W, Below w.heap.size w W → ∀ B1 B2, W.cell? ⟨B1, 0, none⟩ = some (.int .i64 o) → W.cell? ⟨B2, 0, none⟩ = some (.int .i64 k) → B1 < W.heap.size → B2 < W.heap.size → Calls Try.prog 17 #[.slice p n cap, .pointer (some ⟨B1, 0, none⟩), .pointer (some ⟨B2, 0, none⟩)] W (fun r w' => r = .returned (.int .i64 (howL l o k)) ∧ Below W.heap.size W w') := fun W hB B1 B2 => by subst hnl; exact how_any l o k B1 B2 p cap W (hL.kept hB) hn
  have I := BBox.start (⟨o, xf, xt, false⟩ : Lk) o k w
  dsimp only at I
  clear hnl hL
  go_enter Try.func5, Try.ntmps5
  go_wp2_with (first
    | (go_at_call 16; refine (alive_any _).mono ?_; rintro e w1 ⟨rfl, hN⟩; replace I := I.kept hN; clear hN; obtain ⟨q0, q1, q2, q3, qo, qk⟩ : _ ∧ _ ∧ _ ∧ _ ∧ _ ∧ _ := ⟨I.x0, I.x1, I.x2, I.x3, I.co, I.ck⟩)
    | (go_at_call 11; refine (ht _ I.below).mono ?_; clear ht; rintro e w2 ⟨v2, err2, m2, rfl, _, _, hN⟩; replace I := I.kept hN; clear hN; obtain ⟨q0, q1, q2, q3, qo, qk⟩ : _ ∧ _ ∧ _ ∧ _ ∧ _ ∧ _ := ⟨I.x0, I.x1, I.x2, I.x3, I.co, I.ck⟩)
    | (go_at_call 14; refine (hf _ I.below).mono ?_; clear hf; intro e w3 hC; obtain ⟨hN, ⟨v, err, rfl, herr⟩ | ⟨pm, nm, cm, m, rfl, HM⟩⟩ := byte_parts hC <;> replace I := I.kept hN <;> clear hC hN <;> obtain ⟨q0, q1, q2, q3, qo, qk⟩ : _ ∧ _ ∧ _ ∧ _ ∧ _ ∧ _ := ⟨I.x0, I.x1, I.x2, I.x3, I.co, I.ck⟩)
    | ((first | go_at_call 17 | go_at_fn 17); refine (how_of HM.out (Below.refl _ _) I.co I.ck (by have := I.size; omega) (by have := I.size; omega)).mono ?_; rintro e w5 ⟨rfl, hN⟩; replace I := I.kept hN; clear hN))
  · go_ret
    exact ⟨rfl, I.below⟩
  · go_ret
    refine ⟨ret_bool ?_, I.below⟩
    rw [(byte_spec HM.out.2.2 o k).2 (by have h := HIN.out; simpa using h)]
    simp
theorem byte_walk (l : List Lk) (x : Lk) (free : Bool) (o k : Int) (p : Option Addr) (cap : Nat) (w : World) (hL : Lies w p l) (hn : l.length < 4611686018427387904) (hcap : l.length ≤ cap) :
    Calls Try.prog 5 #[.slice p l.length cap, .agg #[.int .i64 x.o, .int .i64 x.f, .int .i64 x.t, .bool x.a], .bool free, .int .i64 o, .int .i64 k] w fun r w' => r = .returned (.bool true) ∧ Below w.heap.size w w' := by
  by_cases ho : o = x.o
  · by_cases hf1 : k < x.f
    · cases free
      · exact byte_f_o2 l x o k p _ cap w rfl hL hn hcap ho hf1
      · exact byte_t_o2 l x o k p _ cap w rfl hL hn hcap ho hf1
    · by_cases hf2 : x.t ≤ k
      · cases free
        · exact byte_f_o3 l x o k p _ cap w rfl hL hn hcap ho hf1 hf2
        · exact byte_t_o3 l x o k p _ cap w rfl hL hn hcap ho hf1 hf2
      · by_cases hxa : x.a = true
        · cases free
          · exact byte_f_int l x o k p _ cap w rfl hL hn hcap ho hf1 hf2 hxa
          · exact byte_t_int l x o k p _ cap w rfl hL hn hcap ho hf1 hf2 hxa
        · rw [Bool.not_eq_true] at hxa
          cases free
          · exact byte_f_inf l x o k p _ cap w rfl hL hn hcap ho hf1 hf2 hxa
          · exact byte_t_inf l x o k p _ cap w rfl hL hn hcap ho hf1 hf2 hxa
  · cases free
    · exact byte_f_o1 l x o k p _ cap w rfl hL hn hcap ho
    · exact byte_t_o1 l x o k p _ cap w rfl hL hn hcap ho
end Go.Proofs.Ytampldoimpfjgab
