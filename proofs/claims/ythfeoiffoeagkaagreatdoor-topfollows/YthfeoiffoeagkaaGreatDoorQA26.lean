/-
  lock.changed, lock.Take and lock.Free.
-/
import Derived.Test.YthfeoiffoeagkaaGreatDoorQA25
namespace Go.Proofs.YthfeoiffoeagkaaGreatDoor.LK
open Go.RowKit Go.Sort KM
set_option linter.unusedVariables false
set_option maxRecDepth 100000
theorem field27 (a b : Value) (w : World) : Sem.run Tryz.prog (Instr.field 46 (.agg #[a, b]) 0) w = .ok a w := by
 first | kernel_rfl | simp [go_sem] | rfl
theorem made_parts {free : Bool} {l : List Lk} {x : Lk} {w w' : World} {e : Ending} (h : MadePost free l x w e w') :
  Aside (Below w.heap.size w w') ∧ ((∃ v, e = .returned (.tuple #[v, .int .i64 13]) ∧ Aside (free = false ∧ l.any (clash x) = true)) ∨
   ∃ p n c m, e = .returned (.tuple #[.slice p n c, .int .i64 0]) ∧ Aside (n = m.length) ∧ Aside (Rows w' w.heap.size (.slice p n c) m) ∧ Aside ((free = true ∨ l.any (clash x) = false) ∧ RightK m ∧ HasSpec free l x m) ∧ ((40 : Int) < (n : Int) ∨ ¬ (40 : Int) < (n : Int))) := by
 obtain ⟨v, err, m, rfl, hR, hB, ⟨rfl, rfl, h1⟩ | ⟨rfl, h1⟩⟩ := h
 ·exact ⟨hB, .inl ⟨v, rfl, h1⟩⟩
 ·obtain ⟨p, c, rfl, _, _, _⟩ := hR.form
  exact ⟨hB, .inr ⟨p, m.length, c, m, rfl, rfl, hR, h1, Decidable.em _⟩⟩
abbrev ChangeC (free : Bool) (l : List Lk) (x : Lk) (w : World) (gf : Nat) (lb : Array Value) : Prop :=
 preErr l x = 0 → ∀ W, Below w.heap.size w W → Calls Tryz.prog gf lb W (MadePost free l x W)
theorem orL_pre (l : List Lk) (x : Lk) : orL [(faultK l).1, (faultK [x]).1] = preErr l x := by
 rw [fault_one]
 unfold preErr orL orL orL
 by_cases h : okK x <;> by_cases h1 : (faultK l).1 = 0 <;> simp [h, h1]
set_option maxHeartbeats 1000000 in
theorem changed_any (free : Bool) (l : List Lk) (x : Lk) (p : Option Addr) (cap : Nat) (gf : Nat) (lb : Array Value) (eg : ∀ args w, (callFunc gf args).run Tryz.prog w = .ok (.enter gf args) w) (w : World) (hL : Lies w p l) (hn : l.length < 4611686018427387904) (hcap : l.length ≤ cap) (hch : ChangeC free l x w gf lb) :
  Calls Tryz.prog 192 #[.slice p l.length cap, .agg #[.int .i64 x.o, .int .i64 x.f, .int .i64 x.t, .bool x.a], .func (.func gf) #[] lb] w (ChangePost free l x w) := by
 have hw1 := fun W (hB : Below w.heap.size w W) => wrong_any l p cap W (hL.kept hB) hn hcap
 have hw2 : ∀ (W : World) (H : Nat), H < W.heap.size → (∀ j u, (encK x)[j]? = some u → W.cell? ⟨H, j, none⟩ = some u) → Calls Tryz.prog 28 #[.slice (some ⟨H, 0, none⟩) 1 1] W (WrongPost [x] W) := fun W H hH hc =>
  wrong_any [x] (some ⟨H, 0, none⟩) 1 W (.inr ⟨H, 0, rfl, hH, fun j e he i v hv => by
   cases j with
   | zero => obtain rfl : x = e := by simpa using he
             simpa using hc i v hv
   | succ j => simp at he⟩) (by show 1 < _; decide) (by show 1 ≤ 1; decide)
 have HP : Aside (orL [(faultK l).1, (faultK [x]).1] = preErr l x) := orL_pre l x
 have HCH : Aside (ChangeC free l x w gf lb) := hch
 unfold WrongPost at hw1 hw2
 generalize (faultK l).1 = f1 at hw1 HP
 generalize (faultK l).2 = f1' at hw1
 generalize (faultK [x]).1 = f2 at hw2 HP
 generalize (faultK [x]).2 = f2' at hw2
 generalize l.length = n at *
 clear hch hL
 go_enter Tryz.func192, Tryz.ntmps192
 have hfld := field27
 go_wp2
 have hW0 : Below w.heap.size w (w.alloc (.cells #[.int .i64 x.o, .int .i64 x.f, .int .i64 x.t, .bool x.a] 58)) := ((Grown.refl w).alloc _).below
 obtain ⟨⟨d1, d2, d3, d4⟩, _⟩ := new4 (w := w) (B := w.heap.size + 1) (Nat.lt_succ_self _) (Below.refl _ (w.alloc (.cells #[.int .i64 x.o, .int .i64 x.f, .int .i64 x.t, .bool x.a] 58)))
 have hd2 : w.heap.size < (w.alloc (.cells #[.int .i64 x.o, .int .i64 x.f, .int .i64 x.t, .bool x.a] 58)).heap.size := by simp
 generalize w.alloc (.cells #[.int .i64 x.o, .int .i64 x.f, .int .i64 x.t, .bool x.a] 58) = W0 at *
 have hB0 := hW0.size
 generalize hpe : preErr l x = pe at HP
 have HPE : Aside (preErr l x = pe) := hpe
 clear hpe
 go_region_law (first
  | (go_simp; go_at_call 28; refine (hw1 _ hW0.drew).mono ?_; clear hw1; rintro e w2 ⟨rfl, hB2⟩; have hBB : Below W0.heap.size W0 w2 := (Below.refl _ W0).drew.trans hB2; have hq : True := trivial; clear hB2; obtain ⟨e1, e2, e3, e4⟩ : w2.cell? ⟨w.heap.size, 0, none⟩ = some (.int .i64 x.o) ∧ w2.cell? ⟨w.heap.size, 1, none⟩ = some (.int .i64 x.f) ∧ w2.cell? ⟨w.heap.size, 2, none⟩ = some (.int .i64 x.t) ∧ w2.cell? ⟨w.heap.size, 3, none⟩ = some (.bool x.a) := ⟨(hBB.cell (p := ⟨w.heap.size, 0, none⟩) hd2).trans d1, (hBB.cell (p := ⟨w.heap.size, 1, none⟩) hd2).trans d2, (hBB.cell (p := ⟨w.heap.size, 2, none⟩) hd2).trans d3, (hBB.cell (p := ⟨w.heap.size, 3, none⟩) hd2).trans d4⟩; have hs2 : W0.heap.size ≤ w2.heap.size := hBB.size; have hgo : True := trivial)
  | (go_simp; go_at_call 28; refine (hw1 _ (hW0.alloc hB0 (.cells #[.int .i64 x.o, .int .i64 x.f, .int .i64 x.t, .bool x.a] 58)).drew).mono ?_; clear hw1; rintro e w2 ⟨rfl, hB2⟩; have hBX : Below (W0.heap.size + 1) (W0.alloc (.cells #[.int .i64 x.o, .int .i64 x.f, .int .i64 x.t, .bool x.a] 58)) w2 := (Below.refl _ _).drew.trans (hB2.mono (by simp)); have hBB : Below W0.heap.size W0 w2 := base1 hBX; have hq := (new4 (Nat.lt_succ_self _) hBX).1; have hq2 : W0.heap.size < w2.heap.size := (by have := hBX.size; simp at this; omega); clear hB2 hBX; obtain ⟨e1, e2, e3, e4⟩ : w2.cell? ⟨w.heap.size, 0, none⟩ = some (.int .i64 x.o) ∧ w2.cell? ⟨w.heap.size, 1, none⟩ = some (.int .i64 x.f) ∧ w2.cell? ⟨w.heap.size, 2, none⟩ = some (.int .i64 x.t) ∧ w2.cell? ⟨w.heap.size, 3, none⟩ = some (.bool x.a) := ⟨(hBB.cell (p := ⟨w.heap.size, 0, none⟩) hd2).trans d1, (hBB.cell (p := ⟨w.heap.size, 1, none⟩) hd2).trans d2, (hBB.cell (p := ⟨w.heap.size, 2, none⟩) hd2).trans d3, (hBB.cell (p := ⟨w.heap.size, 3, none⟩) hd2).trans d4⟩; have hs2 : W0.heap.size ≤ w2.heap.size := hBB.size; have hgo : True := trivial)
  | (go_simp; go_at_call 28; refine (hw2 _ W0.heap.size hq2 (fun j u hu => by have := old_one hq j u hu; rwa [Addr.add_lit, Nat.zero_add] at this)).mono ?_; clear hgo; rintro e w3 ⟨rfl, hB3⟩; have hBB3 : Below W0.heap.size W0 w3 := hBB.trans (hB3.mono hs2); clear hB3 hw2; have hs3 := hBB3.size)
  | (go_simp; go_at_call 28; refine (hw2 _ w2.heap.size (by simp) (fun j u hu => by have := row_one_new w2 x _ rfl j u hu; rwa [Addr.add_lit, Nat.zero_add] at this)).mono ?_; clear hgo; rintro e w3 ⟨rfl, hB3⟩; have hBB3 : Below W0.heap.size W0 w3 := hBB.trans ((((Grown.refl w2).alloc _).below.trans (hB3.mono (by simp))).mono hs2); clear hB3 hw2; have hs3 := hBB3.size)
  | (go_simp; go_at_call 157; refine (or2E_any f1 f2 w3.heap.size _ (by simp) (by simp)).mono ?_; rintro e w4 ⟨rfl, hw4⟩; subst hw4; rw [HP.out]))
 all_goals (have hB3 : Below w.heap.size w (w3.alloc (.cells #[.int .i64 f1, .int .i64 f2] 31)) := (hW0.trans (hBB3.mono hB0)).alloc (by omega) _)
 all_goals clear hBB hBB3 e1 e2 e3 e4 d1 d2 d3 d4
 all_goals (generalize w3.alloc (.cells #[.int .i64 f1, .int .i64 f2] 31) = W4 at *)
 all_goals (
  by_cases hpe0 : pe = 0
  ·subst hpe0
   have hch := HCH.out HPE.out _ hB3
   go_wp2_with (go_at_fn gf; refine hch.mono ?_; clear hch; intro e w5 hM; obtain ⟨HB5, ⟨v, rfl, H1⟩ | ⟨p5, n5, c5, m, rfl, HN5, HR5, H1, h40 | h40⟩⟩ := made_parts hM <;> clear hM)
   ·go_ret2
    exact ⟨.slice none 0 0, 13, [], rfl, Rows.nil _ _, .inr (.inl ⟨HPE.out, H1.out.1, H1.out.2, rfl, rfl⟩), Below.onto hB3 HB5.out⟩
   ·go_ret2
    exact ⟨.slice none 0 0, 5, [], rfl, Rows.nil _ _, .inr (.inr ⟨HPE.out, H1.out.1, m, H1.out.2.1, H1.out.2.2, .inl ⟨by have := HN5.out; omega, rfl, rfl⟩⟩), Below.onto hB3 HB5.out⟩
   ·go_ret2
    exact ⟨.slice p5 n5 c5, 0, m, rfl, HR5.out.mono hB3.size, .inr (.inr ⟨HPE.out, H1.out.1, m, H1.out.2.1, H1.out.2.2, .inr ⟨by have := HN5.out; omega, rfl, rfl⟩⟩), Below.onto hB3 HB5.out⟩
  ·go_wp2
   go_ret2
   exact ⟨.slice none 0 0, pe, [], rfl, Rows.nil _ _, .inl ⟨by rw [HPE.out]; exact hpe0, HPE.out.symm, rfl⟩, hB3⟩)
theorem boxes_new (w : World) (p : Option Addr) (n cap : Nat) (x : Lk) : Boxes ((w.alloc (.cells #[.slice p n cap] 60)).alloc (.cells #[.int .i64 x.o, .int .i64 x.f, .int .i64 x.t, .bool x.a] 58)) w.heap.size (w.heap.size + 1) p n cap x := by
 have e : w.heap.size + 1 = (w.alloc (.cells #[.slice p n cap] 60)).heap.size := by simp
 have h4 := (new4h (X := w.alloc (.cells #[.slice p n cap] 60)) (t := 58) (a := .int .i64 x.o) (b := .int .i64 x.f) (c := .int .i64 x.t) (d := .bool x.a) e (Below.refl _ _)).1
 exact ⟨Lib.cell?_alloc_some _ (by simp), h4, by simp; omega, by simp⟩
theorem free_any (l : List Lk) (x : Lk) (p : Option Addr) (cap : Nat) (w : World) (hL : Lies w p l) (hn : l.length < 4611686018427387904) (hcap : l.length ≤ cap) :
  Calls Tryz.prog 142 #[.slice p l.length cap, .agg #[.int .i64 x.o, .int .i64 x.f, .int .i64 x.t, .bool x.a]] w (ChangePost true l x w) := by
 have eg : ∀ args w, (callFunc 196 args).run Tryz.prog w = .ok (.enter 196 args) w := enters_of Tryz.func196 (by kernel_rfl) rfl
 have hG : Grown w ((w.alloc (.cells #[.slice p l.length cap] 60)).alloc (.cells #[.int .i64 x.o, .int .i64 x.f, .int .i64 x.t, .bool x.a] 58)) := ((Grown.refl w).alloc _).alloc _
 have hc := changed_any true l x p cap 196 #[.pointer (some ⟨w.heap.size, 0, none⟩), .pointer (some ⟨w.heap.size + 1, 0, none⟩)] eg _ (hL.grown hG) hn hcap (fun h0 W hB => freeP_any l x p cap w.heap.size (w.heap.size + 1) W ((hL.grown hG).kept hB) h0 ((boxes_new w p l.length cap x).kept hB))
 generalize l.length = n at *
 clear eg hL
 go_enter Tryz.func142, Tryz.ntmps142
 go_wp2_with (go_at_call 192; refine hc.mono ?_; clear hc; rintro e w1 ⟨v, err, m, rfl, hR, hS, hB⟩; have HR : Aside (Rows w1 w.heap.size v m) := hR.mono (by simp; omega); have HS : Aside (SetSpec true l x err m) := hS; have HB : Aside (Below w.heap.size w w1) := hG.below.trans (hB.mono (by simp; omega)); clear hR hS hB)
 go_ret2
 exact ⟨v, err, m, rfl, HR.out, HS.out, HB.out⟩
theorem take_any (l : List Lk) (x : Lk) (p : Option Addr) (cap : Nat) (w : World) (hL : Lies w p l) (hn : l.length < 4611686018427387904) (hcap : l.length ≤ cap) :
  Calls Tryz.prog 141 #[.slice p l.length cap, .agg #[.int .i64 x.o, .int .i64 x.f, .int .i64 x.t, .bool x.a]] w (ChangePost false l x w) := by
 have eg : ∀ args w, (callFunc 193 args).run Tryz.prog w = .ok (.enter 193 args) w := enters_of Tryz.func193 (by kernel_rfl) rfl
 have hG : Grown w ((w.alloc (.cells #[.slice p l.length cap] 60)).alloc (.cells #[.int .i64 x.o, .int .i64 x.f, .int .i64 x.t, .bool x.a] 58)) := ((Grown.refl w).alloc _).alloc _
 have hc := changed_any false l x p cap 193 #[.pointer (some ⟨w.heap.size, 0, none⟩), .pointer (some ⟨w.heap.size + 1, 0, none⟩)] eg _ (hL.grown hG) hn hcap (fun h0 W hB => takeP_any l x p cap w.heap.size (w.heap.size + 1) W ((hL.grown hG).kept hB) h0 ((boxes_new w p l.length cap x).kept hB))
 generalize l.length = n at *
 clear eg hL
 go_enter Tryz.func141, Tryz.ntmps141
 go_wp2_with (go_at_call 192; refine hc.mono ?_; clear hc; rintro e w1 ⟨v, err, m, rfl, hR, hS, hB⟩; have HR : Aside (Rows w1 w.heap.size v m) := hR.mono (by simp; omega); have HS : Aside (SetSpec false l x err m) := hS; have HB : Aside (Below w.heap.size w w1) := hG.below.trans (hB.mono (by simp; omega)); clear hR hS hB)
 go_ret2
 exact ⟨v, err, m, rfl, HR.out, HS.out, HB.out⟩
end Go.Proofs.YthfeoiffoeagkaaGreatDoor.LK
