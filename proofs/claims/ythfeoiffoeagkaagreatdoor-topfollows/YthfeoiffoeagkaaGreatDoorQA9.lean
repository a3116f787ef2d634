/-
  layer.Hides: whether a layer hides a path.
-/
import Derived.Test.YthfeoiffoeagkaaGreatDoorQA7
import Derived.Test.YthfeoiffoeagkaaGreatDoorQA8
namespace Go.Proofs.YthfeoiffoeagkaaGreatDoor
open Go.RowKit PM Go.Sort
set_option linter.unusedVariables false
set_option maxHeartbeats 4000000 in
theorem hidesP_any (e : Ent) (q : ByteArray) (B : Nat) (w : World) (he : e.path.size ≤ maxLen) (hq : q.size ≤ maxLen) (hB : B < w.heap.size) (hc : w.cell? ⟨B, 0, none⟩ = some (.string q)) :
  Calls Tryz.prog 237 #[.agg #[.string e.path, .int .i64 e.kind, .string e.text, .bool e.opq], .pointer (some ⟨B, 0, none⟩)] w fun r w' => r = .returned (.bool (hidesE q.data.toList e)) ∧ Grown w w' := by
 have hne : B ≠ w.heap.size := by omega
 have hun := fun W => under_any q e.path W hq he
 have HH : Aside (hidesE q.data.toList e = (decide (e.path.data.toList = q.data.toList) && !(e.kind == 2) || under q.data.toList e.path.data.toList && (!(e.kind == 2) || e.opq))) := rfl
 generalize under q.data.toList e.path.data.toList = u at hun HH
 obtain ⟨ep, ek, et, eo⟩ := e
 by_cases hk : ek = 2
 ·subst hk
  by_cases hpq : ep.data.toList = q.data.toList
  ·obtain ⟨e1, e2⟩ := eq_parts hpq
   cases u with
   | false =>
    have HR : Aside (hidesE q.data.toList ⟨ep, 2, et, eo⟩ = false) := by show _ = _; rw [HH.out]; simp
    go_enter Tryz.func237, Tryz.ntmps237
    go_wp2_with (go_at_call 186; refine (hun _).mono ?_; rintro r w' ⟨rfl, rfl⟩)
    go_ret
    exact ⟨ret_bool HR.out.symm, (Grown.refl w).alloc _⟩
   | true =>
    have HR : Aside (hidesE q.data.toList ⟨ep, 2, et, eo⟩ = eo) := by show _ = _; rw [HH.out]; simp
    go_enter Tryz.func237, Tryz.ntmps237
    go_wp2_with (go_at_call 186; refine (hun _).mono ?_; rintro r w' ⟨rfl, rfl⟩)
    go_ret
    exact ⟨ret_bool HR.out.symm, (Grown.refl w).alloc _⟩
  ·obtain ⟨e1, e2⟩ := ne_parts hpq
   cases u with
   | false =>
    have HR : Aside (hidesE q.data.toList ⟨ep, 2, et, eo⟩ = false) := by show _ = _; rw [HH.out]; simp
    go_enter Tryz.func237, Tryz.ntmps237
    go_wp2_with (go_at_call 186; refine (hun _).mono ?_; rintro r w' ⟨rfl, rfl⟩)
    go_ret
    exact ⟨ret_bool HR.out.symm, (Grown.refl w).alloc _⟩
   | true =>
    have HR : Aside (hidesE q.data.toList ⟨ep, 2, et, eo⟩ = eo) := by show _ = _; rw [HH.out]; simp
    go_enter Tryz.func237, Tryz.ntmps237
    go_wp2_with (go_at_call 186; refine (hun _).mono ?_; rintro r w' ⟨rfl, rfl⟩)
    go_ret
    exact ⟨ret_bool HR.out.symm, (Grown.refl w).alloc _⟩
 ·by_cases hpq : ep.data.toList = q.data.toList
  ·obtain ⟨e1, e2⟩ := eq_parts hpq
   have HR : Aside (hidesE q.data.toList ⟨ep, ek, et, eo⟩ = true) := by show _ = _; rw [HH.out]; simp [hk, hpq]
   clear hun
   go_enter Tryz.func237, Tryz.ntmps237
   go_wp2
   go_ret
   exact ⟨ret_bool HR.out.symm, (Grown.refl w).alloc _⟩
  ·obtain ⟨e1, e2⟩ := ne_parts hpq
   cases u with
   | false =>
    have HR : Aside (hidesE q.data.toList ⟨ep, ek, et, eo⟩ = false) := by show _ = _; rw [HH.out]; simp [hpq]
    go_enter Tryz.func237, Tryz.ntmps237
    go_wp2_with (go_at_call 186; refine (hun _).mono ?_; rintro r w' ⟨rfl, rfl⟩)
    go_ret
    exact ⟨ret_bool HR.out.symm, (Grown.refl w).alloc _⟩
   | true =>
    have HR : Aside (hidesE q.data.toList ⟨ep, ek, et, eo⟩ = true) := by show _ = _; rw [HH.out]; simp [hk]
    go_enter Tryz.func237, Tryz.ntmps237
    go_wp2_with (go_at_call 186; refine (hun _).mono ?_; rintro r w' ⟨rfl, rfl⟩)
    go_ret
    exact ⟨ret_bool HR.out.symm, (Grown.refl w).alloc _⟩
theorem hides_any (t : List Ent) (q : ByteArray) (p : Option Addr) (cap : Nat) (w : World) (hL : Lies w p t) (hF : Fits t) (hn : t.length < 4611686018427387904) (hq : q.size ≤ maxLen) :
  Calls Tryz.prog 203 #[.slice p t.length cap, .string q] w fun r w' => r = .returned (.bool (hidesL t q.data.toList)) ∧ Grown w w' := by
 have eg : ∀ args w, (callFunc 237 args).run Tryz.prog w = .ok (.enter 237 args) w := enters_of Tryz.func237 (by kernel_rfl) rfl
 have hs := contains_any (hidesE q.data.toList) 237 #[.pointer (some ⟨w.heap.size, 0, none⟩)] eg t p cap (w.alloc (.cells #[.string q] 9)) (hL.grown ((Grown.refl w).alloc _)) hn
  (fun W x hG hx => hidesP_any x q w.heap.size W (hF x hx).1 hq (by have := hG.size; simp at this; omega) ((hG.cell (p := ⟨w.heap.size, 0, none⟩) (by simp)).trans (by simp)))
 clear eg
 have HA : Aside (hidesL t q.data.toList = t.any (hidesE q.data.toList)) := rfl
 generalize t.any (hidesE q.data.toList) = bb at hs HA
 go_enter Tryz.func203, Tryz.ntmps203
 go_wp2_with (go_at_call 236; refine hs.mono ?_; clear hs; rintro e w' ⟨rfl, hG⟩)
 go_ret
 exact ⟨ret_bool HA.out.symm, (Grown.refl w).alloc _ |>.trans hG⟩
end Go.Proofs.YthfeoiffoeagkaaGreatDoor
