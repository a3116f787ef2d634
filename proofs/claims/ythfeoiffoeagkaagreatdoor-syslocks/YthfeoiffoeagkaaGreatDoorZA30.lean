/-
  What a file may be opened for: sys.fits.
-/
import Derived.Test.YthfeoiffoeagkaaGreatDoorZA22
namespace Go.Proofs.YthfeoiffoeagkaaGreatDoor
open Go.RowKit PM Go.Sort
set_option linter.unusedVariables false
theorem Eo (use x:Int) (B:Nat) (W:World) (hc:W.cell? ⟨B,0,none⟩=some (.int .i64 use)) :
  Calls Tryz.prog 168 #[.int .i64 x,.pointer (some ⟨B,0,none⟩)] W fun r w'=>r=.returned (.bool (has use x))∧w'=W:=by
 go_enter Tryz.func168,Tryz.ntmps168
 go_wp2
 go_ret
 exact ⟨rfl,rfl⟩
def PM.KE (use:Int):Bool:=if use<1∨63<use then false else if has use 3 then (if has use 36 && !has use 2 then false else !has use 16 || has use 8) else false
set_option maxHeartbeats 2000000 in
theorem Gd (use:Int) (W:World):Calls Tryz.prog 119 #[.int .i64 use] W fun r w'=>r=.returned (.bool (KE use))∧Below W.heap.size W w':=by
 have HB:Aside (Below W.heap.size W (W.alloc (.cells #[.int .i64 use] 3))):=((Grown.refl W).alloc _).below
 have eg:∀ args w,(callFunc 168 args).run Tryz.prog w=.ok (.enter 168 args) w:=enters_of Tryz.func168 (by kernel_rfl) rfl
 have hc:=fun x=>Eo use x W.heap.size (W.alloc (.cells #[.int .i64 use] 3)) (by simp)
 unfold KE
 by_cases h1:use<1
 ·rw [if_pos (.inl h1)]
  clear hc
  go_enter Tryz.func119,Tryz.ntmps119
  go_wp2
  go_ret
  exact ⟨rfl,HB.out⟩
 by_cases h2:63<use
 ·rw [if_pos (.inr h2)]
  clear hc
  go_enter Tryz.func119,Tryz.ntmps119
  go_wp2
  go_ret
  exact ⟨rfl,HB.out⟩
 rw [if_neg (by omega)]
 cases h3:has use 3 with
 | false =>
  go_enter Tryz.func119,Tryz.ntmps119
  go_wp2_with ((go_at_fn 168;refine (hc _).mono ?_;rintro e w1 ⟨rfl,hw1⟩;subst w1;(try rw [h3]);(try rw [h36]);(try rw [h2]);(try rw [h16]);(try rw [h8])))
  go_ret
  exact ⟨rfl,HB.out⟩
 | true =>
  cases h36:has use 36 with
  | false =>
   cases h16:has use 16 with
   | false =>
    go_enter Tryz.func119,Tryz.ntmps119
    go_wp2_with ((go_at_fn 168;refine (hc _).mono ?_;rintro e w1 ⟨rfl,hw1⟩;subst w1;(try rw [h3]);(try rw [h36]);(try rw [h2]);(try rw [h16]);(try rw [h8])))
    go_ret
    exact ⟨rfl,HB.out⟩
   | true =>
    cases h8:has use 8 with
    | false =>
     go_enter Tryz.func119,Tryz.ntmps119
     go_wp2_with ((go_at_fn 168;refine (hc _).mono ?_;rintro e w1 ⟨rfl,hw1⟩;subst w1;(try rw [h3]);(try rw [h36]);(try rw [h2]);(try rw [h16]);(try rw [h8])))
     go_ret
     exact ⟨rfl,HB.out⟩
    | true =>
     go_enter Tryz.func119,Tryz.ntmps119
     go_wp2_with ((go_at_fn 168;refine (hc _).mono ?_;rintro e w1 ⟨rfl,hw1⟩;subst w1;(try rw [h3]);(try rw [h36]);(try rw [h2]);(try rw [h16]);(try rw [h8])))
     go_ret
     exact ⟨rfl,HB.out⟩
  | true =>
   cases h2:has use 2 with
   | false =>
    go_enter Tryz.func119,Tryz.ntmps119
    go_wp2_with ((go_at_fn 168;refine (hc _).mono ?_;rintro e w1 ⟨rfl,hw1⟩;subst w1;(try rw [h3]);(try rw [h36]);(try rw [h2]);(try rw [h16]);(try rw [h8])))
    go_ret
    exact ⟨rfl,HB.out⟩
   | true =>
    cases h16:has use 16 with
    | false =>
     go_enter Tryz.func119,Tryz.ntmps119
     go_wp2_with ((go_at_fn 168;refine (hc _).mono ?_;rintro e w1 ⟨rfl,hw1⟩;subst w1;(try rw [h3]);(try rw [h36]);(try rw [h2]);(try rw [h16]);(try rw [h8])))
     go_ret
     exact ⟨rfl,HB.out⟩
    | true =>
     cases h8:has use 8 with
     | false =>
      go_enter Tryz.func119,Tryz.ntmps119
      go_wp2_with ((go_at_fn 168;refine (hc _).mono ?_;rintro e w1 ⟨rfl,hw1⟩;subst w1;(try rw [h3]);(try rw [h36]);(try rw [h2]);(try rw [h16]);(try rw [h8])))
      go_ret
      exact ⟨rfl,HB.out⟩
     | true =>
      go_enter Tryz.func119,Tryz.ntmps119
      go_wp2_with ((go_at_fn 168;refine (hc _).mono ?_;rintro e w1 ⟨rfl,hw1⟩;subst w1;(try rw [h3]);(try rw [h36]);(try rw [h2]);(try rw [h16]);(try rw [h8])))
      go_ret
      exact ⟨rfl,HB.out⟩
end Go.Proofs.YthfeoiffoeagkaaGreatDoor
