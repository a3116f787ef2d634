/-
  The document's own Clash and SameLocks.
-/
import Derived.Test.YtampldoimpfjgabK9
import Derived.Laws.StructEq
namespace Go.Proofs.Ytampldoimpfjgab
open Go.RowKit Go.Sort KM
set_option linter.unusedVariables false

theorem refClash_any (x y : Lk) (w : World) : Calls Try.prog 10 #[.agg #[.int .i64 x.o, .int .i64 x.f, .int .i64 x.t, .bool x.a], .agg #[.int .i64 y.o, .int .i64 y.f, .int .i64 y.t, .bool y.a]] w fun r w' => r = .returned (.bool (clash x y)) ∧ Grown w w' := by
  obtain ⟨xo, xf, xt, xa⟩ := x
  obtain ⟨yo, yf, yt, ya⟩ := y
  simp only
  by_cases h1 : xo = yo
  · go_enter Try.func10, Try.ntmps10
    go_wp2
    go_ret
    exact ⟨ret_bool (by simp [KM.clash, *]), ((Grown.refl w).alloc _).alloc _⟩
  · have h1' : (xo == yo) = false := beq_eq_false_iff_ne.2 h1
    cases xa <;> cases ya <;> by_cases h3 : xf < yt <;>
    (go_enter Try.func10, Try.ntmps10
     go_wp2
     go_ret
     exact ⟨ret_bool (by simp [KM.clash, *] <;> omega), ((Grown.refl w).alloc _).alloc _⟩)
theorem neqK (e : Lk) (w : World) : Sem.run Try.prog (binOp .neq 24 (.agg #[.int .i64 e.o, .int .i64 e.f, .int .i64 e.t, .bool e.a]) (.agg #[.int .i64 e.o, .int .i64 e.f, .int .i64 e.t, .bool e.a])) w = .ok (.bool false) w := by
  have u3 := Try.underlying3
  have a3 := Try.isAgg3
  have z3 := Try.sizeOf3
  have u4 := Try.underlying4
  have a4 := Try.isAgg4
  have z4 := Try.sizeOf4
  have hS : Try.prog.underlying 24 = some (.struct (Try.prog.fieldsOf 24)) := by kernel_rfl
  have hp : Try.prog.stoodInHeld 24 = false := by kernel_rfl
  rw [run_neq_struct, show (10000 : Nat) = 9999 + 1 from rfl, run_equalIn_agg w 9999 24 _ _ hS hp]
  simp only [Program.fieldsOf, Try.underlying24]
  go_simp
theorem guardK (op : BinOp) (a b : Operand) (x y : Lk) (w : World) : (eqGuard op 24 a b (.agg #[.int .i64 x.o, .int .i64 x.f, .int .i64 x.t, .bool x.a]) (.agg #[.int .i64 y.o, .int .i64 y.f, .int .i64 y.t, .bool y.a])).run Try.prog w = .ok () w :=
  GuardAt.agg (P := Try.prog) (T := 24) (fun e : Lk => #[.int .i64 e.o, .int .i64 e.f, .int .i64 e.t, .bool e.a]) (by kernel_rfl) op a b x y w
set_option maxHeartbeats 2000000 in
theorem sameLocks_any (l : List Lk) (p p' : Option Addr) (c c' : Nat) (w : World) (hL : Lies w p l) (hL' : Lies w p' l) (hn : l.length < 4611686018427387904) :
    Calls Try.prog 13 #[.slice p l.length c, .slice p' l.length c'] w fun e w' => e = .returned (.bool true) ∧ Below w.heap.size w w' := by
  have H1 : Aside (Lies w p l) := hL
  have H2 : Aside (Lies w p' l) := hL'
  obtain ⟨n, hnl⟩ : ∃ n, n = l.length := ⟨_, rfl⟩
  have HN : Aside (n = l.length) := hnl
  rw [← hnl] at hn ⊢
  clear hnl hL hL'
  have hgu := guardK
  have hneq := neqK
  go_enter Try.func13, Try.ntmps13
  go_wp2
  go_loopg [13] n (fun gg s13 wr => ∃ k : Nat, k ≤ n ∧ n - k ≤ gg ∧ s13 = .int .i64 k ∧ Aside (Below w.heap.size w wr))
  case atStart => exact ⟨0, Nat.zero_le _, by omega, rfl, Below.refl _ _⟩
  case round =>
    obtain ⟨k, hk, hgg, rfl, BW⟩ := hrel
    by_cases hlt : k < n
    · have hltz : (k : Int) < (n : Int) := by omega
      obtain ⟨y, hy⟩ : ∃ y, l[k]? = some y := ⟨_, List.getElem?_eq_getElem (by have := HN.out; omega)⟩
      rcases H1.out with h0 | ⟨b, off, rfl, hb, hc⟩
      · rw [h0] at hy; simp at hy
      rcases H2.out with h0 | ⟨b', off', rfl, hb', hc'⟩
      · rw [h0] at hy; simp at hy
      obtain ⟨c0, c1, c2, c3⟩ := Lies.cells hc hb BW.out hy
      obtain ⟨d0, d1, d2, d3⟩ := Lies.cells hc' hb' BW.out hy
      clear hc hc' hy
      go_wp2
      go_quiet (fail)
      go_wp2
      go_roundg (n - (k + 1))
      case measure => omega
      case rel => exact ⟨k + 1, by omega, by omega, by go_num, below_drewN BW.out _⟩
    · have hltz : ¬ (k : Int) < (n : Int) := by omega
      go_wp2
      go_ret
      exact ⟨rfl, BW.out⟩
end Go.Proofs.Ytampldoimpfjgab
