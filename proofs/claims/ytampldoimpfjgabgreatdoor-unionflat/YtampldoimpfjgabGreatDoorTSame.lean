/-
  traceref1.Same of a list and itself.
-/
import Derived.Test.YtampldoimpfjgabGreatDoorTMove3
import Derived.Laws.StructEq
import Derived.Shelf.SlicesE.Equal
namespace Go.Proofs.YtampldoimpfjgabGreatDoor
open Go.RowKit PM Go.Sort
set_option linter.unusedVariables false

theorem neqE (e : Ent) (w : World) : Sem.run Tryz.prog (binOp .neq 28 (.agg #[.string e.path, .int .i64 e.kind, .string e.text, .bool e.opq]) (.agg #[.string e.path, .int .i64 e.kind, .string e.text, .bool e.opq])) w = .ok (.bool false) w := by
  have u3 := Tryz.underlying3
  have a3 := Tryz.isAgg3
  have z3 := Tryz.sizeOf3
  have u9 := Tryz.underlying9
  have a9 := Tryz.isAgg9
  have z9 := Tryz.sizeOf9
  have u4 := Tryz.underlying4
  have a4 := Tryz.isAgg4
  have z4 := Tryz.sizeOf4
  have hS : Tryz.prog.underlying 28 = some (.struct (Tryz.prog.fieldsOf 28)) := by kernel_rfl
  have hp : Tryz.prog.stoodInHeld 28 = false := by kernel_rfl
  rw [run_neq_struct, show (10000 : Nat) = 9999 + 1 from rfl, run_equalIn_agg w 9999 28 _ _ hS hp]
  simp only [Program.fieldsOf, Tryz.underlying28]
  go_simp
theorem guardE (op : BinOp) (a b : Operand) (x y : Ent) (w : World) : (eqGuard op 28 a b (.agg #[.string x.path, .int .i64 x.kind, .string x.text, .bool x.opq]) (.agg #[.string y.path, .int .i64 y.kind, .string y.text, .bool y.opq])).run Tryz.prog w = .ok () w :=
  GuardAt.agg (P := Tryz.prog) (T := 28) (fun e : Ent => #[.string e.path, .int .i64 e.kind, .string e.text, .bool e.opq]) (by kernel_rfl) op a b x y w

set_option maxHeartbeats 2000000 in
theorem same_any (l : List Ent) (p p' : Option Addr) (c c' : Nat) (w : World) (hL : Lies w p l) (hL' : Lies w p' l) (hn : l.length < 4611686018427387904) :
    Calls Tryz.prog 24 #[.slice p l.length c, .slice p' l.length c'] w fun e w' => e = .returned (.bool true) ∧ Below w.heap.size w w' := by
  have H1 : Aside (Lies w p l) := hL
  have H2 : Aside (Lies w p' l) := hL'
  obtain ⟨n, hnl⟩ : ∃ n, n = l.length := ⟨_, rfl⟩
  have HN : Aside (n = l.length) := hnl
  rw [← hnl] at hn ⊢
  clear hnl hL hL'
  have hgu := guardE
  have hneq := neqE
  go_enter Tryz.func24, Tryz.ntmps24
  go_wp2
  go_loopg [13] n (fun gg s13 wr => ∃ k : Nat, k ≤ n ∧ n - k ≤ gg ∧ s13 = .int .i64 k ∧ Aside (Below w.heap.size w wr))
  case atStart => exact ⟨0, Nat.zero_le _, by omega, rfl, Below.refl _ _⟩
  case round =>
    obtain ⟨k, hk, hgg, rfl, BW⟩ := hrel
    by_cases hlt : k < n
    · have hltz : (k : Int) < (n : Int) := by omega
      obtain ⟨y, hy⟩ : ∃ y, l[k]? = some y := ⟨_, List.getElem?_eq_getElem (by have := HN.out; omega)⟩
      rcases H1.out with h0 | ⟨b, off, rfl, hb, hc⟩
      · rw [h0] at hy; simp at hy
      rcases H2.out with h0 | ⟨b', off', rfl, hb', hc'⟩
      · rw [h0] at hy; simp at hy
      obtain ⟨c0, c1, c2, c3⟩ := Lies.cells hc hb BW.out hy
      obtain ⟨d0, d1, d2, d3⟩ := Lies.cells hc' hb' BW.out hy
      clear hc hc' hy
      go_wp2
      go_quiet (fail)
      go_wp2
      go_roundg (n - (k + 1))
      case measure => omega
      case rel => exact ⟨k + 1, by omega, by omega, by go_num, below_drewN BW.out _⟩
    · have hltz : ¬ (k : Int) < (n : Int) := by omega
      go_wp2
      go_ret
      exact ⟨rfl, BW.out⟩
end Go.Proofs.YtampldoimpfjgabGreatDoor
