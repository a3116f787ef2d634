/-
  traceref1.Same of a list and itself.
-/
import Derived.Test.YtampldoimpfjgaaDoorTMove3
import Derived.Laws.StructEq
import Derived.Shelf.SlicesE.Equal
namespace Go.Proofs.YtampldoimpfjgaaDoor
open Go.RowKit PM Go.Sort
set_option linter.unusedVariables false

theorem neqE (e : Ent) (w : World) : Sem.run Tryd.prog (binOp .neq 38 (.agg #[.string e.path, .int .i64 e.kind, .string e.text, .bool e.opq]) (.agg #[.string e.path, .int .i64 e.kind, .string e.text, .bool e.opq])) w = .ok (.bool false) w := by
  have u3 := Tryd.underlying3
  have a3 := Tryd.isAgg3
  have z3 := Tryd.sizeOf3
  have u9 := Tryd.underlying9
  have a9 := Tryd.isAgg9
  have z9 := Tryd.sizeOf9
  have u4 := Tryd.underlying4
  have a4 := Tryd.isAgg4
  have z4 := Tryd.sizeOf4
  have hS : Tryd.prog.underlying 38 = some (.struct (Tryd.prog.fieldsOf 38)) := by kernel_rfl
  have hp : Tryd.prog.stoodInHeld 38 = false := by kernel_rfl
  rw [run_neq_struct, show (10000 : Nat) = 9999 + 1 from rfl, run_equalIn_agg w 9999 38 _ _ hS hp]
  simp only [Program.fieldsOf, Tryd.underlying38]
  go_simp
theorem guardE (op : BinOp) (a b : Operand) (x y : Ent) (w : World) : (eqGuard op 38 a b (.agg #[.string x.path, .int .i64 x.kind, .string x.text, .bool x.opq]) (.agg #[.string y.path, .int .i64 y.kind, .string y.text, .bool y.opq])).run Tryd.prog w = .ok () w :=
  GuardAt.agg (P := Tryd.prog) (T := 38) (fun e : Ent => #[.string e.path, .int .i64 e.kind, .string e.text, .bool e.opq]) (by kernel_rfl) op a b x y w

set_option maxHeartbeats 2000000 in
theorem same_any (l : List Ent) (p p' : Option Addr) (c c' : Nat) (w : World) (hL : Lies w p l) (hL' : Lies w p' l) (hn : l.length < 4611686018427387904) :
    Calls Tryd.prog 37 #[.slice p l.length c, .slice p' l.length c'] w fun e w' => e = .returned (.bool true) ∧ Below w.heap.size w w' := by
  have H1 : Aside (Lies w p l) := hL
  have H2 : Aside (Lies w p' l) := hL'
  obtain ⟨n, hnl⟩ : ∃ n, n = l.length := ⟨_, rfl⟩
  have HN : Aside (n = l.length) := hnl
  rw [← hnl] at hn ⊢
  clear hnl hL hL'
  have hgu := guardE
  have hneq := neqE
  go_enter Tryd.func37, Tryd.ntmps37
  go_wp2
  go_loopg [13] n (fun gg s13 wr => ∃ k : Nat, k ≤ n ∧ n - k ≤ gg ∧ s13 = .int .i64 k ∧ Aside (Below w.heap.size w wr))
  case atStart => exact ⟨0, Nat.zero_le _, by omega, rfl, Below.refl _ _⟩
  case round =>
    obtain ⟨k, hk, hgg, rfl, BW⟩ := hrel
    by_cases hlt : k < n
    · have hltz : (k : Int) < (n : Int) := by omega
      obtain ⟨y, hy⟩ : ∃ y, l[k]? = some y := ⟨_, List.getElem?_eq_getElem (by have := HN.out; omega)⟩
      rcases H1.out with h0 | ⟨b, off, rfl, hb, hc⟩
      · rw [h0] at hy; simp at hy
      rcases H2.out with h0 | ⟨b', off', rfl, hb', hc'⟩
      · rw [h0] at hy; simp at hy
      obtain ⟨c0, c1, c2, c3⟩ := Lies.cells hc hb BW.out hy
      obtain ⟨d0, d1, d2, d3⟩ := Lies.cells hc' hb' BW.out hy
      clear hc hc' hy
      go_wp2
      go_quiet (fail)
      go_wp2
      go_roundg (n - (k + 1))
      case measure => omega
      case rel => exact ⟨k + 1, by omega, by omega, by go_num, below_drewN BW.out _⟩
    · have hltz : ¬ (k : Int) < (n : Int) := by omega
      go_wp2
      go_ret
      exact ⟨rfl, BW.out⟩
end Go.Proofs.YtampldoimpfjgaaDoor
