/-
  cmp.Or over numbers; what tree.wrongEntry, tree.wrongPlace and tree.firstFault answer.
-/
import Derived.Test.YtampldoimpfjgabGreatDoorTWalks3
import Derived.Deep.RegionHeld3
namespace Go.Proofs.YtampldoimpfjgabGreatDoor
open Go.RowKit PM Go.Sort
set_option linter.unusedVariables false

def orL : List Int → Int
  | [] => 0
  | x :: r => if x = 0 then orL r else x
theorem or_any (xs : List Int) (B cap : Nat) (w : World) (hn : xs.length ≤ 100) (hc : ∀ j x, xs[j]? = some x → w.cell? ⟨B, j, none⟩ = some (.int .i64 x)) :
    Calls Tryz.prog 38 #[.slice (some ⟨B, 0, none⟩) xs.length cap] w fun e w' => e = .returned (.int .i64 (orL xs)) ∧ w' = w := by
  have HC : Aside (∀ j x, xs[j]? = some x → w.cell? ⟨B, j, none⟩ = some (.int .i64 x)) := hc
  obtain ⟨n, hnl⟩ : ∃ n, n = xs.length := ⟨_, rfl⟩
  have HN : Aside (n = xs.length) := hnl
  rw [← hnl] at hn ⊢
  clear hnl hc
  go_enter Tryz.func38, Tryz.ntmps38
  go_wp2
  go_loop [8] (fun i => ∃ k : Nat, k ≤ n ∧ i = .int .i64 k ∧ Aside (orL (xs.drop k) = orL xs)) (fun i => n - (intOf i).toNat)
  case atStart => exact ⟨0, Nat.zero_le _, rfl, by show _ = _; rfl⟩
  case round =>
    obtain ⟨k, hk, rfl, HA⟩ := hrel
    by_cases hlt : k < n
    · have hltz : (k : Int) < (n : Int) := by omega
      obtain ⟨y, hy⟩ : ∃ y, xs[k]? = some y := ⟨_, List.getElem?_eq_getElem (by have := HN.out; omega)⟩
      have hcell := HC.out k y hy
      have HD : Aside (orL (xs.drop k) = if y = 0 then orL (xs.drop (k + 1)) else y) := by
        obtain ⟨h1, h2⟩ := List.getElem?_eq_some_iff.1 hy
        show _ = _
        rw [List.drop_eq_getElem_cons h1, orL, h2]
      clear hy
      by_cases h0 : y = 0
      · have HE : Aside (orL (xs.drop (k + 1)) = orL xs) := by show _ = _; rw [← HA.out, HD.out, if_pos h0]
        clear HD HA
        go_wp2
        exact ⟨⟨k + 1, by omega, by go_num, HE⟩, by simp [intOf]; omega⟩
      · have HE : Aside (orL xs = y) := by show _ = _; rw [← HA.out, HD.out, if_neg h0]
        clear HD HA
        go_wp2
        go_ret
        exact ⟨ret_int HE.out.symm, rfl⟩
    · have hltz : ¬ (k : Int) < (n : Int) := by omega
      have HE : Aside (orL xs = 0) := by show _ = _; rw [← HA.out, List.drop_of_length_le (by have := HN.out; omega)]; rfl
      clear HA
      go_wp2
      go_ret
      exact ⟨ret_int HE.out.symm, rfl⟩

theorem up1 {w W W2 : World} {o : Obj} (h : Below (w.heap.size + 1) (w.alloc o) W) (g : Below W.heap.size W W2) : Below (w.heap.size + 1) (w.alloc o) W2 := h.trans (g.mono (by have := h.size; simpa using this))
theorem base1 {w W : World} {o : Obj} (h : Below (w.heap.size + 1) (w.alloc o) W) : Below w.heap.size w W := ((Below.refl _ _).alloc (Nat.le_refl _) _).trans (h.mono (by omega))

/-- The ways through an entry. -/
def Ways (e : Ent) (layer : Bool) : Prop :=
  (wrongE e layer = 1 ∧ (((e.kind == 1) = false ∧ (e.kind == 2) = false ∧ (e.kind == 3) = false ∧ (e.kind == 4) = false ∧ (layer = true ∨ layer = false)) ∨ e.kind = 4 ∧ layer = false)) ∨
  ((e.kind = 1 ∨ e.kind = 2 ∨ e.kind = 3 ∨ e.kind = 4 ∧ layer = true) ∧
    ((wrongE e layer = 7 ∧ clean e.p = false) ∨
     (wrongE e layer = 4 ∧ clean e.p = true ∧ (100 : Int) < (e.text.size : Int)) ∨
     (clean e.p = true ∧ ¬ (100 : Int) < (e.text.size : Int) ∧
       ((wrongE e layer = 8 ∧ e.text.toList.isEmpty = false ∧ (e.kind = 2 ∨ e.kind = 4)) ∨
        (wrongE e layer = 8 ∧ e.text.toList.isEmpty = true ∧ e.kind = 3) ∨
        ((e.text.toList.isEmpty = false ∧ (e.kind = 1 ∨ e.kind = 3) ∨ e.text.toList.isEmpty = true ∧ (e.kind = 1 ∨ e.kind = 2 ∨ e.kind = 4)) ∧
          (wrongE e layer = 0 ∧ e.opq = false ∨ wrongE e layer = 8 ∧ e.opq = true ∧ layer = false ∨ wrongE e layer = 8 ∧ e.opq = true ∧ layer = true ∧ (e.kind = 1 ∨ e.kind = 3 ∨ e.kind = 4) ∨ wrongE e layer = 0 ∧ e.opq = true ∧ layer = true ∧ e.kind = 2))))))
theorem isEmpty_size (b : ByteArray) : b.toList.isEmpty = decide (b.size = 0) := by
  rw [Lib.toList_data, Bool.eq_iff_iff]
  rw [← szl b]
  cases b.data.toList <;> simp
theorem ways (e : Ent) (layer : Bool) : Ways e layer := by
  unfold Ways wrongE
  rw [isEmpty_size]
  by_cases h1 : e.kind = 1
  · cases layer <;> cases clean e.p <;> cases e.opq <;> by_cases h2 : 100 < e.text.size <;> by_cases h3 : e.text.size = 0 <;> simp [h1, h2, h3] <;> omega
  by_cases h1' : e.kind = 2
  · cases layer <;> cases clean e.p <;> cases e.opq <;> by_cases h2 : 100 < e.text.size <;> by_cases h3 : e.text.size = 0 <;> simp [h1', h2, h3] <;> omega
  by_cases h1'' : e.kind = 3
  · cases layer <;> cases clean e.p <;> cases e.opq <;> by_cases h2 : 100 < e.text.size <;> by_cases h3 : e.text.size = 0 <;> simp [h1'', h2, h3] <;> omega
  by_cases h1''' : e.kind = 4
  · cases layer <;> cases clean e.p <;> cases e.opq <;> by_cases h2 : 100 < e.text.size <;> by_cases h3 : e.text.size = 0 <;> simp [h1''', h2, h3] <;> omega
  · cases layer <;> simp [h1, h1', h1'', h1''']
end Go.Proofs.YtampldoimpfjgabGreatDoor
