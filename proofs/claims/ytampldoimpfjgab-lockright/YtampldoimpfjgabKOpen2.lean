/-
  Bools as they come in as an argument.
-/
import Derived.Test.YtampldoimpfjgabKOpen
import Derived.Test.YtampldoimpfjgabK12
namespace Go.Proofs.Ytampldoimpfjgab
open Go.ChangeShapes Go.WideShapes Go.ChangeAt Go.RowKit KM

set_option linter.unusedVariables false
set_option maxRecDepth 100000
variable {H : Type} {enc : TypeId × Value → H} {W : World}
theorem open_bools {v : Value} {d : DataW H} {ps : List MemPlace} (h : DataW.Trod enc Try.prog W 0 (fun _ => true) true 38 v d ps) (hv : v.cells = #[v]) :
    ∃ (p : Option Addr) (cap : Nat) (bs : List Bool), v = .slice p bs.length cap ∧ Bools W p bs ∧ ((d = .nil ∧ bs = []) ∨ ∃ elems spare, d = .slice elems spare ∧ elems.length = bs.length) := by
  obtain ⟨fuel, h⟩ := h
  rw [hv] at h
  have c1 : Try.prog.cellsOf 4 = 1 := by kernel_rfl
  rcases Deep.open_slice Try.underlying38 h with ⟨h0, hx⟩ | ⟨a, len, cap, m, n, D, Pl, h0, hb, hl, hm, hmm, hx, hel⟩
  · simp at h0
    subst h0
    have hd : d = .nil := congrArg Prod.fst hx
    exact ⟨none, 0, [], rfl, .inl rfl, .inl ⟨hd, rfl⟩⟩
  · simp at h0
    subst h0
    have hm' : m = cap := by rw [hmm]; rfl
    subst hm'
    rw [c1] at hel
    have hel' : ∀ i, i < len → ∃ e : Bool, W.cells? 0 (a.add (i * 1)) 1 = some [.bool e] := fun i hi => by
      obtain ⟨cs', h1, h2⟩ := hel i (by omega)
      obtain ⟨e, rfl, _⟩ := DataW.trod_bool Try.underlying4 h2
      exact ⟨e, h1⟩
    obtain ⟨E, hE⟩ := Deep.choose_lt hel'
    have hlen : ((List.range len).map E).length = len := by simp
    have hcell : ∀ i, i < len → W.cell? ((a.add (i * 1)).add 0) = some (.bool (E i)) := fun i hi => by
      obtain ⟨_, hl4, hc⟩ := World.cells?_some (hE i hi)
      rw [hc 0 (by decide)]; rfl
    refine ⟨some a, m, (List.range len).map E, by rw [hlen], ?_, .inr ⟨_, _, congrArg Prod.fst hx, by simp⟩⟩
    by_cases h0 : len = 0
    · subst h0; exact .inl rfl
    · have hc0 := hcell 0 (by omega)
      have hsp : a = ⟨a.block, a.off, none⟩ := by
        have := lit_of_cell hc0
        obtain ⟨b, o, s⟩ := a
        simp [Addr.add] at this ⊢
        exact this
      refine .inr ⟨a.block, a.off, by rw [← hsp], ?_, fun j e he => ?_⟩
      · have := block_lt_of_cell hc0
        rw [hsp] at this
        simpa [Addr.add] using this
      · rw [List.getElem?_map] at he
        obtain ⟨j', hj', rfl⟩ := Option.map_eq_some_iff.1 he
        obtain ⟨hjl, hjj⟩ := List.getElem?_eq_some_iff.1 hj'
        simp at hjl hjj
        subst hjj
        have := hcell j hjl
        rw [hsp, Addr.add_lit, Addr.add_lit, Nat.mul_one, Nat.add_zero] at this
        exact this
end Go.Proofs.Ytampldoimpfjgab
