/-
  A tree, and an entry, as they come in as arguments.
-/
import Derived.Test.YtampldoimpfjgabGreatDoorTOwn
import Derived.WalkKit
import Derived.ProofKit
import Derived.OpenShut
import Derived.ShutString
import Derived.ChangeOld
import Derived.Deep.DeepHandedRow
import Derived.Deep.Slices
import Derived.Lib.SmallJoins
import Derived.Carry
import Derived.SizedLaws
namespace Go.Proofs.YtampldoimpfjgabGreatDoor
open Go.ChangeShapes Go.WideShapes Go.ChangeAt Go.RowKit PM

set_option linter.unusedVariables false
set_option maxRecDepth 100000
variable {H : Type} {enc : TypeId × Value → H} {W : World}
theorem open_entry {base : Nat} {spare : Nat → Bool} {held : Bool} {fuel : Nat} {cs : List Value} {x : DataW H × List MemPlace} (h : DataW.trod enc Tryz.prog W base spare held fuel 28 cs = some x) :
    ∃ e : Ent, cs = encE e ∧ e.path.size ≤ maxLen ∧ e.text.size ≤ maxLen ∧ x.1 = .agg [.lit (.string e.path.data.toList), .lit (.int .i64 e.kind), .lit (.string e.text.data.toList), .lit (.bool e.opq)] := by
  obtain ⟨y0, y1, y2, y3, n, rfl, hl, h0, h1, h2, h3⟩ := Go.Joins.trod_struct4 Tryz.underlying28 h
  have c9 : Tryz.prog.cellsOf 9 = 1 := by kernel_rfl
  have c3 : Tryz.prog.cellsOf 3 = 1 := by kernel_rfl
  have c4 : Tryz.prog.cellsOf 4 = 1 := by kernel_rfl
  have c38 : Tryz.prog.cellsOf 28 = 4 := by kernel_rfl
  simp only [c9, c3, c4] at h0 h1 h2 h3
  obtain ⟨s, e0, rfl, hs⟩ := DataW.trod_string Tryz.underlying9 h0
  obtain ⟨k, e1, rfl, _⟩ := DataW.trod_int Tryz.underlying3 h1
  obtain ⟨u, e2, rfl, hu⟩ := DataW.trod_string Tryz.underlying9 h2
  obtain ⟨b, e3, rfl⟩ := DataW.trod_bool Tryz.underlying4 h3
  rw [c38] at hl
  match cs, hl with
  | [v0, v1, v2, v3], _ =>
    simp at e0 e1 e2 e3
    subst e0 e1 e2 e3
    exact ⟨⟨s, k, u, b⟩, rfl, hs, hu, rfl⟩
/-- An entry that is an argument. -/
theorem open_entry_arg {v : Value} {d : DataW H} {ps : List MemPlace} {base : Nat} (hok : Value.okWide Tryz.prog W .any base 28 v) (h : DataW.Trod enc Tryz.prog W 0 (fun _ => true) true 28 v d ps) :
    ∃ e : Ent, v = .agg #[.string e.path, .int .i64 e.kind, .string e.text, .bool e.opq] ∧ e.path.size ≤ maxLen ∧ e.text.size ≤ maxLen ∧ d = .agg [.lit (.string e.path.data.toList), .lit (.int .i64 e.kind), .lit (.string e.text.data.toList), .lit (.bool e.opq)] := by
  obtain ⟨fuel, h⟩ := h
  obtain ⟨e, hc, h1, h2, h3⟩ := open_entry h
  obtain ⟨cs, rfl, _⟩ := okWide_struct Tryz.underlying28 hok
  refine ⟨e, ?_, h1, h2, h3⟩
  have : cs = (encE e).toArray := by
    have hcc : cs.toList = encE e := hc
    rw [← hcc]
  rw [this]; rfl
theorem lit_of_cell {a : Addr} {v : Value} (h : W.cell? a = some v) : a = ⟨a.block, a.off, none⟩ := by
  obtain ⟨b, o, s⟩ := a
  cases s with
  | none => rfl
  | some x =>
    simp only [World.cell?] at h
    split at h
    · simp at h
    · cases h
/-- A tree that is an argument. -/
theorem open_tree {v : Value} {d : DataW H} {ps : List MemPlace} (h : DataW.Trod enc Tryz.prog W 0 (fun _ => true) true 23 v d ps) (hv : v.cells = #[v]) :
    ∃ (p : Option Addr) (cap : Nat) (t : List Ent), v = .slice p t.length cap ∧ Lies W p t ∧ Fits t ∧ t.length ≤ cap ∧ (p = none → cap = 0) ∧ ((d = .nil ∧ t = []) ∨ ∃ elems spare, d = .slice elems spare ∧ elems.length = t.length) := by
  obtain ⟨fuel, h⟩ := h
  rw [hv] at h
  have c38 : Tryz.prog.cellsOf 28 = 4 := by kernel_rfl
  rcases Deep.open_slice Tryz.underlying23 h with ⟨h0, hx⟩ | ⟨a, len, cap, m, n, D, Pl, h0, hb, hl, hm, hmm, hx, hel⟩
  · simp at h0
    subst h0
    have hd : d = .nil := congrArg Prod.fst hx
    exact ⟨none, 0, [], rfl, Lies.nil _ _, by intro e he; simp at he, Nat.le_refl _, fun _ => rfl, .inl ⟨hd, rfl⟩⟩
  · simp at h0
    subst h0
    have hm' : m = cap := by rw [hmm]; rfl
    subst hm'
    rw [c38] at hel
    have hel' : ∀ i, i < len → ∃ e : Ent, W.cells? 0 (a.add (i * 4)) 4 = some (encE e) ∧ e.path.size ≤ maxLen ∧ e.text.size ≤ maxLen := fun i hi => by
      obtain ⟨cs', h1, h2⟩ := hel i (by omega)
      obtain ⟨e, rfl, h3, h4, _⟩ := open_entry h2
      exact ⟨e, h1, h3, h4⟩
    obtain ⟨E, hE⟩ := Deep.choose_lt hel'
    have hlen : ((List.range len).map E).length = len := by simp
    have hcell : ∀ i, i < len → ∀ j v, (encE (E i))[j]? = some v → W.cell? ((a.add (i * 4)).add j) = some v := fun i hi j v hj => by
      obtain ⟨_, hl4, hc⟩ := World.cells?_some (hE i hi).1
      have hj4 := encE_lt hj
      rw [hc j hj4]; exact hj
    refine ⟨some a, m, (List.range len).map E, by rw [hlen], ?_, ?_, by rw [hlen]; exact hl, nofun, .inr ⟨_, _, congrArg Prod.fst hx, by simp⟩⟩
    · by_cases h0 : len = 0
      · subst h0; exact .inl rfl
      · have hc0 := hcell 0 (by omega) 0 _ rfl
        have hsp : a = ⟨a.block, a.off, none⟩ := by
          have := lit_of_cell hc0
          obtain ⟨b, o, s⟩ := a
          simp [Addr.add] at this ⊢
          exact this
        refine .inr ⟨a.block, a.off, by rw [← hsp], ?_, fun j e he i v hv => ?_⟩
        · have := block_lt_of_cell hc0
          rw [hsp] at this
          simpa [Addr.add] using this
        · rw [List.getElem?_map] at he
          obtain ⟨j', hj', rfl⟩ := Option.map_eq_some_iff.1 he
          obtain ⟨hjl, hjj⟩ := List.getElem?_eq_some_iff.1 hj'
          simp at hjl hjj
          subst hjj
          have := hcell j hjl i v hv
          rw [hsp, Addr.add_lit, Addr.add_lit] at this
          exact this
    · intro e he
      obtain ⟨i, hi, rfl⟩ := List.mem_map.1 he
      exact (hE i (List.mem_range.1 hi)).2
end Go.Proofs.YtampldoimpfjgabGreatDoor
