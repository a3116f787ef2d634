/-
  Trees and entries that are arguments, and how much they hold: for statements in their second form.
-/
import Derived.Test.YtampldoimpfjgabGreatDoorTOpen
import Derived.Test.YtampldoimpfjgabGreatDoorRows
namespace Go.Proofs.YtampldoimpfjgabGreatDoor
open Go.ChangeShapes Go.WideShapes Go.ChangeAt Go.RowKit PM

set_option linter.unusedVariables false
set_option maxRecDepth 100000
variable {H : Type} {enc : TypeId × Value → H} {W : World}
def entD {H : Type} (e : Ent) : DataW H := .agg [.lit (.string e.path.data.toList), .lit (.int .i64 e.kind), .lit (.string e.text.data.toList), .lit (.bool e.opq)]
theorem bulk_ent (e : Ent) : Rows.uptoBulk (entD (H := H) e) = e.path.size + e.text.size + 5 := by
  simp only [entD, Rows.uptoBulk, Rows.uptoBulkAll, PM.szl]
  omega
theorem bulk_mem {d : DataW H} : ∀ {ds : List (DataW H)}, d ∈ ds → Rows.uptoBulk d ≤ Rows.uptoBulkAll ds
  | x :: r, h => by
    rw [Rows.uptoBulkAll]
    rcases List.mem_cons.1 h with rfl | h
    · omega
    · have := bulk_mem h
      omega
theorem bulk_pos : ∀ (d : DataW H), 1 ≤ Rows.uptoBulk d
  | .lit (.string _) => by simp [Rows.uptoBulk]
  | .lit (.bool _) => by simp [Rows.uptoBulk]
  | .lit (.int _ _) => by simp [Rows.uptoBulk]
  | .lit (.float _ _) => by simp [Rows.uptoBulk]
  | .lit .nil => by simp [Rows.uptoBulk]
  | .nil => by simp [Rows.uptoBulk]
  | .ptr d => by simp [Rows.uptoBulk]
  | .slice _ _ => by simp [Rows.uptoBulk]
  | .agg _ => by simp [Rows.uptoBulk]
  | .iface _ _ => by simp [Rows.uptoBulk]
  | .map _ => by simp [Rows.uptoBulk]
  | .held _ => by simp [Rows.uptoBulk]
theorem bulk_len : ∀ (ds : List (DataW H)), ds.length ≤ Rows.uptoBulkAll ds
  | [] => Nat.le_refl _
  | d :: r => by
    have h1 := bulk_pos d
    have h2 := bulk_len r
    rw [Rows.uptoBulkAll, List.length_cons]; omega
/-- What a tree that is an argument holds, where all is small. -/
theorem tree_small {d : DataW H} {t : List Ent} (h : (d = .nil ∧ t = []) ∨ ∃ elems spare, d = .slice elems spare ∧ elems.length = t.length ∧ ∀ (j : Nat) e, t[j]? = some e → elems[j]? = some (entD e)) (hb : Rows.uptoBulk d ≤ 1048576) :
    (∀ e ∈ t, e.path.size ≤ 1048576 ∧ e.text.size ≤ 1048576) ∧ t.length ≤ 1048576 := by
  rcases h with ⟨_, rfl⟩ | ⟨el, sp, rfl, hl, he⟩
  · exact ⟨by intro e he; simp at he, by simp⟩
  · simp only [Rows.uptoBulk] at hb
    refine ⟨fun e hm => ?_, ?_⟩
    · obtain ⟨j, hj⟩ := List.getElem?_of_mem hm
      have h1 := bulk_mem (List.mem_of_getElem? (he j e hj))
      rw [bulk_ent] at h1
      omega
    · have := bulk_len el
      omega
/-- A tree that is an argument. -/
theorem open_tree2 {v : Value} {d : DataW H} {ps : List MemPlace} (h : DataW.Trod enc Tryz.prog W 0 (fun _ => true) true 23 v d ps) (hv : v.cells = #[v]) :
    ∃ (p : Option Addr) (cap : Nat) (t : List Ent), v = .slice p t.length cap ∧ Lies W p t ∧ Fits t ∧ t.length ≤ cap ∧ (p = none → cap = 0) ∧ ((d = .nil ∧ t = []) ∨ ∃ elems spare, d = .slice elems spare ∧ elems.length = t.length ∧ ∀ (j : Nat) e, t[j]? = some e → elems[j]? = some (entD e)) := by
  obtain ⟨fuel, h⟩ := h
  rw [hv] at h
  have c38 : Tryz.prog.cellsOf 28 = 4 := by kernel_rfl
  rcases Deep.open_slice Tryz.underlying23 h with ⟨h0, hx⟩ | ⟨a, len, cap, m, n, D, Pl, h0, hb, hl, hm, hmm, hx, hel⟩
  · simp at h0
    subst h0
    have hd : d = .nil := congrArg Prod.fst hx
    exact ⟨none, 0, [], rfl, Lies.nil _ _, by intro e he; simp at he, Nat.le_refl _, fun _ => rfl, .inl ⟨hd, rfl⟩⟩
  · simp at h0
    subst h0
    have hm' : m = cap := by rw [hmm]; rfl
    subst hm'
    rw [c38] at hel
    have hel' : ∀ i, i < len → ∃ e : Ent, W.cells? 0 (a.add (i * 4)) 4 = some (encE e) ∧ (e.path.size ≤ maxLen ∧ e.text.size ≤ maxLen) ∧ D i = entD e := fun i hi => by
      obtain ⟨cs', h1, h2⟩ := hel i (by omega)
      obtain ⟨e, rfl, h3, h4, h5⟩ := open_entry h2
      exact ⟨e, h1, ⟨h3, h4⟩, h5⟩
    obtain ⟨E, hE⟩ := Deep.choose_lt hel'
    have hlen : ((List.range len).map E).length = len := by simp
    have hcell : ∀ i, i < len → ∀ j v, (encE (E i))[j]? = some v → W.cell? ((a.add (i * 4)).add j) = some v := fun i hi j v hj => by
      obtain ⟨_, hl4, hc⟩ := World.cells?_some (hE i hi).1
      have hj4 := encE_lt hj
      rw [hc j hj4]; exact hj
    refine ⟨some a, m, (List.range len).map E, by rw [hlen], ?_, ?_, by rw [hlen]; exact hl, nofun, .inr ⟨_, _, congrArg Prod.fst hx, by simp, fun j e he => ?_⟩⟩
    · by_cases h0 : len = 0
      · subst h0; exact .inl rfl
      · have hc0 := hcell 0 (by omega) 0 _ rfl
        have hsp : a = ⟨a.block, a.off, none⟩ := by
          have := lit_of_cell hc0
          obtain ⟨b, o, s⟩ := a
          simp [Addr.add] at this ⊢
          exact this
        refine .inr ⟨a.block, a.off, by rw [← hsp], ?_, fun j e he i v hv => ?_⟩
        · have := block_lt_of_cell hc0
          rw [hsp] at this
          simpa [Addr.add] using this
        · rw [List.getElem?_map] at he
          obtain ⟨j', hj', rfl⟩ := Option.map_eq_some_iff.1 he
          obtain ⟨hjl, hjj⟩ := List.getElem?_eq_some_iff.1 hj'
          simp at hjl hjj
          subst hjj
          have := hcell j hjl i v hv
          rw [hsp, Addr.add_lit, Addr.add_lit] at this
          exact this
    · intro e he
      obtain ⟨i, hi, rfl⟩ := List.mem_map.1 he
      exact (hE i (List.mem_range.1 hi)).2.1
    · rw [List.getElem?_map] at he
      obtain ⟨j', hj', rfl⟩ := Option.map_eq_some_iff.1 he
      obtain ⟨hjl, hjj⟩ := List.getElem?_eq_some_iff.1 hj'
      simp at hjl hjj
      subst hjj
      rw [← (hE j hjl).2.2]
      simp [hjl]
end Go.Proofs.YtampldoimpfjgabGreatDoor
