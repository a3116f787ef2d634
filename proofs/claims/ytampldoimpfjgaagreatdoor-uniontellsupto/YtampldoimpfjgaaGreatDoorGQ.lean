/-
  A tree, and an entry, as they come in as arguments.
-/
import Derived.Test.YtampldoimpfjgaaGreatDoorGD
import Derived.WalkKit
import Derived.ProofKit
import Derived.OpenShut
import Derived.ShutString
import Derived.ChangeOld
import Derived.Deep.DeepHandedRow
import Derived.Deep.Slices
import Derived.Lib.SmallJoins
import Derived.Carry
import Derived.SizedLaws
import Derived.Test.YtampldoimpfjgaaGreatDoorRows
import Derived.Test.YtampldoimpfjgaaGreatDoorGH
import Derived.Test.YtampldoimpfjgaaGreatDoorGK
namespace Go.Proofs.YtampldoimpfjgaaGreatDoor
open Go.ChangeShapes Go.WideShapes Go.ChangeAt Go.RowKit PM

set_option linter.unusedVariables false
set_option maxRecDepth 100000
variable {H : Type} {enc : TypeId × Value → H} {W : World}
theorem open_entry {base : Nat} {spare : Nat → Bool} {held : Bool} {fuel : Nat} {cs : List Value} {x : DataW H × List MemPlace} (h : DataW.trod enc Tryz.prog W base spare held fuel 28 cs = some x) :
    ∃ e : Ent, cs = encE e ∧ e.path.size ≤ maxLen ∧ e.text.size ≤ maxLen ∧ x.1 = .agg [.lit (.string e.path.data.toList), .lit (.int .i64 e.kind), .lit (.string e.text.data.toList), .lit (.bool e.opq)] := by
  obtain ⟨y0, y1, y2, y3, n, rfl, hl, h0, h1, h2, h3⟩ := Go.Joins.trod_struct4 Tryz.underlying28 h
  have c9 : Tryz.prog.cellsOf 9 = 1 := by kernel_rfl
  have c3 : Tryz.prog.cellsOf 3 = 1 := by kernel_rfl
  have c4 : Tryz.prog.cellsOf 4 = 1 := by kernel_rfl
  have c38 : Tryz.prog.cellsOf 28 = 4 := by kernel_rfl
  simp only [c9, c3, c4] at h0 h1 h2 h3
  obtain ⟨s, e0, rfl, hs⟩ := DataW.trod_string Tryz.underlying9 h0
  obtain ⟨k, e1, rfl, _⟩ := DataW.trod_int Tryz.underlying3 h1
  obtain ⟨u, e2, rfl, hu⟩ := DataW.trod_string Tryz.underlying9 h2
  obtain ⟨b, e3, rfl⟩ := DataW.trod_bool Tryz.underlying4 h3
  rw [c38] at hl
  match cs, hl with
  | [v0, v1, v2, v3], _ =>
    simp at e0 e1 e2 e3
    subst e0 e1 e2 e3
    exact ⟨⟨s, k, u, b⟩, rfl, hs, hu, rfl⟩
/-- An entry that is an argument. -/
theorem open_entry_arg {v : Value} {d : DataW H} {ps : List MemPlace} {base : Nat} (hok : Value.okWide Tryz.prog W .any base 28 v) (h : DataW.Trod enc Tryz.prog W 0 (fun _ => true) true 28 v d ps) :
    ∃ e : Ent, v = .agg #[.string e.path, .int .i64 e.kind, .string e.text, .bool e.opq] ∧ e.path.size ≤ maxLen ∧ e.text.size ≤ maxLen ∧ d = .agg [.lit (.string e.path.data.toList), .lit (.int .i64 e.kind), .lit (.string e.text.data.toList), .lit (.bool e.opq)] := by
  obtain ⟨fuel, h⟩ := h
  obtain ⟨e, hc, h1, h2, h3⟩ := open_entry h
  obtain ⟨cs, rfl, _⟩ := okWide_struct Tryz.underlying28 hok
  refine ⟨e, ?_, h1, h2, h3⟩
  have : cs = (encE e).toArray := by
    have hcc : cs.toList = encE e := hc
    rw [← hcc]
  rw [this]; rfl
theorem lit_of_cell {a : Addr} {v : Value} (h : W.cell? a = some v) : a = ⟨a.block, a.off, none⟩ := by
  obtain ⟨b, o, s⟩ := a
  cases s with
  | none => rfl
  | some x =>
    simp only [World.cell?] at h
    split at h
    · simp at h
    · cases h
/-- A tree that is an argument. -/
theorem open_tree {v : Value} {d : DataW H} {ps : List MemPlace} (h : DataW.Trod enc Tryz.prog W 0 (fun _ => true) true 23 v d ps) (hv : v.cells = #[v]) :
    ∃ (p : Option Addr) (cap : Nat) (t : List Ent), v = .slice p t.length cap ∧ Lies W p t ∧ Fits t ∧ t.length ≤ cap ∧ (p = none → cap = 0) ∧ ((d = .nil ∧ t = []) ∨ ∃ elems spare, d = .slice elems spare ∧ elems.length = t.length) := by
  obtain ⟨fuel, h⟩ := h
  rw [hv] at h
  have c38 : Tryz.prog.cellsOf 28 = 4 := by kernel_rfl
  rcases Deep.open_slice Tryz.underlying23 h with ⟨h0, hx⟩ | ⟨a, len, cap, m, n, D, Pl, h0, hb, hl, hm, hmm, hx, hel⟩
  · simp at h0
    subst h0
    have hd : d = .nil := congrArg Prod.fst hx
    exact ⟨none, 0, [], rfl, Lies.nil _ _, by intro e he; simp at he, Nat.le_refl _, fun _ => rfl, .inl ⟨hd, rfl⟩⟩
  · simp at h0
    subst h0
    have hm' : m = cap := by rw [hmm]; rfl
    subst hm'
    rw [c38] at hel
    have hel' : ∀ i, i < len → ∃ e : Ent, W.cells? 0 (a.add (i * 4)) 4 = some (encE e) ∧ e.path.size ≤ maxLen ∧ e.text.size ≤ maxLen := fun i hi => by
      obtain ⟨cs', h1, h2⟩ := hel i (by omega)
      obtain ⟨e, rfl, h3, h4, _⟩ := open_entry h2
      exact ⟨e, h1, h3, h4⟩
    obtain ⟨E, hE⟩ := Deep.choose_lt hel'
    have hlen : ((List.range len).map E).length = len := by simp
    have hcell : ∀ i, i < len → ∀ j v, (encE (E i))[j]? = some v → W.cell? ((a.add (i * 4)).add j) = some v := fun i hi j v hj => by
      obtain ⟨_, hl4, hc⟩ := World.cells?_some (hE i hi).1
      have hj4 := encE_lt hj
      rw [hc j hj4]; exact hj
    refine ⟨some a, m, (List.range len).map E, by rw [hlen], ?_, ?_, by rw [hlen]; exact hl, nofun, .inr ⟨_, _, congrArg Prod.fst hx, by simp⟩⟩
    · by_cases h0 : len = 0
      · subst h0; exact .inl rfl
      · have hc0 := hcell 0 (by omega) 0 _ rfl
        have hsp : a = ⟨a.block, a.off, none⟩ := by
          have := lit_of_cell hc0
          obtain ⟨b, o, s⟩ := a
          simp [Addr.add] at this ⊢
          exact this
        refine .inr ⟨a.block, a.off, by rw [← hsp], ?_, fun j e he i v hv => ?_⟩
        · have := block_lt_of_cell hc0
          rw [hsp] at this
          simpa [Addr.add] using this
        · rw [List.getElem?_map] at he
          obtain ⟨j', hj', rfl⟩ := Option.map_eq_some_iff.1 he
          obtain ⟨hjl, hjj⟩ := List.getElem?_eq_some_iff.1 hj'
          simp at hjl hjj
          subst hjj
          have := hcell j hjl i v hv
          rw [hsp, Addr.add_lit, Addr.add_lit] at this
          exact this
    · intro e he
      obtain ⟨i, hi, rfl⟩ := List.mem_map.1 he
      exact (hE i (List.mem_range.1 hi)).2
end Go.Proofs.YtampldoimpfjgaaGreatDoor
namespace Go.Proofs.YtampldoimpfjgaaGreatDoor
open Go.ChangeShapes Go.WideShapes Go.ChangeAt Go.RowKit PM

set_option linter.unusedVariables false
set_option maxRecDepth 100000
variable {H : Type} {enc : TypeId × Value → H} {W : World}
def entD {H : Type} (e : Ent) : DataW H := .agg [.lit (.string e.path.data.toList), .lit (.int .i64 e.kind), .lit (.string e.text.data.toList), .lit (.bool e.opq)]
theorem bulk_ent (e : Ent) : Rows.uptoBulk (entD (H := H) e) = e.path.size + e.text.size + 5 := by
  simp only [entD, Rows.uptoBulk, Rows.uptoBulkAll, PM.szl]
  omega
theorem bulk_mem {d : DataW H} : ∀ {ds : List (DataW H)}, d ∈ ds → Rows.uptoBulk d ≤ Rows.uptoBulkAll ds
  | x :: r, h => by
    rw [Rows.uptoBulkAll]
    rcases List.mem_cons.1 h with rfl | h
    · omega
    · have := bulk_mem h
      omega
theorem bulk_pos : ∀ (d : DataW H), 1 ≤ Rows.uptoBulk d
  | .lit (.string _) => by simp [Rows.uptoBulk]
  | .lit (.bool _) => by simp [Rows.uptoBulk]
  | .lit (.int _ _) => by simp [Rows.uptoBulk]
  | .lit (.float _ _) => by simp [Rows.uptoBulk]
  | .lit .nil => by simp [Rows.uptoBulk]
  | .nil => by simp [Rows.uptoBulk]
  | .ptr d => by simp [Rows.uptoBulk]
  | .slice _ _ => by simp [Rows.uptoBulk]
  | .agg _ => by simp [Rows.uptoBulk]
  | .iface _ _ => by simp [Rows.uptoBulk]
  | .map _ => by simp [Rows.uptoBulk]
  | .held _ => by simp [Rows.uptoBulk]
theorem bulk_len : ∀ (ds : List (DataW H)), ds.length ≤ Rows.uptoBulkAll ds
  | [] => Nat.le_refl _
  | d :: r => by
    have h1 := bulk_pos d
    have h2 := bulk_len r
    rw [Rows.uptoBulkAll, List.length_cons]; omega
/-- What a tree that is an argument holds, where all is small. -/
theorem tree_small {d : DataW H} {t : List Ent} (h : (d = .nil ∧ t = []) ∨ ∃ elems spare, d = .slice elems spare ∧ elems.length = t.length ∧ ∀ (j : Nat) e, t[j]? = some e → elems[j]? = some (entD e)) (hb : Rows.uptoBulk d ≤ 1048576) :
    (∀ e ∈ t, e.path.size ≤ 1048576 ∧ e.text.size ≤ 1048576) ∧ t.length ≤ 1048576 := by
  rcases h with ⟨_, rfl⟩ | ⟨el, sp, rfl, hl, he⟩
  · exact ⟨by intro e he; simp at he, by simp⟩
  · simp only [Rows.uptoBulk] at hb
    refine ⟨fun e hm => ?_, ?_⟩
    · obtain ⟨j, hj⟩ := List.getElem?_of_mem hm
      have h1 := bulk_mem (List.mem_of_getElem? (he j e hj))
      rw [bulk_ent] at h1
      omega
    · have := bulk_len el
      omega
/-- A tree that is an argument. -/
theorem open_tree2 {v : Value} {d : DataW H} {ps : List MemPlace} (h : DataW.Trod enc Tryz.prog W 0 (fun _ => true) true 23 v d ps) (hv : v.cells = #[v]) :
    ∃ (p : Option Addr) (cap : Nat) (t : List Ent), v = .slice p t.length cap ∧ Lies W p t ∧ Fits t ∧ t.length ≤ cap ∧ (p = none → cap = 0) ∧ ((d = .nil ∧ t = []) ∨ ∃ elems spare, d = .slice elems spare ∧ elems.length = t.length ∧ ∀ (j : Nat) e, t[j]? = some e → elems[j]? = some (entD e)) := by
  obtain ⟨fuel, h⟩ := h
  rw [hv] at h
  have c38 : Tryz.prog.cellsOf 28 = 4 := by kernel_rfl
  rcases Deep.open_slice Tryz.underlying23 h with ⟨h0, hx⟩ | ⟨a, len, cap, m, n, D, Pl, h0, hb, hl, hm, hmm, hx, hel⟩
  · simp at h0
    subst h0
    have hd : d = .nil := congrArg Prod.fst hx
    exact ⟨none, 0, [], rfl, Lies.nil _ _, by intro e he; simp at he, Nat.le_refl _, fun _ => rfl, .inl ⟨hd, rfl⟩⟩
  · simp at h0
    subst h0
    have hm' : m = cap := by rw [hmm]; rfl
    subst hm'
    rw [c38] at hel
    have hel' : ∀ i, i < len → ∃ e : Ent, W.cells? 0 (a.add (i * 4)) 4 = some (encE e) ∧ (e.path.size ≤ maxLen ∧ e.text.size ≤ maxLen) ∧ D i = entD e := fun i hi => by
      obtain ⟨cs', h1, h2⟩ := hel i (by omega)
      obtain ⟨e, rfl, h3, h4, h5⟩ := open_entry h2
      exact ⟨e, h1, ⟨h3, h4⟩, h5⟩
    obtain ⟨E, hE⟩ := Deep.choose_lt hel'
    have hlen : ((List.range len).map E).length = len := by simp
    have hcell : ∀ i, i < len → ∀ j v, (encE (E i))[j]? = some v → W.cell? ((a.add (i * 4)).add j) = some v := fun i hi j v hj => by
      obtain ⟨_, hl4, hc⟩ := World.cells?_some (hE i hi).1
      have hj4 := encE_lt hj
      rw [hc j hj4]; exact hj
    refine ⟨some a, m, (List.range len).map E, by rw [hlen], ?_, ?_, by rw [hlen]; exact hl, nofun, .inr ⟨_, _, congrArg Prod.fst hx, by simp, fun j e he => ?_⟩⟩
    · by_cases h0 : len = 0
      · subst h0; exact .inl rfl
      · have hc0 := hcell 0 (by omega) 0 _ rfl
        have hsp : a = ⟨a.block, a.off, none⟩ := by
          have := lit_of_cell hc0
          obtain ⟨b, o, s⟩ := a
          simp [Addr.add] at this ⊢
          exact this
        refine .inr ⟨a.block, a.off, by rw [← hsp], ?_, fun j e he i v hv => ?_⟩
        · have := block_lt_of_cell hc0
          rw [hsp] at this
          simpa [Addr.add] using this
        · rw [List.getElem?_map] at he
          obtain ⟨j', hj', rfl⟩ := Option.map_eq_some_iff.1 he
          obtain ⟨hjl, hjj⟩ := List.getElem?_eq_some_iff.1 hj'
          simp at hjl hjj
          subst hjj
          have := hcell j hjl i v hv
          rw [hsp, Addr.add_lit, Addr.add_lit] at this
          exact this
    · intro e he
      obtain ⟨i, hi, rfl⟩ := List.mem_map.1 he
      exact (hE i (List.mem_range.1 hi)).2.1
    · rw [List.getElem?_map] at he
      obtain ⟨j', hj', rfl⟩ := Option.map_eq_some_iff.1 he
      obtain ⟨hjl, hjj⟩ := List.getElem?_eq_some_iff.1 hj'
      simp at hjl hjj
      subst hjj
      rw [← (hE j hjl).2.2]
      simp [hjl]
end Go.Proofs.YtampldoimpfjgaaGreatDoor
namespace Go.Proofs.YtampldoimpfjgaaGreatDoor
open Go.ChangeShapes Go.WideShapes Go.ChangeAt Go.RowKit PM

set_option linter.unusedVariables false
set_option maxRecDepth 100000
variable {H : Type} {enc : TypeId × Value → H} {W : World}
instance : Inhabited Lay := ⟨⟨none, 0, []⟩⟩
/-- What a tree reads as. -/
def TreeD {H : Type} (d : DataW H) (t : List Ent) : Prop := (d = .nil ∧ t = []) ∨ ∃ elems spare, d = .slice elems spare ∧ elems.length = t.length ∧ ∀ (j : Nat) e, t[j]? = some e → elems[j]? = some (entD e)
/-- A tree that lies in a cell. -/
theorem open_treeC {v : Value} {d : DataW H} {ps : List MemPlace} {fuel : Nat} (h : DataW.trod enc Tryz.prog W 0 (fun _ => true) true fuel 23 [v] = some (d, ps)) :
    ∃ (p : Option Addr) (cap : Nat) (t : List Ent), v = .slice p t.length cap ∧ Lies W p t ∧ Fits t ∧ t.length ≤ cap ∧ (p = none → cap = 0) ∧ TreeD d t := by
  have c38 : Tryz.prog.cellsOf 28 = 4 := by kernel_rfl
  rcases Deep.open_slice Tryz.underlying23 h with ⟨h0, hx⟩ | ⟨a, len, cap, m, n, D, Pl, h0, hb, hl, hm, hmm, hx, hel⟩
  · simp at h0
    subst h0
    have hd : d = .nil := congrArg Prod.fst hx
    exact ⟨none, 0, [], rfl, Lies.nil _ _, by intro e he; simp at he, Nat.le_refl _, fun _ => rfl, .inl ⟨hd, rfl⟩⟩
  · simp at h0
    subst h0
    have hm' : m = cap := by rw [hmm]; rfl
    subst hm'
    rw [c38] at hel
    have hel' : ∀ i, i < len → ∃ e : Ent, W.cells? 0 (a.add (i * 4)) 4 = some (encE e) ∧ (e.path.size ≤ maxLen ∧ e.text.size ≤ maxLen) ∧ D i = entD e := fun i hi => by
      obtain ⟨cs', h1, h2⟩ := hel i (by omega)
      obtain ⟨e, rfl, h3, h4, h5⟩ := open_entry h2
      exact ⟨e, h1, ⟨h3, h4⟩, h5⟩
    obtain ⟨E, hE⟩ := Deep.choose_lt hel'
    have hlen : ((List.range len).map E).length = len := by simp
    have hcell : ∀ i, i < len → ∀ j v, (encE (E i))[j]? = some v → W.cell? ((a.add (i * 4)).add j) = some v := fun i hi j v hj => by
      obtain ⟨_, hl4, hc⟩ := World.cells?_some (hE i hi).1
      have hj4 := encE_lt hj
      rw [hc j hj4]; exact hj
    refine ⟨some a, m, (List.range len).map E, by rw [hlen], ?_, ?_, by rw [hlen]; exact hl, nofun, .inr ⟨_, _, congrArg Prod.fst hx, by simp, fun j e he => ?_⟩⟩
    · by_cases h0 : len = 0
      · subst h0; exact .inl rfl
      · have hc0 := hcell 0 (by omega) 0 _ rfl
        have hsp : a = ⟨a.block, a.off, none⟩ := by
          have := lit_of_cell hc0
          obtain ⟨b, o, s⟩ := a
          simp [Addr.add] at this ⊢
          exact this
        refine .inr ⟨a.block, a.off, by rw [← hsp], ?_, fun j e he i v hv => ?_⟩
        · have := block_lt_of_cell hc0
          rw [hsp] at this
          simpa [Addr.add] using this
        · rw [List.getElem?_map] at he
          obtain ⟨j', hj', rfl⟩ := Option.map_eq_some_iff.1 he
          obtain ⟨hjl, hjj⟩ := List.getElem?_eq_some_iff.1 hj'
          simp at hjl hjj
          subst hjj
          have := hcell j hjl i v hv
          rw [hsp, Addr.add_lit, Addr.add_lit] at this
          exact this
    · intro e he
      obtain ⟨i, hi, rfl⟩ := List.mem_map.1 he
      exact (hE i (List.mem_range.1 hi)).2.1
    · rw [List.getElem?_map] at he
      obtain ⟨j', hj', rfl⟩ := Option.map_eq_some_iff.1 he
      obtain ⟨hjl, hjj⟩ := List.getElem?_eq_some_iff.1 hj'
      simp at hjl hjj
      subst hjj
      rw [← (hE j hjl).2.2]
      simp [hjl]
theorem weights_all {P : Program} {e : TypeId} {d : DataW H} {x : Nat} : ∀ {ds : List (DataW H)}, d ∈ ds → x ∈ d.weights P e → x ∈ DataW.weightsAll P e ds
  | y :: r, h, hx => by
    rw [DataW.weightsAll]
    rcases List.mem_cons.1 h with rfl | h
    · exact List.mem_append.2 (.inl hx)
    · exact List.mem_append.2 (.inr (weights_all h hx))
/-- A list of layers that is an argument. -/
theorem open_layers {v : Value} {d : DataW H} {ps : List MemPlace} (h : DataW.Trod enc Tryz.prog W 0 (fun _ => true) true 24 v d ps) (hv : v.cells = #[v]) :
    ∃ (p : Option Addr) (cap : Nat) (ls : List Lay), v = .slice p ls.length cap ∧ LiesT W p ls ∧ (∀ x ∈ ls, Lies W x.ad x.es ∧ Fits x.es ∧ x.es.length ≤ x.cap) ∧ ls.length ≤ cap ∧ (p = none → cap = 0) ∧
      ((d = .nil ∧ ls = []) ∨ ∃ elems spare, d = .slice elems spare ∧ elems.length = ls.length ∧ ∀ (j : Nat) x, ls[j]? = some x → ∃ dx, elems[j]? = some dx ∧ TreeD dx x.es) := by
  obtain ⟨fuel, h⟩ := h
  rw [hv] at h
  have c1 : Tryz.prog.cellsOf 23 = 1 := by kernel_rfl
  rcases Deep.open_slice1 Tryz.underlying24 c1 h with ⟨h0, hx⟩ | ⟨a, len, cap, m, n, V, D, Pl, h0, hb, hl, hm, hmm, hx, hel⟩
  · simp at h0
    subst h0
    have hd : d = .nil := congrArg Prod.fst hx
    exact ⟨none, 0, [], rfl, .inl rfl, by intro e he; simp at he, Nat.le_refl _, fun _ => rfl, .inl ⟨hd, rfl⟩⟩
  · simp at h0
    subst h0
    have hm' : m = cap := by rw [hmm]; rfl
    subst hm'
    have hel' : ∀ i, i < len → ∃ x : Lay, W.cell? (a.add i) = some (.slice x.ad x.es.length x.cap) ∧ (Lies W x.ad x.es ∧ Fits x.es ∧ x.es.length ≤ x.cap) ∧ TreeD (D i) x.es := fun i hi => by
      obtain ⟨h1, h2⟩ := hel i (by omega)
      obtain ⟨p, c, t, hv', h3, h4, h5, h6, h7⟩ := open_treeC h2
      exact ⟨⟨p, c, t⟩, by rw [h1, hv'], ⟨h3, h4, h5⟩, h7⟩
    obtain ⟨E, hE⟩ := Deep.choose_lt hel'
    have hlen : ((List.range len).map E).length = len := by simp
    refine ⟨some a, m, (List.range len).map E, by rw [hlen], ?_, ?_, by rw [hlen]; exact hl, nofun, .inr ⟨_, _, congrArg Prod.fst hx, by simp, fun j e he => ?_⟩⟩
    · by_cases h0 : len = 0
      · subst h0; exact .inl rfl
      · have hc0 := (hE 0 (by omega)).1
        have hsp : a = ⟨a.block, a.off, none⟩ := by
          have := lit_of_cell hc0
          obtain ⟨b, o, s⟩ := a
          simp [Addr.add] at this ⊢
          exact this
        refine .inr ⟨a.block, a.off, by rw [← hsp], ?_, fun j e he => ?_⟩
        · have := block_lt_of_cell hc0
          rw [hsp] at this
          simpa [Addr.add] using this
        · rw [List.getElem?_map] at he
          obtain ⟨j', hj', rfl⟩ := Option.map_eq_some_iff.1 he
          obtain ⟨hjl, hjj⟩ := List.getElem?_eq_some_iff.1 hj'
          simp at hjl hjj
          subst hjj
          have := (hE j hjl).1
          rw [hsp, Addr.add_lit] at this
          exact this
    · intro e he
      obtain ⟨i, hi, rfl⟩ := List.mem_map.1 he
      exact (hE i (List.mem_range.1 hi)).2.1
    · rw [List.getElem?_map] at he
      obtain ⟨j', hj', rfl⟩ := Option.map_eq_some_iff.1 he
      obtain ⟨hjl, hjj⟩ := List.getElem?_eq_some_iff.1 hj'
      simp at hjl hjj
      subst hjj
      exact ⟨D j, by simp [hjl], (hE j hjl).2.2⟩
end Go.Proofs.YtampldoimpfjgaaGreatDoor
namespace Go.Proofs.YtampldoimpfjgaaGreatDoor
open Go.ChangeShapes Go.WideShapes Go.ChangeAt Go.RowKit PM

set_option linter.unusedVariables false
set_option maxRecDepth 100000
variable {H : Type} {enc : TypeId × Value → H} {W : World}
def LaysD {H : Type} (d : DataW H) (ls : List Lay) : Prop := (d = .nil ∧ ls = []) ∨ ∃ elems spare, d = .slice elems spare ∧ elems.length = ls.length ∧ ∀ (j : Nat) x, ls[j]? = some x → ∃ dx, elems[j]? = some dx ∧ TreeD dx x.es
/-- A list of layers that lies in a cell. -/
theorem open_layersC {v : Value} {d : DataW H} {ps : List MemPlace} {fuel : Nat} (h : DataW.trod enc Tryz.prog W 0 (fun _ => true) true fuel 24 [v] = some (d, ps)) :
    ∃ (p : Option Addr) (cap : Nat) (ls : List Lay), v = .slice p ls.length cap ∧ LiesT W p ls ∧ (∀ x ∈ ls, Lies W x.ad x.es ∧ Fits x.es ∧ x.es.length ≤ x.cap ∧ (x.ad = none → x.cap = 0)) ∧ ls.length ≤ cap ∧ (p = none → cap = 0) ∧ LaysD d ls := by
  have c1 : Tryz.prog.cellsOf 23 = 1 := by kernel_rfl
  rcases Deep.open_slice1 Tryz.underlying24 c1 h with ⟨h0, hx⟩ | ⟨a, len, cap, m, n, V, D, Pl, h0, hb, hl, hm, hmm, hx, hel⟩
  · simp at h0
    subst h0
    have hd : d = .nil := congrArg Prod.fst hx
    exact ⟨none, 0, [], rfl, .inl rfl, by intro e he; simp at he, Nat.le_refl _, fun _ => rfl, .inl ⟨hd, rfl⟩⟩
  · simp at h0
    subst h0
    have hm' : m = cap := by rw [hmm]; rfl
    subst hm'
    have hel' : ∀ i, i < len → ∃ x : Lay, W.cell? (a.add i) = some (.slice x.ad x.es.length x.cap) ∧ (Lies W x.ad x.es ∧ Fits x.es ∧ x.es.length ≤ x.cap ∧ (x.ad = none → x.cap = 0)) ∧ TreeD (D i) x.es := fun i hi => by
      obtain ⟨h1, h2⟩ := hel i (by omega)
      obtain ⟨p, c, t, hv', h3, h4, h5, h6, h7⟩ := open_treeC h2
      exact ⟨⟨p, c, t⟩, by rw [h1, hv'], ⟨h3, h4, h5, h6⟩, h7⟩
    obtain ⟨E, hE⟩ := Deep.choose_lt hel'
    have hlen : ((List.range len).map E).length = len := by simp
    refine ⟨some a, m, (List.range len).map E, by rw [hlen], ?_, ?_, by rw [hlen]; exact hl, nofun, .inr ⟨_, _, congrArg Prod.fst hx, by simp, fun j e he => ?_⟩⟩
    · by_cases h0 : len = 0
      · subst h0; exact .inl rfl
      · have hc0 := (hE 0 (by omega)).1
        have hsp : a = ⟨a.block, a.off, none⟩ := by
          have := lit_of_cell hc0
          obtain ⟨b, o, s⟩ := a
          simp [Addr.add] at this ⊢
          exact this
        refine .inr ⟨a.block, a.off, by rw [← hsp], ?_, fun j e he => ?_⟩
        · have := block_lt_of_cell hc0
          rw [hsp] at this
          simpa [Addr.add] using this
        · rw [List.getElem?_map] at he
          obtain ⟨j', hj', rfl⟩ := Option.map_eq_some_iff.1 he
          obtain ⟨hjl, hjj⟩ := List.getElem?_eq_some_iff.1 hj'
          simp at hjl hjj
          subst hjj
          have := (hE j hjl).1
          rw [hsp, Addr.add_lit] at this
          exact this
    · intro e he
      obtain ⟨i, hi, rfl⟩ := List.mem_map.1 he
      exact (hE i (List.mem_range.1 hi)).2.1
    · rw [List.getElem?_map] at he
      obtain ⟨j', hj', rfl⟩ := Option.map_eq_some_iff.1 he
      obtain ⟨hjl, hjj⟩ := List.getElem?_eq_some_iff.1 hj'
      simp at hjl hjj
      subst hjj
      exact ⟨D j, by simp [hjl], (hE j hjl).2.2⟩
/-- A union that is an argument. -/
theorem open_union {v : Value} {d : DataW H} {ps : List MemPlace} {base : Nat} (hok : Value.okWide Tryz.prog W .any base 26 v) (h : DataW.Trod enc Tryz.prog W 0 (fun _ => true) true 26 v d ps) :
    ∃ (y : Lay) (ls : List Lay) (pl : Option Addr) (cl : Nat), v = .agg #[.slice y.ad y.es.length y.cap, .slice pl ls.length cl] ∧ (Lies W y.ad y.es ∧ Fits y.es ∧ y.es.length ≤ y.cap ∧ (y.ad = none → y.cap = 0)) ∧ LiesT W pl ls ∧ (∀ x ∈ ls, Lies W x.ad x.es ∧ Fits x.es ∧ x.es.length ≤ x.cap ∧ (x.ad = none → x.cap = 0)) ∧ ls.length ≤ cl ∧ (pl = none → cl = 0) ∧
      ∃ d0 d1, d = .agg [d0, d1] ∧ TreeD d0 y.es ∧ LaysD d1 ls := by
  obtain ⟨fuel, h⟩ := h
  obtain ⟨cs, rfl, _⟩ := okWide_struct Tryz.underlying26 hok
  obtain ⟨xs, n, _, hx, hl, hlen, hf⟩ := DataW.trod_struct Tryz.underlying26 h
  have cT : Tryz.prog.cellsOf 23 = 1 := by kernel_rfl
  have cL : Tryz.prog.cellsOf 24 = 1 := by kernel_rfl
  have cU : Tryz.prog.cellsOf 26 = 2 := by kernel_rfl
  match xs, hlen with
  | [y0, y1], _ =>
    have h0 := hf 0 _ rfl
    have h1 := hf 1 _ rfl
    rw [cU] at hl
    have hcl : cs.toList.length = 2 := hl
    obtain ⟨a, b, hab⟩ : ∃ a b, cs = #[a, b] := by
      obtain ⟨l⟩ := cs
      match l, hcl with
      | [a, b], _ => exact ⟨a, b, rfl⟩
    subst hab
    simp [cT, cL] at h0 h1
    obtain ⟨q0, q1⟩ := y0
    obtain ⟨q2, q3⟩ := y1
    obtain ⟨p, c, t, ha, g1, g2, g3, g4, g5⟩ := open_treeC h0
    obtain ⟨pl, cl, ls, hb, k1, k2, k3, k4, k5⟩ := open_layersC h1
    subst ha hb
    have hd : d = .agg [q0, q2] := by
      have := congrArg Prod.fst hx
      simpa using this
    exact ⟨⟨p, c, t⟩, ls, pl, cl, rfl, ⟨g1, g2, g3, g4⟩, k1, k2, k3, k4, q0, q2, hd, g5, k5⟩
theorem small_tree {d : DataW H} {t : List Ent} (hD : TreeD d t) (h : ∀ x ∈ d.weights Tryz.prog 23, x ≤ reachBytes) : t.length < 4611686018427387904 := by
  have hb : Tryz.prog.bytesOf 28 = 48 := by kernel_rfl
  rcases hD with ⟨_, h⟩ | ⟨el2, sp2, hdd, hl2, _⟩
  · rw [h]; decide
  · have := h ((el2.length + sp2.length) * Tryz.prog.bytesOf 28) (by rw [hdd]; simp [DataW.weights, Tryz.underlying23])
    have h47 := reachBytes_lt
    rw [hb] at this
    omega
/-- .. and within the form's reach it is as the walks want it. -/
theorem union_ok {y : Lay} {ls : List Lay} {pl : Option Addr} {cl : Nat} {d0 d1 : DataW H} (hy : Lies W y.ad y.es ∧ Fits y.es ∧ y.es.length ≤ y.cap ∧ (y.ad = none → y.cap = 0)) (hT : LiesT W pl ls) (hOK : ∀ x ∈ ls, Lies W x.ad x.es ∧ Fits x.es ∧ x.es.length ≤ x.cap ∧ (x.ad = none → x.cap = 0)) (hcap : ls.length ≤ cl) (hnil : pl = none → cl = 0) (hD0 : TreeD d0 y.es) (hD1 : LaysD d1 ls)
    (hw : ∀ x ∈ (DataW.agg [d0, d1]).weights Tryz.prog 26, x ≤ reachBytes) : UnOK W y ls pl cl := by
  have w0 : ∀ x ∈ d0.weights Tryz.prog 23, x ≤ reachBytes := fun x hx => hw x (by simp [DataW.weights, DataW.weightsEach, Tryz.underlying26]; exact .inl hx)
  have w1 : ∀ x ∈ d1.weights Tryz.prog 24, x ≤ reachBytes := fun x hx => hw x (by simp [DataW.weights, DataW.weightsEach, Tryz.underlying26]; exact .inr hx)
  refine ⟨⟨hy.1, hy.2.1, hy.2.2.1, small_tree hD0 w0⟩, hy.2.2.2, hT, fun x hx => ?_, hnil, hcap⟩
  obtain ⟨g1, g2, g3, g4⟩ := hOK x hx
  refine ⟨⟨g1, g2, g3, ?_⟩, g4⟩
  rcases hD1 with ⟨_, h⟩ | ⟨el, sp, hd, hle, he⟩
  · rw [h] at hx; simp at hx
  · obtain ⟨j, hj⟩ := List.getElem?_of_mem hx
    obtain ⟨dx, hdx, hD⟩ := he j x hj
    refine small_tree hD fun z hz => w1 z ?_
    rw [hd]
    simp only [DataW.weights, Tryz.underlying24]
    exact List.mem_cons_of_mem _ (List.mem_append.2 (.inl (weights_all (List.mem_of_getElem? hdx) hz)))
end Go.Proofs.YtampldoimpfjgaaGreatDoor
