/-
  Proved: for every union, entry and two paths that hold together at most 1048576 values and letters the statement UnionTells (chapter 4: Wrong, Seen, Look, Put, Remove and Move answer as the document says) returns true, and its arguments read afterwards as before.
  Conditions: that bound (the second form's own); the form's own; the two tables of unicode/utf8 that the row lists hold what the program's text lays: the card ties them.
-/
import Derived.Test.YtampldoimpfjgaaGreatDoorGP
import Derived.Test.YtampldoimpfjgaaGreatDoorGQ
import Derived.Test.YtampldoimpfjgaaGreatDoorCards
import Derived.Test.YtampldoimpfjgaaGreatDoorTie
import Derived.Shelf.LaysM
namespace Go.Proofs.YtampldoimpfjgaaGreatDoor.unionTellsDone
open Go.ChangeShapes Go.WideShapes Go.ChangeAt Go.RowKit PM
open Go.ChangeMaps (open_string shut_string)

theorem own : ownKnob Tryz.prog.godebug = none := by kernel_rfl
theorem maxLen_cell (w : World) (h : w.ShapedOpen Tryz.prog) : ∃ m, w.cell? ⟨0, 0, none⟩ = some (.int .i64 m) :=
  Go.Proofs.cell_of_shapedOpen_int (zero := #[.int .i64 0]) (t := 3) h (of_decide_eq_true (by kernel_rfl)) (by kernel_rfl) rfl (by kernel_rfl) (by kernel_rfl) Tryz.underlying3
theorem laidOut : laidOutB Tryz.prog = true := by kernel_rfl

set_option maxRecDepth 100000 in
theorem contract (H : Type) (enc : TypeId × Value → H) (W : World) (base : Nat) (args : Array Value) (ds gs : List (DataW H)) (before : List MemPlace)
    (hval : ∀ (j : Nat) t v, Tryz.f3.params[j]? = some t → args[j]? = some v → Value.okWide Tryz.prog W .any base t v)
    (hW : DataW.Whole enc Tryz.prog Tryz.f3.params.toList Rows.unionTellsSpec.vars false W args.toList ds gs before)
    (hz : (DataW.weightsEach Tryz.prog (Tryz.f3.params.toList ++ Rows.unionTellsSpec.plain.varTypes Tryz.prog) (ds ++ gs)).all (· ≤ reachBytes) = true) (hSh : W.ShapedOpen Tryz.prog) (hk : Rows.uptoSmall H (ds ++ gs) = true) :
    Calls Tryz.prog 3 args W fun e W' => ∃ v, e = .returned v ∧ Rows.unionTellsSpec.post enc Tryz.prog Tryz.f3 false true false false W args v W' := by
  have hW' := hW
  obtain ⟨p, q, hA0, hV, rfl, hfz, hnd⟩ := hW
  have hA : DataW.TrodAll enc Tryz.prog W 0 (fun _ => true) true Tryz.f3.params.toList args.toList ds p := hA0
  rw [Tryz.params3] at hA hval hz
  obtain ⟨v0, vs0, d0, ds0, p0, q0, hargs, rfl, rfl, h0, r0⟩ := trodAll_cons hA
  obtain ⟨v1, vs1, d1, ds1, p1, q1, rfl, rfl, rfl, h1, r1⟩ := trodAll_cons r0
  obtain ⟨v2, vs2, d2, ds2, p2, q2, rfl, rfl, rfl, h2, r2⟩ := trodAll_cons r1
  obtain ⟨v3, vs3, d3, ds3, p3, q3, rfl, rfl, rfl, h3, r3⟩ := trodAll_cons r2
  obtain ⟨rfl, rfl, rfl⟩ := trodAll_nil r3
  obtain rfl : args = #[v0, v1, v2, v3] := by cases args; simp_all
  obtain ⟨rfl, rfl⟩ := trodVars_none hV
  simp only [List.append_nil] at hW' hz hk
  have hlt0 : ∀ x ∈ p0, x.block < W.heap.size := fun x hx => hW'.lt x (by simp [hx])
  have hlt1 : ∀ x ∈ p1, x.block < W.heap.size := fun x hx => hW'.lt x (by simp [hx])
  obtain ⟨y, ls, pl, cl, rfl, hy, hT, hOK, hcap, hnil, dd0, dd1, hd0, hD0, hD1⟩ := open_union (hval 0 26 v0 rfl rfl) h0
  have hUn : UnOK W y ls pl cl := union_ok hy hT hOK hcap hnil hD0 hD1 (fun x hx => by
    have := List.all_eq_true.1 hz x (DataW.weights_mem_each (j := 0) (t := 26) (d := d0) rfl rfl x (by rw [hd0]; exact hx))
    simpa using this)
  obtain ⟨e, rfl, he, het, hd1⟩ := open_entry_arg (hval 1 28 v1 rfl rfl) h1
  obtain ⟨qq, rfl, rfl, rfl, hqq⟩ := open_string Tryz.underlying9 (hval 2 9 v2 rfl rfl) h2
  obtain ⟨other, rfl, rfl, rfl, hot⟩ := open_string Tryz.underlying9 (hval 3 9 v3 rfl rfl) h3
  have hb : Rows.uptoBulkAll [d0, d1, DataW.lit (H := H) (.string qq.data.toList), DataW.lit (H := H) (.string other.data.toList)] ≤ 1048576 := of_decide_eq_true hk
  have hbe : Rows.uptoBulk d1 = e.path.size + e.text.size + 5 := by rw [hd1]; exact bulk_ent e
  have hbu : Rows.uptoBulk d0 = Rows.uptoBulk (DataW.agg [dd0, dd1]) := by rw [hd0]
  simp only [Rows.uptoBulkAll, Rows.uptoBulk, PM.szl] at hb hbu
  obtain ⟨hFs, hns⟩ := tree_small hD0 (by omega)
  have hd1b : Rows.uptoBulk dd1 ≤ 1048576 := by omega
  have hlays : ∀ x ∈ ls, ∀ e ∈ x.es, e.path.size ≤ 1048576 ∧ e.text.size ≤ 1048576 := by
    rcases hD1 with ⟨_, rfl⟩ | ⟨el, sp, rfl, hle, he⟩
    · intro x hx; simp at hx
    · simp only [Rows.uptoBulk] at hd1b
      intro x hx
      obtain ⟨j, hj⟩ := List.getElem?_of_mem hx
      obtain ⟨dx, hdx, hD⟩ := he j x hj
      have h1 := bulk_mem (List.mem_of_getElem? hdx)
      exact (tree_small hD (by omega)).1
  clear hA0
  obtain ⟨m, hm⟩ := maxLen_cell W hSh
  refine (utells_law y ls m pl cl e qq other W hUn (fun x hx => by
    rcases List.mem_cons.1 hx with rfl | hx
    · exact hFs
    · exact hlays x hx) (by omega) (by omega) (by omega) (by omega) hm).mono fun e W' ⟨he, bel⟩ => ?_
  subst he
  exact ⟨_, rfl, _, _, _, [], p0 ++ (p1 ++ ([] ++ ([] ++ []))), [], hW', trodAll_cons_mk (shut_bool Tryz.underlying4 _) trodAll_mk0,
    trodAll_cons_mk (Below.trod laidOut (by kernel_rfl) (of_decide_eq_true (by kernel_rfl)) h0 bel hlt0) (trodAll_cons_mk (Below.trod laidOut (by kernel_rfl) (of_decide_eq_true (by kernel_rfl)) h1 bel hlt1) (trodAll_cons_mk (shut_string Tryz.underlying9 hqq) (trodAll_cons_mk (shut_string Tryz.underlying9 hot) trodAll_mk0))), rfl, bel.frame _, fun h => by cases h⟩
/-- The tables of unicode/utf8 as the program's text lays them. -/
def lay1 : Obj → Obj
  | .cells _ t frozen => .cells (Pinned.utf8FirstZ.map fun (n : Nat) => Value.int .u8 n).toArray t frozen
  | o => o
def lay2 : Obj → Obj
  | .cells _ t frozen => .cells (([128, 191, 160, 191, 128, 159, 144, 191, 128, 143] ++ List.replicate 22 0).map fun (n : Nat) => Value.int .u8 n).toArray t frozen
  | o => o
noncomputable def laidWorld (os : Os) : World :=
  { World.holding Tryz.prog os ⟨#[], #[], []⟩ with heap := ((World.holding Tryz.prog os ⟨#[], #[], []⟩).heap.modify 1 lay1).modify 2 lay2 }
theorem laid_met (os : Os) : laidMet Tryz.prog Rows.unionTellsUptoRow.laid ((laidWorld os).forCall (fun _ _ => 0) ⟨#[], #[.agg #[.slice none 0 0, .slice none 0 0], .agg #[.string ByteArray.empty, .int .i64 0, .string ByteArray.empty, .bool false], .string ByteArray.empty, .string ByteArray.empty], []⟩).memory :=
  laidMet_of_run' 8 (by kernel_rfl) (by kernel_rfl)
theorem reads (os : Os) {H : Type} (enc : TypeId × Value → H) : ∃ places, DataW.whole enc Tryz.prog ((laidWorld os).forCall (fun _ _ => 0) ⟨#[], #[.agg #[.slice none 0 0, .slice none 0 0], .agg #[.string ByteArray.empty, .int .i64 0, .string ByteArray.empty, .bool false], .string ByteArray.empty, .string ByteArray.empty], []⟩).memory Tryz.f3.params.toList Rows.unionTellsSpec.vars false #[Value.agg #[.slice none 0 0, .slice none 0 0], Value.agg #[.string ByteArray.empty, .int .i64 0, .string ByteArray.empty, .bool false], Value.string ByteArray.empty, Value.string ByteArray.empty].toList 8 = some ([.agg [.nil, .nil], .agg [.lit (.string []), .lit (.int .i64 0), .lit (.string []), .lit (.bool false)], .lit (.string []), .lit (.string [])], [], places) :=
  ⟨[], by kernel_rfl⟩
set_option maxRecDepth 100000 in
theorem lifted (os : Os) (started : os.Started) (H : Type) (enc : TypeId × Value → H) (F : Stop.Interp) :
    ReturnsInHanded {} Tryz.checked os 3 .any ((Rows.OpenSpec.upto Rows.unionTellsSpec).preRow enc Tryz.prog Tryz.f3 Rows.unionTellsUptoRow.domain false Rows.unionTellsUptoRow.laid) (((Rows.OpenSpec.upto Rows.unionTellsSpec).at F).post enc Tryz.prog Tryz.f3 false true false false) := by
  obtain ⟨places, hx⟩ := reads os enc
  refine returnsInHanded_of_row (C := Tryz.checked) (s := Rows.OpenSpec.upto Rows.unionTellsSpec) own started (by kernel_rfl) Tryz.func3
    (witness_row_at (enc := enc) (C := Tryz.checked) false (laidWorld os) #[.agg #[.slice none 0 0, .slice none 0 0], .agg #[.string ByteArray.empty, .int .i64 0, .string ByteArray.empty, .bool false], .string ByteArray.empty, .string ByteArray.empty] rfl (by kernel_rfl) (by kernel_rfl) (by kernel_rfl)
      (OpenSpec.preRow_of_cond 8 hx (by kernel_rfl) (fun k hk => by cases hk; kernel_rfl) (by kernel_rfl) (laid_met os))) ?_
  intro W base args ds gs before hval hW _ hcond hz _ hSh _
  exact contract H enc W base args ds gs before hval hW hz hSh (hcond _ rfl)
theorem said : Rows.UnionTellsUptoSaid :=
  OpenClaim.holds_of_cond 3 Tryz.f3 rfl rfl rfl rfl rfl rfl rfl ⟨rfl, rfl, rfl, rfl, rfl⟩ rfl rfl rfl rfl rfl (by kernel_rfl) Tryz.func3 (by kernel_rfl)
    (of_decide_eq_true (by kernel_rfl)) (by unfold Func.isWrapper; first | (rw [if_pos (by decide +kernel)]; kernel_rfl) | (rw [if_neg (by decide +kernel)]; exact ⟨rfl, rfl⟩))
    (fun os started H enc _ F => by rw [OpenClaim.pre_eq_preRow]; exact lifted os started H enc F)
/-- No parameter wants a stand-in; the program's own looks are off: what the card asks. -/
theorem plain (f : FuncId) (fn : Func) (hf : Tryz.pinned.checked.prog.funcNamed "tracings/tracelaw4.UnionTells" = some f) (hfn : Tryz.pinned.checked.prog.funcs[f]? = some fn) :
    false = Tryz.pinned.checked.prog.looks [] ∧ ∀ (j : Nat) t, fn.params[j]? = some t → Tryz.pinned.checked.prog.wantsStandIn t = false := by
  obtain rfl : f = 3 := Option.some.inj ((show Tryz.prog.funcNamed "tracings/tracelaw4.UnionTells" = some 3 by kernel_rfl).symm.trans hf) |>.symm
  obtain rfl : fn = Tryz.f3 := (Option.some.inj (Tryz.func3.symm.trans hfn)).symm
  refine ⟨by kernel_rfl, fun j t ht => ?_⟩
  rw [Tryz.params3] at ht
  have hmem := Array.mem_of_getElem? ht
  simp at hmem
  rcases hmem with rfl | rfl | rfl
  · exact (show Tryz.prog.wantsStandIn 26 = false by kernel_rfl)
  · exact (show Tryz.prog.wantsStandIn 28 = false by kernel_rfl)
  · exact (show Tryz.prog.wantsStandIn 9 = false by kernel_rfl)
end Go.Proofs.YtampldoimpfjgaaGreatDoor.unionTellsDone
namespace Go.Proofs.YtampldoimpfjgaaGreatDoor
/-- The statement's card. -/
theorem unionTellsUpto_card : Rows.UnionTellsUptoCardSaid :=
  Claim7.holds_tied_plain_at .later [] _ _ _ _ unionTellsDone.said (fun _ h => by cases h) (by kernel_rfl) (fun _ h => by cases h) unionTellsUpto_row_tie rfl ⟨rfl, rfl⟩ (by kernel_rfl) rfl unionTellsDone.plain (by kernel_rfl)
#print axioms unionTellsUpto_card
end Go.Proofs.YtampldoimpfjgaaGreatDoor
