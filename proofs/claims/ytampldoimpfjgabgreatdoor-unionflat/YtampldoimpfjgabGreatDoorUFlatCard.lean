/-
  Proved: for every union, entry and two paths the statement UnionFlat (chapter 4: two unions of which the same is seen show the same behind the same change, where there is room) returns true, and its arguments read afterwards as before.
  Conditions: the form's own (each string and slice within the form's reach); the two tables of unicode/utf8 that the row lists hold what the program's text lays: the card ties them. No condition of the prover's own.
-/
import Derived.Test.YtampldoimpfjgabGreatDoorUE
import Derived.Test.YtampldoimpfjgabGreatDoorUOpen
import Derived.Test.YtampldoimpfjgabGreatDoorCards
import Derived.Test.YtampldoimpfjgabGreatDoorTie
import Derived.Shelf.LaysM
namespace Go.Proofs.YtampldoimpfjgabGreatDoor.unionFlatDone
open Go.ChangeShapes Go.WideShapes Go.ChangeAt Go.RowKit PM
open Go.ChangeMaps (open_string shut_string)

theorem own : ownKnob Tryz.prog.godebug = none := by kernel_rfl
theorem maxLen_cell (w : World) (h : w.ShapedOpen Tryz.prog) : ∃ m, w.cell? ⟨0, 0, none⟩ = some (.int .i64 m) :=
  Go.Proofs.cell_of_shapedOpen_int (zero := #[.int .i64 0]) (t := 3) h (of_decide_eq_true (by kernel_rfl)) (by kernel_rfl) rfl (by kernel_rfl) (by kernel_rfl) Tryz.underlying3
theorem laidOut : laidOutB Tryz.prog = true := by kernel_rfl

set_option maxRecDepth 100000 in
theorem contract (H : Type) (enc : TypeId × Value → H) (W : World) (base : Nat) (args : Array Value) (ds gs : List (DataW H)) (before : List MemPlace)
    (hval : ∀ (j : Nat) t v, Tryz.f6.params[j]? = some t → args[j]? = some v → Value.okWide Tryz.prog W .any base t v)
    (hW : DataW.Whole enc Tryz.prog Tryz.f6.params.toList Rows.unionFlatSpec.vars false W args.toList ds gs before)
    (hz : (DataW.weightsEach Tryz.prog (Tryz.f6.params.toList ++ Rows.unionFlatSpec.plain.varTypes Tryz.prog) (ds ++ gs)).all (· ≤ reachBytes) = true) (hSh : W.ShapedOpen Tryz.prog) :
    Calls Tryz.prog 6 args W fun e W' => ∃ v, e = .returned v ∧ Rows.unionFlatSpec.post enc Tryz.prog Tryz.f6 false true false false W args v W' := by
  have hW' := hW
  obtain ⟨p, q, hA0, hV, rfl, hfz, hnd⟩ := hW
  have hA : DataW.TrodAll enc Tryz.prog W 0 (fun _ => true) true Tryz.f6.params.toList args.toList ds p := hA0
  rw [Tryz.params6] at hA hval hz
  obtain ⟨v0, vs0, d0, ds0, p0, q0, hargs, rfl, rfl, h0, r0⟩ := trodAll_cons hA
  obtain ⟨v1, vs1, d1, ds1, p1, q1, rfl, rfl, rfl, h1, r1⟩ := trodAll_cons r0
  obtain ⟨v2, vs2, d2, ds2, p2, q2, rfl, rfl, rfl, h2, r2⟩ := trodAll_cons r1
  obtain ⟨v3, vs3, d3, ds3, p3, q3, rfl, rfl, rfl, h3, r3⟩ := trodAll_cons r2
  obtain ⟨rfl, rfl, rfl⟩ := trodAll_nil r3
  obtain rfl : args = #[v0, v1, v2, v3] := by cases args; simp_all
  obtain ⟨rfl, rfl⟩ := trodVars_none hV
  simp only [List.append_nil] at hW' hz
  have hlt0 : ∀ x ∈ p0, x.block < W.heap.size := fun x hx => hW'.lt x (by simp [hx])
  have hlt1 : ∀ x ∈ p1, x.block < W.heap.size := fun x hx => hW'.lt x (by simp [hx])
  obtain ⟨y, ls, pl, cl, rfl, hy, hT, hOK, hcap, hnil, dd0, dd1, hd0, hD0, hD1⟩ := open_union (hval 0 26 v0 rfl rfl) h0
  have hUn : UnOK W y ls pl cl := union_ok hy hT hOK hcap hnil hD0 hD1 (fun x hx => by
    have := List.all_eq_true.1 hz x (DataW.weights_mem_each (j := 0) (t := 26) (d := d0) rfl rfl x (by rw [hd0]; exact hx))
    simpa using this)
  obtain ⟨e, rfl, he, het, hd1⟩ := open_entry_arg (hval 1 28 v1 rfl rfl) h1
  obtain ⟨qq, rfl, rfl, rfl, hqq⟩ := open_string Tryz.underlying9 (hval 2 9 v2 rfl rfl) h2
  obtain ⟨other, rfl, rfl, rfl, hot⟩ := open_string Tryz.underlying9 (hval 3 9 v3 rfl rfl) h3
  have he62 : e.path.size < 4611686018427387904 := by
    have hmem : e.path.data.toList.length ∈ d1.weights Tryz.prog 28 := by rw [hd1]; simp [DataW.weights, DataW.weightsEach, Tryz.underlying28]
    have := List.all_eq_true.1 hz _ (DataW.weights_mem_each (j := 1) (t := 28) (d := d1) rfl rfl _ hmem)
    have h47 := reachBytes_lt
    simp only [szl, decide_eq_true_eq] at this
    omega
  clear hA0
  obtain ⟨m, hm⟩ := maxLen_cell W hSh
  refine (unionFlat_law y ls m pl cl e qq other W hUn he he62 het hqq hot hm).mono fun e W' ⟨he, bel⟩ => ?_
  subst he
  exact ⟨_, rfl, _, _, _, [], p0 ++ (p1 ++ ([] ++ ([] ++ []))), [], hW', trodAll_cons_mk (shut_bool Tryz.underlying4 _) trodAll_mk0,
    trodAll_cons_mk (Below.trod laidOut (by kernel_rfl) (of_decide_eq_true (by kernel_rfl)) h0 bel hlt0) (trodAll_cons_mk (Below.trod laidOut (by kernel_rfl) (of_decide_eq_true (by kernel_rfl)) h1 bel hlt1) (trodAll_cons_mk (shut_string Tryz.underlying9 hqq) (trodAll_cons_mk (shut_string Tryz.underlying9 hot) trodAll_mk0))), rfl, bel.frame _, fun h => by cases h⟩
/-- The tables of unicode/utf8 as the program's text lays them. -/
def lay1 : Obj → Obj
  | .cells _ t frozen => .cells (Pinned.utf8FirstZ.map fun (n : Nat) => Value.int .u8 n).toArray t frozen
  | o => o
def lay2 : Obj → Obj
  | .cells _ t frozen => .cells (([128, 191, 160, 191, 128, 159, 144, 191, 128, 143] ++ List.replicate 22 0).map fun (n : Nat) => Value.int .u8 n).toArray t frozen
  | o => o
noncomputable def laidWorld (os : Os) : World :=
  { World.holding Tryz.prog os ⟨#[], #[], []⟩ with heap := ((World.holding Tryz.prog os ⟨#[], #[], []⟩).heap.modify 1 lay1).modify 2 lay2 }
theorem laid_met (os : Os) : laidMet Tryz.prog Rows.unionFlatRow.laid ((laidWorld os).forCall (fun _ _ => 0) ⟨#[], #[.agg #[.slice none 0 0, .slice none 0 0], .agg #[.string ByteArray.empty, .int .i64 0, .string ByteArray.empty, .bool false], .string ByteArray.empty, .string ByteArray.empty], []⟩).memory :=
  laidMet_of_run' 8 (by kernel_rfl) (by kernel_rfl)
theorem reads (os : Os) {H : Type} (enc : TypeId × Value → H) : ∃ places, DataW.whole enc Tryz.prog ((laidWorld os).forCall (fun _ _ => 0) ⟨#[], #[.agg #[.slice none 0 0, .slice none 0 0], .agg #[.string ByteArray.empty, .int .i64 0, .string ByteArray.empty, .bool false], .string ByteArray.empty, .string ByteArray.empty], []⟩).memory Tryz.f6.params.toList Rows.unionFlatSpec.vars false #[Value.agg #[.slice none 0 0, .slice none 0 0], Value.agg #[.string ByteArray.empty, .int .i64 0, .string ByteArray.empty, .bool false], Value.string ByteArray.empty, Value.string ByteArray.empty].toList 8 = some ([.agg [.nil, .nil], .agg [.lit (.string []), .lit (.int .i64 0), .lit (.string []), .lit (.bool false)], .lit (.string []), .lit (.string [])], [], places) :=
  ⟨[], by kernel_rfl⟩
set_option maxRecDepth 100000 in
theorem lifted (os : Os) (started : os.Started) (H : Type) (enc : TypeId × Value → H) (F : Stop.Interp) :
    ReturnsInHanded {} Tryz.checked os 6 .any ((OpenSpec.ofChange Rows.unionFlatSpec).preRow enc Tryz.prog Tryz.f6 Rows.unionFlatRow.domain false Rows.unionFlatRow.laid) (((OpenSpec.ofChange Rows.unionFlatSpec).at F).post enc Tryz.prog Tryz.f6 false true false false) := by
  obtain ⟨places, hx⟩ := reads os enc
  refine returnsInHanded_of_row (C := Tryz.checked) (s := OpenSpec.ofChange Rows.unionFlatSpec) own started (by kernel_rfl) Tryz.func6
    (witness_row_at (enc := enc) (C := Tryz.checked) false (laidWorld os) #[.agg #[.slice none 0 0, .slice none 0 0], .agg #[.string ByteArray.empty, .int .i64 0, .string ByteArray.empty, .bool false], .string ByteArray.empty, .string ByteArray.empty] rfl (by kernel_rfl) (by kernel_rfl) (by kernel_rfl)
      (OpenSpec.preRow_of_cond 8 hx (by kernel_rfl) (fun k hk => by cases hk) (by kernel_rfl) (laid_met os))) ?_
  intro W base args ds gs before hval hW _ _ hz _ hSh _
  exact contract H enc W base args ds gs before hval hW hz hSh
theorem said : Rows.UnionFlatSaid :=
  OpenClaim.holds_of_cond 6 Tryz.f6 rfl rfl rfl rfl rfl rfl rfl ⟨rfl, rfl, rfl, rfl, rfl⟩ rfl rfl rfl rfl rfl (by kernel_rfl) Tryz.func6 (by kernel_rfl)
    (of_decide_eq_true (by kernel_rfl)) (by unfold Func.isWrapper; first | (rw [if_pos (by decide +kernel)]; kernel_rfl) | (rw [if_neg (by decide +kernel)]; exact ⟨rfl, rfl⟩))
    (fun os started H enc _ F => by rw [OpenClaim.pre_eq_preRow]; exact lifted os started H enc F)
/-- No parameter wants a stand-in; the program's own looks are off: what the card asks. -/
theorem plain (f : FuncId) (fn : Func) (hf : Tryz.pinned.checked.prog.funcNamed "tracings/tracelaw4.UnionFlat" = some f) (hfn : Tryz.pinned.checked.prog.funcs[f]? = some fn) :
    false = Tryz.pinned.checked.prog.looks [] ∧ ∀ (j : Nat) t, fn.params[j]? = some t → Tryz.pinned.checked.prog.wantsStandIn t = false := by
  obtain rfl : f = 6 := Option.some.inj ((show Tryz.prog.funcNamed "tracings/tracelaw4.UnionFlat" = some 6 by kernel_rfl).symm.trans hf) |>.symm
  obtain rfl : fn = Tryz.f6 := (Option.some.inj (Tryz.func6.symm.trans hfn)).symm
  refine ⟨by kernel_rfl, fun j t ht => ?_⟩
  rw [Tryz.params6] at ht
  have hmem := Array.mem_of_getElem? ht
  simp at hmem
  rcases hmem with rfl | rfl | rfl
  · exact (show Tryz.prog.wantsStandIn 26 = false by kernel_rfl)
  · exact (show Tryz.prog.wantsStandIn 28 = false by kernel_rfl)
  · exact (show Tryz.prog.wantsStandIn 9 = false by kernel_rfl)
end Go.Proofs.YtampldoimpfjgabGreatDoor.unionFlatDone
namespace Go.Proofs.YtampldoimpfjgabGreatDoor
/-- The statement's card. -/
theorem unionFlat_card : Rows.UnionFlatCardSaid :=
  Claim7.holds_tied_plain_at .later [] _ _ _ _ unionFlatDone.said (fun _ h => by cases h) (by kernel_rfl) (fun _ h => by cases h) unionFlat_row_tie rfl ⟨rfl, rfl⟩ (by kernel_rfl) rfl unionFlatDone.plain (by kernel_rfl)
#print axioms unionFlat_card
end Go.Proofs.YtampldoimpfjgabGreatDoor
