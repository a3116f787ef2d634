/-
  Proved: for every list of layers, every number and every tree the statement LayerClear (chapter 3: a clear layer is none; a tree as a layer over nothing is it) returns true, and its arguments read afterwards as before.
  Conditions: the form's own (each string and slice within the form's reach); the two tables of unicode/utf8 that the row lists hold what the program's text lays: the card ties them. No condition of the prover's own.
-/
import Derived.Test.YtampldoimpfjgaaDoorLClear3
import Derived.Test.YtampldoimpfjgaaDoorLOpen
import Derived.Test.YtampldoimpfjgaaDoorCards
import Derived.Test.YtampldoimpfjgaaDoorTie
import Derived.Shelf.LaysM
namespace Go.Proofs.YtampldoimpfjgaaDoor.clearDone
open Go.ChangeShapes Go.WideShapes Go.ChangeAt Go.RowKit PM
open Go.ChangeMaps (open_string shut_string)

theorem own : ownKnob Tryd.prog.godebug = none := by kernel_rfl
theorem maxLen_cell (w : World) (h : w.ShapedOpen Tryd.prog) : ∃ m, w.cell? ⟨0, 0, none⟩ = some (.int .i64 m) :=
  Go.Proofs.cell_of_shapedOpen_int (zero := #[.int .i64 0]) (t := 3) h (of_decide_eq_true (by kernel_rfl)) (by kernel_rfl) rfl (by kernel_rfl) (by kernel_rfl) Tryd.underlying3
theorem laidOut : laidOutB Tryd.prog = true := by kernel_rfl

set_option maxRecDepth 100000 in
theorem contract (H : Type) (enc : TypeId × Value → H) (W : World) (base : Nat) (args : Array Value) (ds gs : List (DataW H)) (before : List MemPlace)
    (hval : ∀ (j : Nat) t v, Tryd.f12.params[j]? = some t → args[j]? = some v → Value.okWide Tryd.prog W .any base t v)
    (hW : DataW.Whole enc Tryd.prog Tryd.f12.params.toList Rows.layerClearSpec.vars false W args.toList ds gs before)
    (hz : (DataW.weightsEach Tryd.prog (Tryd.f12.params.toList ++ Rows.layerClearSpec.plain.varTypes Tryd.prog) (ds ++ gs)).all (· ≤ reachBytes) = true) (hSh : W.ShapedOpen Tryd.prog) :
    Calls Tryd.prog 12 args W fun e W' => ∃ v, e = .returned v ∧ Rows.layerClearSpec.post enc Tryd.prog Tryd.f12 false true false false W args v W' := by
  have hW' := hW
  obtain ⟨p, q, hA0, hV, rfl, hfz, hnd⟩ := hW
  have hA : DataW.TrodAll enc Tryd.prog W 0 (fun _ => true) true Tryd.f12.params.toList args.toList ds p := hA0
  rw [Tryd.params12] at hA hval hz
  obtain ⟨v0, vs0, d0, ds0, p0, q0, hargs, rfl, rfl, h0, r0⟩ := trodAll_cons hA
  obtain ⟨v1, vs1, d1, ds1, p1, q1, rfl, rfl, rfl, h1, r1⟩ := trodAll_cons r0
  obtain ⟨v2, vs2, d2, ds2, p2, q2, rfl, rfl, rfl, h2, r2⟩ := trodAll_cons r1
  obtain ⟨rfl, rfl, rfl⟩ := trodAll_nil r2
  obtain rfl : args = #[v0, v1, v2] := by cases args; simp_all
  obtain ⟨rfl, rfl⟩ := trodVars_none hV
  simp only [List.append_nil] at hW' hz
  have hlt0 : ∀ x ∈ p0, x.block < W.heap.size := fun x hx => hW'.lt x (by simp [hx])
  have hlt1 : ∀ x ∈ p1, x.block < W.heap.size := fun x hx => hW'.lt x (by simp [hx])
  have hlt2 : ∀ x ∈ p2, x.block < W.heap.size := fun x hx => hW'.lt x (by simp [hx])
  obtain ⟨a0, len0, cap0, rfl⟩ := okWide_slice Tryd.underlying54 (hval 0 54 v0 rfl rfl)
  obtain ⟨pl, capl, ls, hvv, hT, hOK, hcap, hnil, hd0⟩ := open_layers h0 rfl
  simp only [Value.slice.injEq] at hvv
  obtain ⟨rfl, rfl, rfl⟩ := hvv
  obtain ⟨at', rfl⟩ := okWide_int Tryd.underlying3 (hval 1 3 v1 rfl rfl)
  obtain ⟨a2, len2, cap2, rfl⟩ := okWide_slice Tryd.underlying36 (hval 2 36 v2 rfl rfl)
  obtain ⟨pt, capt, t, hvt, hLt, hFt, hcapt, hnilt, hd2⟩ := open_tree h2 rfl
  simp only [Value.slice.injEq] at hvt
  obtain ⟨rfl, rfl, rfl⟩ := hvt
  have hb : Tryd.prog.bytesOf 38 = 48 := by kernel_rfl
  have hnt : t.length < 4611686018427387904 := by
    rcases hd2 with ⟨_, rfl⟩ | ⟨el, sp, hd2, hle⟩
    · decide
    · have := sized_slice (j := 2) hz rfl (by rw [hd2]; rfl) Tryd.underlying36
      rw [hb] at this
      have := reachBytes_lt
      omega
  have hOK' : ∀ x ∈ ls, LayOK W x := fun x hx => by
    obtain ⟨g1, g2, g3⟩ := hOK x hx
    refine ⟨g1, g2, g3, ?_⟩
    rcases hd0 with ⟨_, rfl⟩ | ⟨el, sp, hd0, hle, he⟩
    · simp at hx
    · obtain ⟨j, hj⟩ := List.getElem?_of_mem hx
      obtain ⟨dx, hdx, hD⟩ := he j x hj
      rcases hD with ⟨_, h⟩ | ⟨el2, sp2, hdd, hl2, _⟩
      · rw [h]; decide
      · have hmem : (el2.length + sp2.length) * Tryd.prog.bytesOf 38 ∈ d0.weights Tryd.prog 54 := by
          rw [hd0]
          simp only [DataW.weights, Tryd.underlying54]
          refine List.mem_cons_of_mem _ (List.mem_append.2 (.inl (weights_all (List.mem_of_getElem? hdx) ?_)))
          rw [hdd]
          simp [DataW.weights, Tryd.underlying36]
        have := List.all_eq_true.1 hz _ (DataW.weights_mem_each (j := 0) (t := 54) (d := d0) rfl rfl _ hmem)
        have h47 := reachBytes_lt
        rw [hb] at this
        simp only [decide_eq_true_eq] at this
        omega
  clear hA0
  obtain ⟨m, hm⟩ := maxLen_cell W hSh
  refine (clear_walk ls at' t m _ _ _ _ W hT hOK' hcap hnil hLt hFt hnt hcapt hm).mono fun e W' ⟨he, bel⟩ => ?_
  subst he
  exact ⟨_, rfl, _, _, _, [], p0 ++ (p1 ++ (p2 ++ [])), [], hW', trodAll_cons_mk (shut_bool Tryd.underlying4 _) trodAll_mk0,
    trodAll_cons_mk (Below.trod laidOut (by kernel_rfl) (of_decide_eq_true (by kernel_rfl)) h0 bel hlt0) (trodAll_cons_mk (Below.trod laidOut (by kernel_rfl) (of_decide_eq_true (by kernel_rfl)) h1 bel hlt1) (trodAll_cons_mk (Below.trod laidOut (by kernel_rfl) (of_decide_eq_true (by kernel_rfl)) h2 bel hlt2) trodAll_mk0)), rfl, bel.frame _, fun h => by cases h⟩
/-- The tables of unicode/utf8 as the program's text lays them. -/
def lay1 : Obj → Obj
  | .cells _ t frozen => .cells (Pinned.utf8FirstZ.map fun (n : Nat) => Value.int .u8 n).toArray t frozen
  | o => o
def lay2 : Obj → Obj
  | .cells _ t frozen => .cells (([128, 191, 160, 191, 128, 159, 144, 191, 128, 143] ++ List.replicate 22 0).map fun (n : Nat) => Value.int .u8 n).toArray t frozen
  | o => o
noncomputable def laidWorld (os : Os) : World :=
  { World.holding Tryd.prog os ⟨#[], #[], []⟩ with heap := ((World.holding Tryd.prog os ⟨#[], #[], []⟩).heap.modify 1 lay1).modify 2 lay2 }
theorem laid_met (os : Os) : laidMet Tryd.prog Rows.layerClearRow.laid ((laidWorld os).forCall (fun _ _ => 0) ⟨#[], #[.slice none 0 0, .int .i64 0, .slice none 0 0], []⟩).memory :=
  laidMet_of_run' 8 (by kernel_rfl) (by kernel_rfl)
theorem reads (os : Os) {H : Type} (enc : TypeId × Value → H) : ∃ places, DataW.whole enc Tryd.prog ((laidWorld os).forCall (fun _ _ => 0) ⟨#[], #[.slice none 0 0, .int .i64 0, .slice none 0 0], []⟩).memory Tryd.f12.params.toList Rows.layerClearSpec.vars false #[Value.slice none 0 0, Value.int .i64 0, Value.slice none 0 0].toList 8 = some ([.nil, .lit (.int .i64 0), .nil], [], places) :=
  ⟨[], by kernel_rfl⟩
set_option maxRecDepth 100000 in
theorem lifted (os : Os) (started : os.Started) (H : Type) (enc : TypeId × Value → H) (F : Stop.Interp) :
    ReturnsInHanded {} Tryd.checked os 12 .any ((OpenSpec.ofChange Rows.layerClearSpec).preRow enc Tryd.prog Tryd.f12 Rows.layerClearRow.domain false Rows.layerClearRow.laid) (((OpenSpec.ofChange Rows.layerClearSpec).at F).post enc Tryd.prog Tryd.f12 false true false false) := by
  obtain ⟨places, hx⟩ := reads os enc
  refine returnsInHanded_of_row (C := Tryd.checked) (s := OpenSpec.ofChange Rows.layerClearSpec) own started (by kernel_rfl) Tryd.func12
    (witness_row_at (enc := enc) (C := Tryd.checked) false (laidWorld os) #[.slice none 0 0, .int .i64 0, .slice none 0 0] rfl (by kernel_rfl) (by kernel_rfl) (by kernel_rfl)
      (OpenSpec.preRow_of_cond 8 hx (by kernel_rfl) (fun k hk => by cases hk) (by kernel_rfl) (laid_met os))) ?_
  intro W base args ds gs before hval hW _ _ hz _ hSh _
  exact contract H enc W base args ds gs before hval hW hz hSh
theorem said : Rows.LayerClearSaid :=
  OpenClaim.holds_of_cond 12 Tryd.f12 rfl rfl rfl rfl rfl rfl rfl ⟨rfl, rfl, rfl, rfl, rfl⟩ rfl rfl rfl rfl rfl (by kernel_rfl) Tryd.func12 (by kernel_rfl)
    (of_decide_eq_true (by kernel_rfl)) (by unfold Func.isWrapper; first | (rw [if_pos (by decide +kernel)]; kernel_rfl) | (rw [if_neg (by decide +kernel)]; exact ⟨rfl, rfl⟩))
    (fun os started H enc _ F => by rw [OpenClaim.pre_eq_preRow]; exact lifted os started H enc F)
/-- No parameter wants a stand-in; the program's own looks are off: what the card asks. -/
theorem plain (f : FuncId) (fn : Func) (hf : Tryd.pinned.checked.prog.funcNamed "tracings/tracelaw3.LayerClear" = some f) (hfn : Tryd.pinned.checked.prog.funcs[f]? = some fn) :
    false = Tryd.pinned.checked.prog.looks [] ∧ ∀ (j : Nat) t, fn.params[j]? = some t → Tryd.pinned.checked.prog.wantsStandIn t = false := by
  obtain rfl : f = 12 := Option.some.inj ((show Tryd.prog.funcNamed "tracings/tracelaw3.LayerClear" = some 12 by kernel_rfl).symm.trans hf) |>.symm
  obtain rfl : fn = Tryd.f12 := (Option.some.inj (Tryd.func12.symm.trans hfn)).symm
  refine ⟨by kernel_rfl, fun j t ht => ?_⟩
  rw [Tryd.params12] at ht
  have hmem := Array.mem_of_getElem? ht
  simp at hmem
  rcases hmem with rfl | rfl | rfl
  · exact (show Tryd.prog.wantsStandIn 54 = false by kernel_rfl)
  · exact (show Tryd.prog.wantsStandIn 3 = false by kernel_rfl)
  · exact (show Tryd.prog.wantsStandIn 36 = false by kernel_rfl)
end Go.Proofs.YtampldoimpfjgaaDoor.clearDone
namespace Go.Proofs.YtampldoimpfjgaaDoor
/-- The statement's card. -/
theorem layerClear_card : Rows.LayerClearCardSaid :=
  Claim7.holds_tied_plain_at .later [] _ _ _ _ clearDone.said (fun _ h => by cases h) (by kernel_rfl) (fun _ h => by cases h) layerClear_row_tie rfl ⟨rfl, rfl⟩ (by kernel_rfl) rfl clearDone.plain (by kernel_rfl)
#print axioms layerClear_card
end Go.Proofs.YtampldoimpfjgaaDoor
