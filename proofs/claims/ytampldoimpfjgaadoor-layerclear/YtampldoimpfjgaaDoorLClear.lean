/-
  The walk of the statement LayerClear: it answers true, and writes nothing that was there.
-/
import Derived.Test.YtampldoimpfjgaaDoorLParts
import Derived.Deep.RegionLaw
import Derived.Deep.RegionWith
namespace Go.Proofs.YtampldoimpfjgaaDoor
open Go.RowKit PM Go.Sort
set_option linter.unusedVariables false

/-- Merge of the layers with a clear one between them. -/
abbrev MgK (w : World) (up dn : List Lay) (er : Int) (l : List Ent) : Prop := ∀ W v p c base, Below w.heap.size w W → RowsT W base v (up ++ [⟨p, c, []⟩] ++ dn) → Calls Tryd.prog 48 #[v] W (TreePost er l W)
abbrev OvC (w : World) (p : Option Addr) (n cap : Nat) (er : Int) (l : List Ent) : Prop := ∀ W, Below w.heap.size w W → Calls Tryd.prog 46 #[.slice p n cap, .slice none 0 0] W (TreePost er l W)
abbrev WrC (w : World) (p : Option Addr) (n cap : Nat) (f1 f2 : Int) : Prop := ∀ W, Below w.heap.size w W → Calls Tryd.prog 29 #[.slice p n cap] W fun r w' => r = .returned (.agg #[.int .i64 f1, .int .i64 f2]) ∧ Below W.heap.size W w'
abbrev AlC (w : World) : Prop := Calls Tryd.prog 50 #[] w fun e w' => e = .returned (.bool true) ∧ Below w.heap.size w w'
theorem step_lays {ops : Array Oper} {o : Oper} {a : Act} {K : Act → World → Prop} {Q : Exit → Act → World → Prop} {E : Prop} {X : World} (hgd : o.guard = none) (s x : Operand)
    (ho : o.op = .call { callee := .builtin .append, args := #[s, x], argTypes := #[54, 54] }) (base : Nat) (v : Value) (l : List Lay) (hs : a.eval s = v) (hrow : RowsT X base v l) (hlen : l.length ≤ 80) (hbase : base ≤ X.heap.size)
    (p : Option Addr) (n cap : Nat) (t : List Lay) (hx : a.eval x = .slice p n cap) (hn : n = t.length) (hL : t = [] ∨ ∃ ad, p = some ad ∧ ∀ j y, t[j]? = some y → X.cell? (ad.add j) = some y.v) (hnil : p = none → cap = 0) (h80 : n ≤ 80)
    (h : ∀ v' w', RowsT w' base v' (l ++ t) → Below base X w' → (∀ ad : Addr, ad.block < X.heap.size → (∀ g, v.ownBlock = some g → ad.block ≠ g) → w'.cell? ad = X.cell? ad) → K (a.put o.dst v') w') :
    if Region.wanted o (yielded ops a.tmps) = true then Oper.wp Tryd.prog o a X K Q else E := by
  have hw : Region.wanted o (yielded ops a.tmps) = true := by simp [Region.wanted, hgd]
  rw [if_pos hw]
  obtain ⟨i0, hi, hz0, hz1, hz2⟩ := infoT
  cases p with
  | none =>
    obtain rfl : cap = 0 := hnil rfl
    have ht : t = [] := by
      rcases hL with h | ⟨ad, he, _⟩
      · exact h
      · cases he
    subst ht
    obtain rfl : n = 0 := hn
    have hrun := run_append_owned_none (P := Tryd.prog) (w := X) base 54 o.type 36 i0 1 Tryd.underlying54 hi v l.length (l.map Lay.v) hrow
    unfold Oper.wp execOp
    simp only [ho, resolve, invoke, builtin, Sem.run_bind, Sem.run_pure, Result.andThen_ok, List.map_toArray, List.map_cons, List.map_nil, hs, hx, hrun]
    exact h v X (by rw [List.append_nil]; exact hrow) (Below.refl _ _) (fun _ _ _ => rfl)
  | some ad =>
    refine wp_append_own X s x 54 ho base 36 i0 _ 1 24 Tryd.underlying54 hi hz0 hz1 hz2 rfl (by decide) v l.length (l.map Lay.v) hs hrow ad n cap (t.map Lay.v) hx (by rw [List.length_map, hn]; omega) (fun j u hu => ?_) (fun u hu => ?_) (by unfold maxLen; omega) (by omega) hbase ?_
    · rw [List.getElem?_map] at hu
      obtain ⟨y, hy, rfl⟩ := Option.map_eq_some_iff.1 hu
      rcases hL with h | ⟨ad', he, hc⟩
      · rw [h] at hy; simp at hy
      · cases he
        exact hc j y hy
    · obtain ⟨y, _, rfl⟩ := List.mem_map.1 hu
      rfl
    · intro v' w' hown hg _
      refine h v' w' ?_ ((Below.refl base X).grown hg hbase (fun j hj => (World.ownsRow.lt hrow j hj).1)) (fun ad' had hne => World.cell?_of_block (hg.block _ had (fun e => hne _ e.symm rfl)))
      unfold RowsT
      rw [List.length_append, List.map_append, ← hn]
      exact hown
set_option maxHeartbeats 4000000 in
set_option maxRecDepth 100000 in
theorem clear_E (p : Option Addr) (n cap : Nat) (at' : Int) (pt : Option Addr) (nt capt : Nat) (w : World) (hal : AlC w) (er : Int) (hmg : MgC w p n cap er []) (h0 : ¬ er = 0) :
    Calls Tryd.prog 12 #[.slice p n cap, .int .i64 at', .slice pt nt capt] w (fun r w' => r = .returned (.bool true) ∧ Below w.heap.size w w') := by
  go_enter Tryd.func12, Tryd.ntmps12
  go_wp2_with (first
    | (go_at_call 50; refine hal.mono ?_; clear hal; rintro e w1 ⟨rfl, hB⟩)
    | (go_at_call 48; refine (hmg _ hB).mono ?_; clear hmg; rintro e w2 ⟨pa, ca, rfl, hLa, hca, hna, hN⟩; replace hB := Below.onto hB hN; clear hN hca hna))
  go_ret
  exact ⟨rfl, hB⟩
set_option maxHeartbeats 4000000 in
set_option maxRecDepth 100000 in
theorem clear_N (p : Option Addr) (n cap : Nat) (at' : Int) (pt : Option Addr) (nt capt : Nat) (w : World) (hal : AlC w) (allL : List Ent) (hmg : MgC w p n cap 0 allL) (h0 : at' < 0) :
    Calls Tryd.prog 12 #[.slice p n cap, .int .i64 at', .slice pt nt capt] w (fun r w' => r = .returned (.bool true) ∧ Below w.heap.size w w') := by
  go_enter Tryd.func12, Tryd.ntmps12
  go_wp2_with (first
    | (go_at_call 50; refine hal.mono ?_; clear hal; rintro e w1 ⟨rfl, hB⟩)
    | (go_at_call 48; refine (hmg _ hB).mono ?_; clear hmg; rintro e w2 ⟨pa, ca, rfl, hLa, hca, hna, hN⟩; replace hB := Below.onto hB hN; clear hN hca hna))
  go_ret
  exact ⟨rfl, hB⟩
set_option maxHeartbeats 4000000 in
set_option maxRecDepth 100000 in
theorem clear_G (p : Option Addr) (n cap : Nat) (at' : Int) (pt : Option Addr) (nt capt : Nat) (w : World) (hal : AlC w) (allL : List Ent) (hmg : MgC w p n cap 0 allL) (h0 : ¬ at' < 0) (h1 : (n : Int) < at') :
    Calls Tryd.prog 12 #[.slice p n cap, .int .i64 at', .slice pt nt capt] w (fun r w' => r = .returned (.bool true) ∧ Below w.heap.size w w') := by
  go_enter Tryd.func12, Tryd.ntmps12
  go_wp2_with (first
    | (go_at_call 50; refine hal.mono ?_; clear hal; rintro e w1 ⟨rfl, hB⟩)
    | (go_at_call 48; refine (hmg _ hB).mono ?_; clear hmg; rintro e w2 ⟨pa, ca, rfl, hLa, hca, hna, hN⟩; replace hB := Below.onto hB hN; clear hN hca hna))
  go_ret
  exact ⟨rfl, hB⟩
set_option maxHeartbeats 4000000 in
set_option maxRecDepth 100000 in
theorem clear_M (p : Option Addr) (n cap : Nat) (at' : Int) (pt : Option Addr) (nt capt : Nat) (w : World) (hal : AlC w) (allL : List Ent) (hmg : MgC w p n cap 0 allL) (h0 : ¬ at' < 0) (h1 : ¬ (n : Int) < at') (h2 : (4 : Int) < (n : Int)) :
    Calls Tryd.prog 12 #[.slice p n cap, .int .i64 at', .slice pt nt capt] w (fun r w' => r = .returned (.bool true) ∧ Below w.heap.size w w') := by
  go_enter Tryd.func12, Tryd.ntmps12
  go_wp2_with (first
    | (go_at_call 50; refine hal.mono ?_; clear hal; rintro e w1 ⟨rfl, hB⟩)
    | (go_at_call 48; refine (hmg _ hB).mono ?_; clear hmg; rintro e w2 ⟨pa, ca, rfl, hLa, hca, hna, hN⟩; replace hB := Below.onto hB hN; clear hN hca hna))
  go_ret
  exact ⟨rfl, hB⟩
theorem lt_dr {X : World} {a : Nat} (h : a < X.heap.size) : a < X.drew.heap.size := h
theorem cell_dr {W : World} {a : Addr} {v : Value} (h : W.cell? a = some v) : W.drew.cell? a = some v := h
theorem RowsT.drew {w : World} {b : Nat} {v : Value} {ls : List Lay} (h : RowsT w b v ls) : RowsT w.drew b v ls := h
theorem cell_top (W : World) (H : Nat) (hH : H = W.heap.size) (v : Value) (T : TypeId) : (W.alloc (.cells #[v] T)).cell? ⟨H, 0, none⟩ = some v := by subst hH; simp
theorem cell_next (W : World) (o : Obj) {a : Addr} {v : Value} (h : W.cell? a = some v) : (W.alloc o).cell? a = some v := Lib.cell?_alloc_some o h
theorem old_cell {G : Prop} {X W : World} {c e : Nat} (h : W.cell? ⟨c, 0, none⟩ = X.cell? ⟨c, 0, none⟩) (hx : X.cell? ⟨c, 0, none⟩ = some (.slice (some ⟨e, 0, none⟩) 0 0)) (k : W.cell? ⟨c, 0, none⟩ = some (.slice (some ⟨e, 0, none⟩) 0 0) → G) : G := k (h.trans hx)
theorem old_lay {X : World} {c : Nat} (y : Lay) (_v : Unit) (h : X.cell? ⟨c, 0, none⟩ = some (.slice y.ad y.es.length y.cap)) : [y] = [] ∨ ∃ ad, some (⟨c, 0, none⟩ : Addr) = some ad ∧ ∀ j z, [y][j]? = some z → X.cell? (ad.add j) = some z.v := by
  refine .inr ⟨_, rfl, fun j z hz => ?_⟩
  cases j with
  | zero => simp at hz; subst hz; rw [Addr.add_lit]; exact h
  | succ j => simp at hz
end Go.Proofs.YtampldoimpfjgaaDoor
