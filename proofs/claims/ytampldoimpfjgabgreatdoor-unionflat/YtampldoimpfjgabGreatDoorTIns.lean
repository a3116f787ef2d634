/-
  slices.Insert of one entry into a row of the call's own.
-/
import Derived.Test.YtampldoimpfjgabGreatDoorTRem
import Derived.Shelf.Spec.SlicesInsertGrow
namespace Go.Proofs.YtampldoimpfjgabGreatDoor
open Go.RowKit PM Go.Sort
set_option linter.unusedVariables false

theorem own_alloc (w : World) (cs : Array Value) (cap : Nat) (l : List Ent) (hs : cs.size = cap * 4) (hl : l.length ≤ cap) (hm : cap ≤ maxLen) (hc : ∀ (k : Nat) (v : Value), (l.flatMap encE)[k]? = some v → cs[k]? = some v) : Own (w.alloc (.cells cs 28)) w.heap.size cap l :=
  ⟨cs, (by show (w.heap.push _)[w.heap.size]? = _; simp), hs, hl, hm, fun j e he i v hv => hc _ v (flat_at he hv)⟩
theorem zero_size (n : Nat) : (Builtin.zeroCells #[.string ⟨#[]⟩, .int .i64 0, .string ⟨#[]⟩, .bool false] n).size = n * 4 := by simp [Builtin.zeroCells]
theorem append_left {cs : List Value} {r : Array Value} {k : Nat} {v : Value} (h : cs[k]? = some v) : (cs.toArray ++ r)[k]? = some v := by
  have hk := (List.getElem?_eq_some_iff.1 h).1
  rw [Array.getElem?_append_left (by simpa using hk)]; simpa using h
/-- 'copy' of entries. -/
theorem run_copy4 (W : World) (dT sT ty : TypeId) (hu : Tryz.prog.underlying dT = some (.slice 28)) (g o dLen dCap : Nat) (a : Addr) (sLen sCap : Nat) (ns : List Ent) (hn : ns.length = Nat.min sLen dLen)
    (hsrc : ∀ j v, (ns.flatMap encE)[j]? = some v → W.cell? (a.add j) = some v) (hc : ∀ j, j < ns.length * 4 → (W.cell? ⟨g, o + j, none⟩).isSome = true) (hf : ∀ j, j < ns.length * 4 → W.frozen? ⟨g, o + j, none⟩ = false) :
    (Builtin.copy_ #[dT, sT] ty #[.slice (some ⟨g, o, none⟩) dLen dCap, .slice (some a) sLen sCap]).run Tryz.prog W = .ok (goInt ns.length) (W.setCells g o (ns.flatMap encE)) := by
  obtain ⟨i0, hi, hz0, hz1, hz2⟩ := info38
  have hl := run_loadCells_list (P := Tryz.prog) W a (ns.flatMap encE) hsrc
  have hst := run_storeCells_cells (P := Tryz.prog) g o (ns.flatMap encE) 0 W (fun j hj => by rw [flat_len] at hj; exact hc j hj) (fun j hj => by rw [flat_len] at hj; exact hf j hj) (fun v hv => flat_one hv)
  rw [flat_len] at hl
  simp [Builtin.copy_, run_underlying hu, Builtin.lenOf, Builtin.firstCells, sizeOf, typeInfo, hi, hz1, ← hn, hl, hst]

theorem run_append35 (l : List Ent) (e : Ent) (g cap : Nat) (w : World) (hO : Own w g cap l) (vb : Nat) (hv : ∀ j u, (encE e)[j]? = some u → w.cell? ⟨vb, j, none⟩ = some u) (hn : l.length ≤ 10000) :
    ∃ g' c' w', (∀ ty, (Builtin.append_ #[23, 22] ty #[.slice (some ⟨g, 0, none⟩) l.length cap, .slice (some ⟨vb, 0, none⟩) 1 1]).run Tryz.prog w = .ok (.slice (some ⟨g', 0, none⟩) (l.length + 1) c') w') ∧ Own w' g' c' (l ++ [e]) ∧ (g' = g ∨ w.heap.size ≤ g') ∧ w.grownBy w' (some g) := by
  obtain ⟨i0, hi, hz0, hz1, hz2⟩ := info38
  have hsrc : Src Tryz.prog i0.size 22 (.slice (some ⟨vb, 0, none⟩) 1 1) 1 (encE e) w := by
    rw [hz1]
    exact Src.ofSlice w Tryz.underlying22 ⟨vb, 0, none⟩ 1 1 (encE e) rfl (fun j u hj => by rw [Addr.add_lit, Nat.zero_add]; exact hv j u hj) (fun u hu => flat_one (t := [e]) (by simpa using hu))
  by_cases hroom : l.length + 1 ≤ cap
  · refine ⟨g, cap, w.setCells g (l.length * 4) (encE e), fun ty => ?_, ?_, .inl rfl, gby_setCells _ _ _ (gby_refl _ _)⟩
    · have := run_append_room_src (P := Tryz.prog) w 23 22 ty 28 i0 Tryz.underlying23 hi g 0 l.length cap _ 1 (encE e) hsrc hroom
        (fun j hj => by rw [hz1, Nat.zero_add]; rw [encE_len] at hj; exact hO.there (by omega)) (fun j _ => hO.frozen _)
      rw [hz1, Nat.zero_add] at this
      exact this
    · have := hO.over (ns := [e]) (j := l.length) (Nat.le_refl _) (by simpa using hroom)
      rw [List.take_length, List.drop_of_length_le (by simp), List.append_nil] at this
      simpa using this
  · have hold : (Builtin.firstCells i0.size l.length (.slice (some ⟨g, 0, none⟩) l.length cap)).run Tryz.prog w.drew = .ok (l.flatMap encE).toArray w.drew := by
      rw [hz1]
      exact run_firstCells_some w.drew 4 l.length ⟨g, 0, none⟩ l.length cap (l.flatMap encE) (flat_len l) (hO.lies.flat (W := w.drew) ((Below.refl _ _).drew))
    have hr := fun ty => run_append_grow_src (P := Tryz.prog) w 23 22 ty 28 i0 _ Tryz.underlying23 hi hz0 (some ⟨g, 0, none⟩) l.length cap (l.flatMap encE) hold _ 1 (encE e) hsrc (by omega) (by omega) (by rw [hz2]; exact growslice_fits (by omega) (by omega))
    refine ⟨_, _, _, hr, ?_, .inr (Nat.le_refl _), gby_below (gby_refl w _) (((Below.refl w.heap.size w).drew).alloc (Nat.le_refl _) _)⟩
    have hge := grownCap_ge w (l.length + 1) cap 28
    refine own_alloc w.drew _ _ _ ?_ (by simpa using hge) (grownCap_le_maxLen w _ _ _ (by unfold maxLen; omega)) (fun k v hk => append_left (by simpa using hk))
    rw [Array.size_append]
    simp only [Value.cells, zero_size, List.size_toArray, List.length_append, flat_len, encE_len]
    omega

theorem ins_list (l : List Ent) (e : Ent) (i : Nat) (hi : i < l.length) : (l.take (i + 1) ++ l.drop i).take i ++ [e] ++ (l.take (i + 1) ++ l.drop i).drop (i + 1) = l.take i ++ e :: l.drop i := by
  rw [List.take_append_of_le_length (by rw [List.length_take]; omega), List.take_take, Nat.min_eq_left (by omega), List.drop_append, List.length_take, Nat.min_eq_left (by omega), Nat.sub_self, List.drop_of_length_le (by rw [List.length_take]; omega)]
  simp
/-- There is room, and something stands behind: in place. -/
theorem own_shift {w : World} {g cap : Nat} {l : List Ent} (h : Own w g cap l) (e : Ent) {i : Nat} (hi : i < l.length) (hr : l.length + 1 ≤ cap) :
    Own ((w.setCells g ((i + 1) * 4) ((l.drop i).flatMap encE)).setCells g (i * 4) (encE e)) g cap (l.take i ++ e :: l.drop i) := by
  have h1 := h.over (ns := l.drop i) (j := i + 1) (by omega) (by rw [List.length_drop]; omega)
  have hz : l.drop (i + 1 + (l.drop i).length) = [] := List.drop_of_length_le (by rw [List.length_drop]; omega)
  rw [hz, List.append_nil] at h1
  have h2 := h1.over (ns := [e]) (j := i) (by simp; omega) (by simp; omega)
  rw [List.length_singleton, ins_list l e i hi] at h2
  simpa using h2

def InsPost (l : List Ent) (g : Nat) (w : World) (r : Ending) (w' : World) : Prop :=
  ∃ g' c', r = .returned (.slice (some ⟨g', 0, none⟩) l.length c') ∧ Own w' g' c' l ∧ (g' = g ∨ w.heap.size ≤ g') ∧ w.grownBy w' (some g)
set_option maxHeartbeats 4000000 in
set_option maxRecDepth 100000 in
theorem insert_end (l : List Ent) (e : Ent) (g cap : Nat) (w : World) (hO : Own w g cap l) (vb : Nat) (hv : ∀ j u, (encE e)[j]? = some u → w.cell? ⟨vb, j, none⟩ = some u) (hn : l.length ≤ 10000) :
    Calls Tryz.prog 43 #[.slice (some ⟨g, 0, none⟩) l.length cap, .int .i64 l.length, .slice (some ⟨vb, 0, none⟩) 1 1] w (InsPost (l ++ [e]) g w) := by
  obtain ⟨g', c', w', hr, hO', hg', hgb⟩ := run_append35 l e g cap w hO vb hv hn
  have hcap := hO.len
  have hc63 := hO.max
  unfold maxLen at hc63
  have HN : Aside (l.length + 1 = (l ++ [e]).length) := by show _ = _; simp
  clear hO hv
  generalize l.length = n at *
  go_enter Tryz.func43, Tryz.ntmps43
  go_wp2_with (at_builtin; refine Lib.wpList_append_run _ rfl _ _ _ _ rfl _ _ rfl rfl _ _ (hr _) ?_)
  all_goals go_ret
  all_goals exact ⟨g', c', by rw [← HN.out]; rfl, hO', hg', hgb⟩

theorem shape_of {w : World} {b : Nat} {cs : Array Value} {t : TypeId} {f : Nat × Nat} (h : w.heap[b]? = some (.cells cs t f)) : w.shape? b = some (t, cs.size) := by simp [World.shape?, h]
theorem own_shape {w : World} {g cap : Nat} {l : List Ent} (h : Own w g cap l) : w.shape? g = some (28, cap * 4) := by
  obtain ⟨cur, hc, hs, _⟩ := h
  rw [shape_of hc, hs]
set_option maxHeartbeats 4000000 in
set_option maxRecDepth 100000 in
theorem insert_shift (l : List Ent) (e : Ent) (i g cap : Nat) (w : World) (hO : Own w g cap l) (vb : Nat) (hb : w.heap[vb]? = some (.cells (encE e).toArray 28 (0, 0))) (hvb : vb ≠ g) (hi : i < l.length) (hroom : l.length + 1 ≤ cap) (hn : l.length ≤ 10000) :
    Calls Tryz.prog 43 #[.slice (some ⟨g, 0, none⟩) l.length cap, .int .i64 i, .slice (some ⟨vb, 0, none⟩) 1 1] w (InsPost (l.take i ++ e :: l.drop i) g w) := by
  have hc63 := hO.max
  unfold maxLen at hc63
  have hov : ∀ lb cb, (callFunc 80 #[.slice (some ⟨vb, 0, none⟩) 1 1, .slice (some ⟨g, (i + 1) * 4, none⟩) lb cb]).run Tryz.prog w = .ok (.value (.bool false)) w := fun lb cb => by
    rw [run_callFunc_extern Tryz.func80 (by kernel_rfl) (by kernel_rfl) (by kernel_rfl) (e := Extern.SlicesOverlaps.overlaps #[22, 22] #[4]) (by kernel_rfl),
      Lib.run_overlaps_apart w 22 4 28 Tryz.underlying22 4 Tryz.sizeOf28 ⟨vb, 0, none⟩ ⟨g, (i + 1) * 4, none⟩ 1 1 lb cb hvb 28 28 4 (cap * 4) (shape_of hb) (own_shape hO) (by omega) (by simp [World.frozen?, hb]) (by simp [World.frozen?, hb])]
    rfl
  have hcp1 : ∀ ty dc sc, (Builtin.copy_ #[23, 23] ty #[.slice (some ⟨g, (i + 1) * 4, none⟩) (l.length + 1 - (i + 1)) dc, .slice (some ⟨g, i * 4, none⟩) (l.length + 1 - i) sc]).run Tryz.prog w.drew = .ok (goInt (l.drop i).length) (w.drew.setCells g ((i + 1) * 4) ((l.drop i).flatMap encE)) := fun ty dc sc =>
    run_copy4 w.drew _ _ ty Tryz.underlying23 g ((i + 1) * 4) _ dc ⟨g, i * 4, none⟩ _ sc (l.drop i) (by rw [List.length_drop]; simp only [Nat.min_def]; split <;> omega)
      (fun j v hj => by
        obtain ⟨a, x, b, h1, h2, rfl⟩ := flat_get hj
        rw [List.getElem?_drop] at h1
        rw [Addr.add_lit, show i * 4 + (a * 4 + b) = (i + a) * 4 + b by omega]
        exact hO.cell h1 h2)
      (fun j hj => by rw [List.length_drop] at hj; exact hO.there (by omega)) (fun j _ => hO.frozen _)
  have hO1 : Own (w.drew.setCells g ((i + 1) * 4) ((l.drop i).flatMap encE)) g cap (l.take (i + 1)) := ((hO.kept (w' := w.drew) rfl).take (i + 1)).beyond (by rw [List.length_take]; omega)
  have hcell1 : ∀ j u, (encE e)[j]? = some u → (w.drew.setCells g ((i + 1) * 4) ((l.drop i).flatMap encE)).cell? ⟨vb, j, none⟩ = some u := fun j u hu => by
    rw [World.cell?_setCells_out g _ _ _ ⟨vb, j, none⟩ (fun h _ => absurd h hvb)]
    simp only [World.cell?, World.drew, hb]
    simpa using hu
  obtain ⟨W1, hW1⟩ : ∃ W1, W1 = w.drew.setCells g ((i + 1) * 4) ((l.drop i).flatMap encE) := ⟨_, rfl⟩
  have HO : Aside (Own (W1.setCells g (i * 4) (encE e)) g cap (l.take i ++ e :: l.drop i)) := by rw [hW1]; exact own_shift (hO.kept (w' := w.drew) rfl) e hi hroom
  have HG : Aside (w.grownBy (W1.setCells g (i * 4) (encE e)) (some g)) := by rw [hW1]; exact gby_setCells _ _ _ (gby_setCells _ _ _ (gby_below (gby_refl w _) (Below.refl _ _).drew))
  rw [← hW1] at hcp1 hO1 hcell1
  have hcp2 : ∀ (W : World), (∀ x, W.cell? x = W1.cell? x) → (∀ x, W.frozen? x = W1.frozen? x) → ∀ ty dc, (Builtin.copy_ #[23, 22] ty #[.slice (some ⟨g, i * 4, none⟩) (l.length + 1 - i) dc, .slice (some ⟨vb, 0, none⟩) 1 1]).run Tryz.prog W = .ok (goInt 1) (W.setCells g (i * 4) (encE e)) := fun W hWc hWf ty dc => by
    have := run_copy4 W 23 22 ty Tryz.underlying23 g (i * 4) (l.length + 1 - i) dc ⟨vb, 0, none⟩ 1 1 [e] (by simp only [Nat.min_def, List.length_singleton]; split <;> omega)
      (fun j v hj => by rw [Addr.add_lit, Nat.zero_add, hWc]; exact hcell1 j v (by simpa using hj))
      (fun j hj => by rw [hWc]; simp at hj; exact hO1.there (by omega)) (fun j _ => by rw [hWf]; exact hO1.frozen _)
    simpa using this
  have HN : Aside (l.length + 1 = (l.take i ++ e :: l.drop i).length) := by show _ = _; simp; omega
  have hdl : (l.drop i).length = l.length - i := List.length_drop ..
  rw [hdl] at hcp1
  generalize l.length = n at *
  have mixed : Tryz.prog.follows .mixedOrders = true := by kernel_rfl
  have hz2 : ¬ ((i : Int) = (n : Int)) := by omega
  have hw1 : IntKind.i64.wrap ((i : Int) + 1) = (i : Int) + 1 := by rw [IntKind.wrap_i64]; omega
  have hb1 : (0 : Int) ≤ (i : Int) + 1 := by omega
  have hin : i ≤ n := by omega
  have htn : ((i : Int) + 1).toNat = i + 1 := by omega
  have hb2 : ¬ (cap = i + 1) := by omega
  have hb3 : (i : Int) ≤ (n : Int) + 1 := by omega
  have hb4 : ¬ (cap = i) := by omega
  clear hO hO1 hcell1 hdl hb hW1 
  go_enter Tryz.func43, Tryz.ntmps43
  go_wp2_with (simp only [hov])
  go_region_law_o (refine step_copy_runI rfl _ _ 23 23 rfl (.slice (some ⟨g, (i + 1) * 4, none⟩) (n + 1 - (i + 1)) (cap - (i + 1))) (.slice (some ⟨g, i * 4, none⟩) (n + 1 - i) (cap - i)) (by simp [Act.eval, Act.put]) (by simp [Act.eval, Act.put]) (hcp1 _ _ _) ?_)
  go_wp2_with (at_builtin; refine wpList_copy_runI _ rfl _ _ 23 22 rfl _ _ rfl rfl (hcp2 _ (fun _ => rfl) (fun _ => rfl) _ _) ?_)
  go_ret
  exact ⟨g, cap, by rw [← HN.out]; rfl, HO.out, .inl rfl, HG.out⟩
end Go.Proofs.YtampldoimpfjgabGreatDoor
