/-
  slices.Insert of one entry into a row of the call's own, on: where there is no room; and all roads together.
-/
import Derived.Test.YtampldoimpfjgabGreatDoorTIns
namespace Go.Proofs.YtampldoimpfjgabGreatDoor
open Go.RowKit PM Go.Sort
set_option linter.unusedVariables false

theorem flat_take (l : List Ent) (i : Nat) : (l.flatMap encE).take (i * 4) = (l.take i).flatMap encE := by
  induction l generalizing i with
  | nil => simp
  | cons x r ih =>
    cases i with
    | zero => simp
    | succ i =>
      rw [List.flatMap_cons, List.take_succ_cons, List.flatMap_cons, List.take_append, encE_len, List.take_of_length_le (by rw [encE_len]; omega), show (i + 1) * 4 - 4 = i * 4 by omega, ih]
theorem setCells_drew (b : Nat) : ∀ (vs : List Value) (o : Nat) (w : World), (w.setCells b o vs).drew = w.drew.setCells b o vs
  | [], _, _ => rfl
  | v :: r, o, w => by rw [World.setCells, World.setCells, setCells_drew b r]; rfl
set_option maxHeartbeats 4000000 in
set_option maxRecDepth 100000 in
theorem insert_grow (l : List Ent) (e : Ent) (i g cap : Nat) (w : World) (hO : Own w g cap l) (vb : Nat) (hv : ∀ j u, (encE e)[j]? = some u → w.cell? ⟨vb, j, none⟩ = some u) (hi : i < l.length) (hroom : ¬ l.length + 1 ≤ cap) (hn : l.length ≤ 10000) :
    Calls Tryz.prog 43 #[.slice (some ⟨g, 0, none⟩) l.length cap, .int .i64 i, .slice (some ⟨vb, 0, none⟩) 1 1] w (InsPost (l.take i ++ e :: l.drop i) g w) := by
  obtain ⟨i0, hi0, hz0, hz1, hz2⟩ := info38
  have hlen := hO.len
  have hglt := hO.lt
  have hvlt : vb < w.heap.size := by
    have := hv 0 _ rfl
    rcases Nat.lt_or_ge vb w.heap.size with h' | h'
    · exact h'
    · simp [World.cell?, Array.getElem?_eq_none h'] at this
  have hold : (Builtin.firstCells i0.size i (.slice (some ⟨g, 0, none⟩) i cap)).run Tryz.prog w.drew = .ok ((l.take i).flatMap encE).toArray w.drew := by
    rw [hz1]
    exact run_firstCells_some w.drew 4 i ⟨g, 0, none⟩ i cap ((l.take i).flatMap encE) (by rw [flat_len, List.length_take]; omega) ((hO.take i).lies.flat (W := w.drew) ((Below.refl _ _).drew))
  have hrz0 := fun ty => Lib.run_append_grow_zeros (P := Tryz.prog) w 23 3 ty 28 i0 _ .i64 .i64 Tryz.underlying23 Tryz.underlying3 hi0 hz0 (some ⟨g, 0, none⟩) i cap ((l.take i).flatMap encE) hold (l.length + 1 - i) (by omega) (by omega) (by omega) (by omega) (by rw [hz2]; omega) (by rw [hz2]; exact growslice_fits (by omega) (by omega))
  rw [show i + (l.length + 1 - i) = l.length + 1 by omega, show ((l.length + 1 - i : Nat) : Int) = (l.length : Int) + 1 - (i : Int) by omega] at hrz0
  obtain ⟨G, hG⟩ : ∃ G, G = grownCap w (l.length + 1) cap 28 := ⟨_, rfl⟩
  obtain ⟨ROW, hROW⟩ : ∃ ROW : Array Value, ROW = ((l.take i).flatMap encE).toArray ++ Builtin.zeroCells (Value.agg #[.string ⟨#[]⟩, .int .i64 0, .string ⟨#[]⟩, .bool false]).cells (l.length + 1 - i) ++ Builtin.zeroCells (Value.agg #[.string ⟨#[]⟩, .int .i64 0, .string ⟨#[]⟩, .bool false]).cells (G - (l.length + 1)) := ⟨_, rfl⟩
  rw [← hG] at hrz0
  rw [← hROW] at hrz0
  have hGn : l.length + 1 ≤ G := by rw [hG]; exact grownCap_ge w _ _ _
  have hGm : G ≤ maxLen := by rw [hG]; exact grownCap_le_maxLen w _ _ _ (by unfold maxLen; omega)
  have hO1 : Own (w.drew.alloc (.cells ROW 28)) w.heap.size G (l.take i) := by
    refine own_alloc w.drew _ _ _ ?_ (by rw [List.length_take]; omega) hGm (fun k v hk => by rw [hROW, Array.append_assoc]; exact append_left hk)
    rw [hROW]
    simp only [Array.size_append, Value.cells, zero_size, List.size_toArray, flat_len, List.length_take]
    omega
  have hcellv : ∀ j u, (encE e)[j]? = some u → (w.drew.alloc (.cells ROW 28)).cell? ⟨vb, j, none⟩ = some u := fun j u hu => by
    rw [((Below.refl w.heap.size w).drew.alloc (Nat.le_refl _) _).cell (p := ⟨vb, j, none⟩) hvlt]; exact hv j u hu
  have hcellg : ∀ j u, ((l.drop i).flatMap encE)[j]? = some u → (w.drew.alloc (.cells ROW 28)).cell? ⟨g, i * 4 + j, none⟩ = some u := fun j u hu => by
    rw [((Below.refl w.heap.size w).drew.alloc (Nat.le_refl _) _).cell (p := ⟨g, i * 4 + j, none⟩) hglt]
    obtain ⟨a, x, b, h1, h2, rfl⟩ := flat_get hu
    rw [List.getElem?_drop] at h1
    rw [show i * 4 + (a * 4 + b) = (i + a) * 4 + b by omega]
    exact hO.cell h1 h2
  obtain ⟨W1, hW1⟩ : ∃ W1, W1 = w.drew.alloc (.cells ROW 28) := ⟨_, rfl⟩
  have hW1' : W1 = (w.alloc (.cells ROW 28)).drew := by rw [hW1]; rfl
  have hgb1 : w.grownBy W1 (some g) := by rw [hW1]; exact gby_below (gby_refl w _) ((Below.refl w.heap.size w).drew.alloc (Nat.le_refl _) _)
  rw [← hW1] at hrz0 hO1 hcellv hcellg
  have hli : (l.take i).length = i := by rw [List.length_take]; omega
  have hcpA : ∀ ty dc, (Builtin.copy_ #[23, 22] ty #[.slice (some ⟨w.heap.size, i * 4, none⟩) (l.length + 1 - i) dc, .slice (some ⟨vb, 0, none⟩) 1 1]).run Tryz.prog W1 = .ok (goInt 1) (W1.setCells w.heap.size (i * 4) (encE e)) := fun ty dc => by
    have := run_copy4 W1 23 22 ty Tryz.underlying23 w.heap.size (i * 4) (l.length + 1 - i) dc ⟨vb, 0, none⟩ 1 1 [e] (by simp only [Nat.min_def, List.length_singleton]; split <;> omega)
      (fun j v hj => by rw [Addr.add_lit, Nat.zero_add]; exact hcellv j v (by simpa using hj))
      (fun j hj => by simp at hj; exact hO1.there (by omega)) (fun j _ => hO1.frozen _)
    simpa using this
  have hO2 : Own (W1.setCells w.heap.size (i * 4) (encE e)) w.heap.size G (l.take i ++ [e]) := by
    have := hO1.over (ns := [e]) (j := i) (by omega) (by simp; omega)
    rw [List.take_of_length_le (by omega), List.drop_of_length_le (by simp [hli]), List.append_nil] at this
    simpa using this
  obtain ⟨W2, hW2⟩ : ∃ W2, W2 = W1.setCells w.heap.size (i * 4) (encE e) := ⟨_, rfl⟩
  have hcellg2 : ∀ j u, ((l.drop i).flatMap encE)[j]? = some u → W2.cell? ⟨g, i * 4 + j, none⟩ = some u := fun j u hu => by
    rw [hW2, World.cell?_setCells_out _ _ _ _ ⟨g, i * 4 + j, none⟩ (fun h _ => by simp at h; omega)]
    exact hcellg j u hu
  rw [← hW2] at hO2 hcpA
  have hcpB : ∀ ty dc sc, (Builtin.copy_ #[23, 23] ty #[.slice (some ⟨w.heap.size, (i + 1) * 4, none⟩) (l.length + 1 - (i + 1)) dc, .slice (some ⟨g, i * 4, none⟩) (l.length - i) sc]).run Tryz.prog W2.drew = .ok (goInt ((l.length - i : Nat) : Int)) (W2.drew.setCells w.heap.size ((i + 1) * 4) ((l.drop i).flatMap encE)) := fun ty dc sc => by
    have := run_copy4 W2.drew 23 23 ty Tryz.underlying23 w.heap.size ((i + 1) * 4) (l.length + 1 - (i + 1)) dc ⟨g, i * 4, none⟩ (l.length - i) sc (l.drop i) (by rw [List.length_drop]; simp only [Nat.min_def]; split <;> omega)
      (fun j v hj => by rw [Addr.add_lit]; exact hcellg2 j v hj)
      (fun j hj => by rw [List.length_drop] at hj; exact hO2.there (by omega)) (fun j _ => hO2.frozen _)
    rw [List.length_drop] at this
    exact this
  have HO : Aside (Own (W2.drew.setCells w.heap.size ((i + 1) * 4) ((l.drop i).flatMap encE)) w.heap.size G (l.take i ++ e :: l.drop i)) := by
    have := (hO2.kept (w' := W2.drew) rfl).over (ns := l.drop i) (j := i + 1) (by simp [hli]) (by rw [List.length_drop]; omega)
    have hd : (l.take i ++ [e]).drop (i + 1 + (l.drop i).length) = [] := List.drop_of_length_le (by simp [hli])
    rw [List.take_of_length_le (by simp [hli]), hd] at this
    show Own _ _ _ _
    simpa using this
  have HG : Aside (w.grownBy (W2.drew.setCells w.heap.size ((i + 1) * 4) ((l.drop i).flatMap encE)) (some g)) := by
    have key : ∀ (vs : List Value) (o : Nat) (W : World), w.grownBy W (some g) → w.grownBy (W.setCells w.heap.size o vs) (some g) := by
      intro vs
      induction vs with
      | nil => intro o W h; exact h
      | cons v r ih =>
        intro o W h
        exact ih (o + 1) _ ⟨h.os, h.tape, h.output, by simp [World.setCell]; exact h.size, fun k hk hnn => (Below.heap_setCell _ _ _ _ (by show k ≠ w.heap.size; omega)).trans (h.block k hk hnn)⟩
    refine key _ _ _ (gby_below (W := W2) ?_ (Below.refl _ _).drew)
    rw [hW2]; exact key _ _ _ hgb1
  have HN : Aside (l.length + 1 = (l.take i ++ e :: l.drop i).length) := by show _ = _; simp; omega
  generalize l.length = n at *
  have mixed : Tryz.prog.follows .mixedOrders = true := by kernel_rfl
  have hz2' : ((i : Int) == (n : Int)) = false := beq_eq_false_iff_ne.2 (by omega)
  have hz3 : (cap : Int) < (n : Int) + 1 := by omega
  have hw1 : IntKind.i64.wrap ((i : Int) + 1) = (i : Int) + 1 := by rw [IntKind.wrap_i64]; omega
  have hb1 : (0 : Int) ≤ (i : Int) + 1 := by omega
  have hin : i ≤ n := by omega
  have htn : ((i : Int) + 1).toNat = i + 1 := by omega
  have hb3 : (i : Int) ≤ (n : Int) := by omega
  have hGi : ¬ (G = i) := by omega
  have hGim : ¬ (G = i + 1) := by omega
  have hci : ¬ (cap = i) := by omega
  unfold maxLen at hGm
  have HD : Aside (W1 = w.drew.alloc (.cells ROW 28)) := hW1
  clear hO hO1 hO2 hcellv hcellg hcellg2 hold hROW hG hli hgb1 hW1 hW1' hW2 hv hi0 hz0 hz1 hz2
  go_enter Tryz.func43, Tryz.ntmps43
  go_wp2_with (first
    | (at_builtin; refine Lib.wpList_append_run _ rfl _ _ 23 3 rfl _ _ rfl rfl _ _ (hrz0 _) ?_)
    | (at_builtin; refine wpList_copy_runI _ rfl _ _ 23 22 rfl _ _ rfl rfl (hcpA _ _) ?_))
  go_region_law_o (refine step_copy_runI rfl _ _ 23 23 rfl (.slice (some ⟨w.heap.size, (i + 1) * 4, none⟩) (n + 1 - (i + 1)) (G - (i + 1))) (.slice (some ⟨g, i * 4, none⟩) (n - i) (cap - i)) (by simp [Act.eval, Act.put]) (by simp [Act.eval, Act.put]) (hcpB _ _ _) ?_)
  go_wp2
  go_ret
  exact ⟨w.heap.size, G, by rw [← HN.out]; rfl, HO.out, .inr (Nat.le_refl _), HG.out⟩

/-- All roads. -/
theorem insert_any (l : List Ent) (e : Ent) (i g cap : Nat) (w : World) (hO : Own w g cap l) (vb : Nat) (hb : w.heap[vb]? = some (.cells (encE e).toArray 28 (0, 0))) (hvb : vb ≠ g) (hi : i ≤ l.length) (hn : l.length ≤ 10000) :
    Calls Tryz.prog 43 #[.slice (some ⟨g, 0, none⟩) l.length cap, .int .i64 i, .slice (some ⟨vb, 0, none⟩) 1 1] w (InsPost (l.take i ++ e :: l.drop i) g w) := by
  have hv : ∀ j u, (encE e)[j]? = some u → w.cell? ⟨vb, j, none⟩ = some u := fun j u hu => by
    simp only [World.cell?, hb]
    simpa using hu
  by_cases h1 : i < l.length
  · by_cases h2 : l.length + 1 ≤ cap
    · exact insert_shift l e i g cap w hO vb hb hvb h1 h2 hn
    · exact insert_grow l e i g cap w hO vb hv h1 h2 hn
  · obtain rfl : i = l.length := by omega
    rw [List.take_length, List.drop_length]
    exact insert_end l e g cap w hO vb hv hn
end Go.Proofs.YtampldoimpfjgabGreatDoor
