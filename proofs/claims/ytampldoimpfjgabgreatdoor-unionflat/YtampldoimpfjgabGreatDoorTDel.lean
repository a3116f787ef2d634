/-
  slices.DeleteFunc over a row of the call's own; tree.without.
-/
import Derived.Test.YtampldoimpfjgabGreatDoorTOwn
namespace Go.Proofs.YtampldoimpfjgabGreatDoor
open Go.RowKit PM Go.Sort
set_option linter.unusedVariables false

theorem zero38 (w : World) : (zeroValue 28).run Tryz.prog w = .ok (.agg #[.string ⟨#[]⟩, .int .i64 0, .string ⟨#[]⟩, .bool false]) w := by
  first | exact Tryz.zeroValue28 w | kernel_rfl | simp [go_sem]
theorem clear_own {w : World} {g cap : Nat} {l : List Ent} (h : Own w g cap l) {i n c : Nat} (hn : 0 < n) (hi : i + n ≤ cap) :
    ∃ zs, ∀ ty, (Builtin.clear_ #[23] ty #[.slice (some ⟨g, i * 4, none⟩) n c]).run Tryz.prog w = .ok (.tuple #[]) (w.setCells g (i * 4) zs) := by
  refine ⟨(Builtin.zeroCells #[.string ⟨#[]⟩, .int .i64 0, .string ⟨#[]⟩, .bool false] n).toList, fun ty => ?_⟩
  have hlen : (Builtin.zeroCells #[.string ⟨#[]⟩, .int .i64 0, .string ⟨#[]⟩, .bool false] n).toList.length = n * 4 := by simp [Builtin.zeroCells]
  have hst := run_storeCells_cells (P := Tryz.prog) g (i * 4) (Builtin.zeroCells #[.string ⟨#[]⟩, .int .i64 0, .string ⟨#[]⟩, .bool false] n).toList 0 w
    (fun j hj => by rw [hlen] at hj; exact h.there (by omega)) (fun j _ => h.frozen _) (fun v hv => by
      simp only [Builtin.zeroCells, Array.toList_map, List.mem_map] at hv
      obtain ⟨k, _, rfl⟩ := hv
      have : k % 4 < 4 := Nat.mod_lt _ (by decide)
      show (#[Value.string ⟨#[]⟩, .int .i64 0, .string ⟨#[]⟩, .bool false][k % 4]!).oneCell' = true
      generalize k % 4 = r at this
      match r, this with
      | 0, _ => rfl
      | 1, _ => rfl
      | 2, _ => rfl
      | 3, _ => rfl)
  obtain ⟨m, rfl⟩ : ∃ m, n = m + 1 := ⟨n - 1, by omega⟩
  have hst' : (storeCells ⟨g, i * 4, none⟩ (Builtin.zeroCells #[.string ⟨#[]⟩, .int .i64 0, .string ⟨#[]⟩, .bool false] (m + 1)).toList).run Tryz.prog w = .ok () (w.setCells g (i * 4) (Builtin.zeroCells #[.string ⟨#[]⟩, .int .i64 0, .string ⟨#[]⟩, .bool false] (m + 1)).toList) := hst
  simp [Builtin.clear_, run_underlying Tryz.underlying23, Value.cells, hst']

/-- What is kept of the row's first j entries lies at its head. -/
structure DelInv (pr : Ent → Bool) (l : List Ent) (w : World) (g cap i j : Nat) (dk : List Ent) (W : World) : Prop where
  own : Own W g cap dk
  len : dk.length = l.length
  head : dk.take i = (l.take j).filter fun x => !pr x
  tail : dk.drop j = l.drop j
  gby : w.grownBy W (some g)
theorem DelInv.at {pr : Ent → Bool} {l : List Ent} {w : World} {g cap i j : Nat} {dk : List Ent} {W : World} (h : DelInv pr l w g cap i j dk W) {y : Ent} (hy : l[j]? = some y) : dk[j]? = some y := by
  have := congrArg (·[0]?) h.tail
  simpa [List.getElem?_drop, hy] using this
theorem take_step {l : List Ent} {j : Nat} {y : Ent} (hy : l[j]? = some y) : l.take (j + 1) = l.take j ++ [y] := by
  obtain ⟨h1, h2⟩ := List.getElem?_eq_some_iff.1 hy
  rw [List.take_succ_eq_append_getElem h1, h2]
theorem DelInv.skip {pr : Ent → Bool} {l : List Ent} {w : World} {g cap i j : Nat} {dk : List Ent} {W W2 : World} (h : DelInv pr l w g cap i j dk W) {y : Ent} (hy : l[j]? = some y) (hp : pr y = true) (hG : Grown W W2) : DelInv pr l w g cap i (j + 1) dk W2 :=
  ⟨h.own.grown hG, h.len, by rw [take_step hy, List.filter_append, h.head]; simp [hp], by have := congrArg (·.drop 1) h.tail; simpa [List.drop_drop] using this, gby_grown h.gby hG⟩
theorem DelInv.keep {pr : Ent → Bool} {l : List Ent} {w : World} {g cap i j : Nat} {dk : List Ent} {W W2 : World} (h : DelInv pr l w g cap i j dk W) {y : Ent} (hy : l[j]? = some y) (hp : pr y = false) (hG : Grown W W2) (hij : i < j) :
    DelInv pr l w g cap (i + 1) (j + 1) (dk.set i y) ((((W2.setCell ⟨g, i * 4, none⟩ (.string y.path)).setCell ⟨g, i * 4 + 1, none⟩ (.int .i64 y.kind)).setCell ⟨g, i * 4 + 2, none⟩ (.string y.text)).setCell ⟨g, i * 4 + 3, none⟩ (.bool y.opq)) := by
  have hj := (List.getElem?_eq_some_iff.1 hy).1
  have hi : i < dk.length := by rw [h.len]; omega
  refine ⟨(h.own.grown hG).set hi y, by rw [List.length_set, h.len], ?_, ?_, gby_set (gby_set (gby_set (gby_set (gby_grown h.gby hG) _ _) _ _) _ _) _ _⟩
  · rw [take_step hy, List.filter_append, ← h.head, take_step (y := y) (by rw [List.getElem?_set, if_pos rfl, if_pos hi])]
    rw [List.take_set_of_le (Nat.le_refl _)]
    simp [hp]
  · have := congrArg (·.drop 1) h.tail
    rw [List.drop_set_of_lt (by omega)]
    simpa [List.drop_drop] using this

theorem IdxPost.parts {pr : Ent → Bool} {t : List Ent} {w w' : World} {r : Ending} {n : Nat} (hn : n = t.length) (h : IdxPost pr t w r w') :
    Grown w w' ∧ ((r = .returned (.int .i64 (-1)) ∧ ∀ x ∈ t, pr x = false) ∨ ∃ (k : Nat) (y : Ent), k < n ∧ t[k]? = some y ∧ r = .returned (.int .i64 k) ∧ pr y = true ∧ ∀ x ∈ t.take k, pr x = false) := by
  obtain ⟨h1, h2 | ⟨k, y, h3, h4⟩⟩ := h
  · exact ⟨h1, .inl h2⟩
  · exact ⟨h1, .inr ⟨k, y, by rw [hn]; exact (List.getElem?_eq_some_iff.1 h3).1, h3, h4⟩⟩
set_option maxHeartbeats 4000000 in
theorem delete_any (pr : Ent → Bool) (gf : Nat) (lb : Array Value) (eg : ∀ args w, (callFunc gf args).run Tryz.prog w = .ok (.enter gf args) w) (l : List Ent) (g cap : Nat) (w : World) (hO : Own w g cap l) (hn : l.length < 4611686018427387904)
    (hp : ∀ W x, w.grownBy W (some g) → x ∈ l → Calls Tryz.prog gf (#[.agg #[.string x.path, .int .i64 x.kind, .string x.text, .bool x.opq]] ++ lb) W fun e w' => e = .returned (.bool (pr x)) ∧ Grown W w') :
    Calls Tryz.prog 82 #[.slice (some ⟨g, 0, none⟩) l.length cap, .func (.func gf) #[] lb] w fun e w' =>
      e = .returned (.slice (some ⟨g, 0, none⟩) (l.filter fun x => !pr x).length cap) ∧ Own w' g cap (l.filter fun x => !pr x) ∧ w.grownBy w' (some g) := by
  have hI := index_any pr gf lb eg l (some ⟨g, 0, none⟩) cap w hO.lies hn (fun W x hG hx => hp W x (gby_grown (gby_refl w _) hG) hx)
  have HO : Aside (Own w g cap l) := hO
  have HP : Aside _ := hp
  have hcap : l.length ≤ cap := hO.len
  have hc63 := hO.max
  unfold maxLen at hc63
  clear hp hO
  obtain ⟨n, hnl⟩ : ∃ n, n = l.length := ⟨_, rfl⟩
  have HN : Aside (n = l.length) := hnl
  rw [← hnl] at hn hcap hI ⊢
  clear hnl
  go_enter Tryz.func82, Tryz.ntmps82
  go_wp2_with (go_at_call 118; refine hI.mono ?_; clear hI; intro e w1 hIP; rcases IdxPost.parts HN.out hIP with ⟨hG, ⟨rfl, ha⟩ | ⟨k0, y0, hk0, hy0, rfl, hpy0, ha⟩⟩ <;> clear hIP)
  · go_ret
    have hf : (l.filter fun x => !pr x) = l := List.filter_eq_self.2 fun x hx => by simp [ha x hx]
    rw [hf]
    exact ⟨by rw [← HN.out]; rfl, HO.out.grown hG, gby_grown (gby_refl w _) hG⟩
  · have HI0 : Aside (DelInv pr l w g cap k0 (k0 + 1) l w1) := ⟨HO.out.grown hG, rfl, by rw [take_step hy0, List.filter_append, List.filter_eq_self.2 (fun x hx => by simp [ha x hx])]; simp [hpy0], rfl, gby_grown (gby_refl w _) hG⟩
    clear hy0 ha hG
    have hne1 : ((k0 : Int) == -1) = false := beq_eq_false_iff_ne.2 (by omega)
    go_wp2
    go_loopg [5, 6, 7] n (fun gg s5 s6 _ wr => ∃ (i j : Nat) (dk : List Ent), s5 = .int .i64 i ∧ s6 = .int .i64 j ∧ i < j ∧ j ≤ n ∧ n - j ≤ gg ∧ Aside (DelInv pr l w g cap i j dk wr))
    case atStart => exact ⟨k0, k0 + 1, l, rfl, by go_num, by omega, by omega, by omega, HI0.out⟩
    case round =>
      obtain ⟨i, j, dk, rfl, rfl, hij, hjn, hgg, INV⟩ := hrel
      have hglt := INV.out.own.lt
      have hne : g ≠ wr.heap.size := by omega
      by_cases hlt : j < n
      · have hltz : (j : Int) < (n : Int) := by omega
        obtain ⟨y, hy⟩ : ∃ y, l[j]? = some y := ⟨_, List.getElem?_eq_getElem (by have := HN.out; omega)⟩
        have HY : Aside (l[j]? = some y) := hy
        obtain ⟨⟨c0, c1, c2, c3⟩, _⟩ := INV.out.own.cells (INV.out.at hy)
        have hcall := HP.out _ y (gby_alloc INV.out.gby (.cells #[.string y.path, .int .i64 y.kind, .string y.text, .bool y.opq] 28)) (List.mem_of_getElem? hy)
        obtain ⟨z, hz⟩ : ∃ z, dk[i]? = some z := ⟨_, List.getElem?_eq_getElem (by rw [INV.out.len]; have := HN.out; omega)⟩
        have HZ : Aside (dk[i]? = some z) := hz
        clear hy hz
        cases hq : pr y with
        | true =>
          rw [hq] at hcall
          go_wp2_with (go_at_fn gf; refine hcall.mono ?_; clear hcall; rintro e w2 ⟨rfl, hG2⟩)
          go_roundg (n - (j + 1))
          case measure => omega
          case rel => exact ⟨i, j + 1, dk, rfl, by go_num, by omega, by omega, Nat.le_refl _, INV.out.skip HY.out hq (((Grown.refl wr).alloc _).trans hG2)⟩
        | false =>
          rw [hq] at hcall
          go_wp2_with (go_at_fn gf; refine hcall.mono ?_; clear hcall; rintro e w2 ⟨rfl, hG2⟩; obtain ⟨⟨b0, b1, b2, b3⟩, _⟩ := new4 (by simp) hG2.below; obtain ⟨⟨a0, a1, a2, a3⟩, ⟨f0, f1, f2, f3⟩⟩ := (INV.out.own.grown (((Grown.refl wr).alloc _).trans hG2)).cells HZ.out)
          go_roundg (n - (j + 1))
          case measure => omega
          case rel => exact ⟨i + 1, j + 1, dk.set i y, by go_num, by go_num, by omega, by omega, Nat.le_refl _, INV.out.keep HY.out hq (((Grown.refl wr).alloc _).trans hG2) hij⟩
      · obtain rfl : j = n := by omega
        have hltz : ¬ (j : Int) < (j : Int) := by omega
        obtain ⟨zs, hzs⟩ := clear_own INV.out.own (i := i) (n := j - i) (c := cap - i) (by omega) (by omega)
        have hic : ¬ cap = i := by omega
        go_wp2
        go_ret
        have hf : (l.filter fun x => !pr x) = dk.take i := by rw [INV.out.head, HN.out, List.take_length]
        have hl : (dk.take i).length = i := by rw [List.length_take, INV.out.len]; have := HN.out; omega
        rw [hf, hl]
        exact ⟨rfl, (INV.out.own.take i).beyond (by rw [hl]; exact Nat.le_refl _), gby_setCells _ _ _ INV.out.gby⟩

theorem withoutP_any (e : Ent) (q : ByteArray) (B : Nat) (w : World) (hB : B < w.heap.size) (hc : w.cell? ⟨B, 0, none⟩ = some (.string q)) :
    Calls Tryz.prog 88 #[.agg #[.string e.path, .int .i64 e.kind, .string e.text, .bool e.opq], .pointer (some ⟨B, 0, none⟩)] w fun r w' => r = .returned (.bool (decide (e.p = q.data.toList))) ∧ Grown w w' := by
  have hne : B ≠ w.heap.size := by omega
  have HE : Aside ((e.path.toList == q.toList) = decide (e.p = q.data.toList)) := by
    show _ = _
    rw [Lib.toList_data, Lib.toList_data, Bool.eq_iff_iff]; simp [Ent.p]
  go_enter Tryz.func88, Tryz.ntmps88
  go_wp2
  go_ret
  exact ⟨ret_bool HE.out, (Grown.refl w).alloc _⟩
end Go.Proofs.YtampldoimpfjgabGreatDoor
