/-
  layer.own and layer.through: what a layer itself shows, and what is seen through it.
-/
import Derived.Test.YtampldoimpfjgabGreatDoorLWalks1
import Derived.Test.YtampldoimpfjgabGreatDoorTRows
import Derived.Test.YtampldoimpfjgabGreatDoorTGet
namespace Go.Proofs.YtampldoimpfjgabGreatDoor
open Go.RowKit PM Go.Sort
set_option linter.unusedVariables false

theorem own_step {t : List Ent} {k : Nat} {y : Ent} (hy : t[k]? = some y) : ownL (t.take (k + 1)) = ownL (t.take k) ++ (if y.kind = 4 then [] else [clearE y]) := by
  unfold ownL
  rw [take_step hy, List.filter_append, List.map_append]
  by_cases h1 : y.kind = 4 <;> simp [h1]
theorem own_take_len (t : List Ent) (k : Nat) : (ownL (t.take k)).length ≤ k := by
  unfold ownL
  rw [List.length_map]
  refine Nat.le_trans (List.length_filter_le _ _) ?_
  rw [List.length_take]; exact Nat.min_le_left _ _
set_option maxHeartbeats 4000000 in
set_option maxRecDepth 100000 in
theorem own_any (t : List Ent) (p : Option Addr) (cap : Nat) (w : World) (hL : Lies w p t) (hn80 : t.length ≤ 80) :
    Calls Tryz.prog 150 #[.slice p t.length cap] w (RowsPost (ownL t) w) := by
  have HL : Aside (Lies w p t) := hL
  obtain ⟨n, hnl⟩ : ∃ n, n = t.length := ⟨_, rfl⟩
  have HN : Aside (n = t.length) := hnl
  rw [← hnl] at hn80 ⊢
  clear hnl hL
  go_enter Tryz.func150, Tryz.ntmps150
  go_wp2
  go_loopg [3, 8] n (fun gg v i wr => ∃ (k : Nat) (l : List Ent), k ≤ n ∧ n - k ≤ gg ∧ i = .int .i64 k ∧ l.length ≤ k ∧ Aside (Rows wr w.heap.size v l) ∧ Aside (Below w.heap.size w wr) ∧ Aside (l = ownL (t.take k)))
  case atStart => exact ⟨0, [], Nat.zero_le _, by omega, rfl, Nat.le_refl _, Rows.nil _ _, Below.refl _ _, rfl⟩
  case round =>
    obtain ⟨k, l, hk, hgg, rfl, hbl, ST, BW, NM⟩ := hrel
    by_cases hlt : k < n
    · have hltz : (k : Int) < (n : Int) := by omega
      obtain ⟨y, hy⟩ : ∃ y, t[k]? = some y := ⟨_, List.getElem?_eq_getElem (by have := HN.out; omega)⟩
      have HY : Aside (t[k]? = some y) := hy
      rcases HL.out with h0 | ⟨b, off, rfl, hb, hc⟩
      · rw [h0] at hy; simp at hy
      obtain ⟨c0, c1, c2, c3⟩ := Lies.cells hc hb BW.out hy
      clear hc hy
      have hws : w.heap.size ≤ wr.heap.size := BW.out.size
      by_cases hk4 : y.kind = 4
      · have HS : Aside (ownL (t.take (k + 1)) = l) := by show _ = _; rw [own_step HY.out, if_pos hk4, List.append_nil, NM.out]
        go_wp2
        go_roundg (n - (k + 1))
        case measure => omega
        case rel => exact ⟨k + 1, l, by omega, by omega, by go_num, by omega, ST.out.below ((Grown.refl wr).alloc _).below, BW.out.alloc BW.out.size _, HS.out.symm⟩
      · have HS : Aside (ownL (t.take (k + 1)) = l ++ [clearE y]) := by show _ = _; rw [own_step HY.out, if_neg hk4, NM.out]
        have HA : Aside (Below wr.heap.size wr (wr.alloc (.cells #[.string y.path, .int .i64 y.kind, .string y.text, .bool false] 28))) := ((Grown.refl wr).alloc _).below
        have hR1 := ST.out.below HA.out
        go_wp2_with (at_builtin; refine append_row (wr.alloc (.cells #[.string y.path, .int .i64 y.kind, .string y.text, .bool false] 28)) (clearE y) rfl _ _ rfl w.heap.size _ l rfl hR1 (by omega) (by simp; omega) _ (by simp) rfl ?_; clear hR1; intro v4 w4 hR4 hB4 hC4 hs4; have HR4 : Aside (Rows w4 w.heap.size v4 (l ++ [clearE y])) := hR4; have HB4 : Aside (Below w.heap.size w w4) := (Below.onto BW.out HA.out).trans hB4; clear hR4 hB4 hC4)
        go_roundg (n - (k + 1))
        case measure => omega
        case rel => exact ⟨k + 1, l ++ [clearE y], by omega, by omega, by go_num, by simp; omega, HR4.out, HB4.out, HS.out.symm⟩
    · have hltz : ¬ (k : Int) < (n : Int) := by omega
      have HE : Aside (ownL t = l) := by
        show _ = _
        rw [NM.out, List.take_of_length_le (by have := HN.out; omega)]
      go_wp2
      go_ret
      exact ⟨⟨_, rfl, by rw [HE.out]; exact ST.out⟩, BW.out⟩

theorem thru_step {l t : List Ent} {k : Nat} {y : Ent} (hy : t[k]? = some y) : thruL l (t.take (k + 1)) = thruL l (t.take k) ++ (if seenThru l y then [y] else []) := by
  unfold thruL
  rw [take_step hy, List.filter_append]
  cases h1 : seenThru l y <;> simp [h1]
theorem thru_take_len (l t : List Ent) (k : Nat) : (thruL l (t.take k)).length ≤ k := by
  unfold thruL
  refine Nat.le_trans (List.length_filter_le _ _) ?_
  rw [List.length_take]; exact Nat.min_le_left _ _
set_option maxHeartbeats 4000000 in
set_option maxRecDepth 100000 in
theorem through_any (l t : List Ent) (pl p : Option Addr) (capl cap : Nat) (w : World) (hLl : Lies w pl l) (hL : Lies w p t) (hFl : Fits l) (hF : Fits t) (hs : Sorted l) (hl80 : l.length ≤ 80) (hn80 : t.length ≤ 80) :
    Calls Tryz.prog 151 #[.slice pl l.length capl, .slice p t.length cap] w (RowsPost (thruL l t) w) := by
  have HL : Aside (Lies w p t) := hL
  have HFt : Aside (Fits t) := hF
  have HGE : Aside (∀ (y : Ent) W, y ∈ t → Below w.heap.size w W → ∀ x b, (getL l y.p).getD zeroE = x → (getL l y.p).isSome = b → Calls Tryz.prog 23 #[.slice pl l.length capl, .string y.path] W fun r w' => r = .returned (.tuple #[.agg #[.string x.path, .int .i64 x.kind, .string x.text, .bool x.opq], .bool b]) ∧ Below W.heap.size W w') :=
    fun y W hy hB x b hx hb => get_det l y.path pl capl W (hLl.kept hB) hFl (by omega) (hF y hy).1 hs x b hx hb
  have HHI : Aside (∀ (y : Ent) W, y ∈ t → Below w.heap.size w W → Calls Tryz.prog 85 #[.slice pl l.length capl, .string y.path] W fun r w' => r = .returned (.bool (hidesL l y.p)) ∧ Grown W w') :=
    fun y W hy hB => hides_any l y.path pl capl W (hLl.kept hB) hFl (by omega) (hF y hy).1
  obtain ⟨n, hnl⟩ : ∃ n, n = t.length := ⟨_, rfl⟩
  have HN : Aside (n = t.length) := hnl
  rw [← hnl] at hn80 ⊢
  obtain ⟨nl, hnll⟩ : ∃ nl, nl = l.length := ⟨_, rfl⟩
  rw [← hnll] at HGE HHI hl80 ⊢
  clear hnl hnll hL hF hLl hFl
  go_enter Tryz.func151, Tryz.ntmps151
  go_wp2
  go_loopg [5, 12] n (fun gg v i wr => ∃ (k : Nat) (r : List Ent), k ≤ n ∧ n - k ≤ gg ∧ i = .int .i64 k ∧ r.length ≤ k ∧ Aside (Rows wr w.heap.size v r) ∧ Aside (Below w.heap.size w wr) ∧ Aside (r = thruL l (t.take k)))
  case atStart => exact ⟨0, [], Nat.zero_le _, by omega, rfl, Nat.le_refl _, Rows.nil _ _, Below.refl _ _, rfl⟩
  case round =>
    obtain ⟨k, r, hk, hgg, rfl, hbl, ST, BW, NM⟩ := hrel
    by_cases hlt : k < n
    · have hltz : (k : Int) < (n : Int) := by omega
      obtain ⟨y, hy⟩ : ∃ y, t[k]? = some y := ⟨_, List.getElem?_eq_getElem (by have := HN.out; omega)⟩
      have HY : Aside (t[k]? = some y) := hy
      have HM : Aside (y ∈ t) := List.mem_of_getElem? hy
      rcases HL.out with h0 | ⟨b, off, rfl, hb, hc⟩
      · rw [h0] at hy; simp at hy
      obtain ⟨c0, c1, c2, c3⟩ := Lies.cells hc hb BW.out hy
      clear hc hy
      have hws : w.heap.size ≤ wr.heap.size := BW.out.size
      obtain ⟨⟨xp, xk, xt, xo⟩, hxx⟩ : ∃ x, (getL l y.p).getD zeroE = x := ⟨_, rfl⟩
      obtain ⟨bb, hbb⟩ : ∃ bb, (getL l y.p).isSome = bb := ⟨_, rfl⟩
      have HSE : Aside (seenThru l y = (!bb && !hidesL l y.p)) := by
        show _ = _
        rw [seenThru, ← hbb]
        cases getL l y.p <;> rfl
      have hge := HGE.out y (wr.alloc (.cells #[.string y.path, .int .i64 y.kind, .string y.text, .bool y.opq] 28)) HM.out (BW.out.alloc BW.out.size _) _ bb hxx hbb
      clear hxx hbb
      have HST : Aside (thruL l (t.take (k + 1)) = r ++ (if seenThru l y then [y] else [])) := by show _ = _; rw [thru_step HY.out, NM.out]
      cases bb with
      | true =>
        have HS : Aside (thruL l (t.take (k + 1)) = r) := by show _ = _; rw [HST.out, HSE.out]; simp
        go_wp2_with (go_at_call 23; refine hge.mono ?_; clear hge; rintro rr w2 ⟨rfl, hB2⟩; have HB2 : Aside (Below wr.heap.size wr (w2.alloc (.cells #[.string xp, .int .i64 xk, .string xt, .bool xo] 28))) := base2 (hB2.alloc hB2.size _); clear hB2)
        go_roundg (n - (k + 1))
        case measure => omega
        case rel => exact ⟨k + 1, r, by omega, by omega, by go_num, by omega, ST.out.below HB2.out, Below.onto BW.out HB2.out, HS.out.symm⟩
      | false =>
        have hhi := fun W => HHI.out y W HM.out
        generalize hidesL l y.p = hd at hhi HSE
        cases hd with
        | true =>
          have HS : Aside (thruL l (t.take (k + 1)) = r) := by show _ = _; rw [HST.out, HSE.out]; simp
          go_wp2_with (first
            | (go_at_call 23; refine hge.mono ?_; clear hge; rintro rr w2 ⟨rfl, hB2⟩; obtain ⟨⟨d0, d1, d2, d3⟩, _⟩ := new4 (by simp) hB2; have hs2 := hB2.size; simp at hs2; have hne2 : wr.heap.size ≠ w2.heap.size := by omega
               have hlt2 : wr.heap.size < w2.heap.size := by omega
               have HB2 : Aside (Below wr.heap.size wr (w2.alloc (.cells #[.string xp, .int .i64 xk, .string xt, .bool xo] 28))) := base2 (hB2.alloc hB2.size _); clear hB2)
            | (go_at_call 85; refine (hhi _ (Below.onto BW.out HB2.out)).mono ?_; clear hhi; rintro rr w3 ⟨rfl, hG3⟩; have HB3 : Aside (Below wr.heap.size wr w3) := Below.onto HB2.out hG3.below; clear hG3))
          go_roundg (n - (k + 1))
          case measure => omega
          case rel => exact ⟨k + 1, r, by omega, by omega, by go_num, by omega, ST.out.below HB3.out, Below.onto BW.out HB3.out, HS.out.symm⟩
        | false =>
          have HS : Aside (thruL l (t.take (k + 1)) = r ++ [y]) := by show _ = _; rw [HST.out, HSE.out]; simp
          go_wp2_with (first
            | (go_at_call 23; refine hge.mono ?_; clear hge; rintro rr w2 ⟨rfl, hB2⟩; obtain ⟨⟨d0, d1, d2, d3⟩, _⟩ := new4 (by simp) hB2; have hs2 := hB2.size; simp at hs2; have hne2 : wr.heap.size ≠ w2.heap.size := by omega
               have hlt2 : wr.heap.size < w2.heap.size := by omega
               have HB2 : Aside (Below (wr.alloc (.cells #[.string y.path, .int .i64 y.kind, .string y.text, .bool y.opq] 28)).heap.size (wr.alloc (.cells #[.string y.path, .int .i64 y.kind, .string y.text, .bool y.opq] 28)) (w2.alloc (.cells #[.string xp, .int .i64 xk, .string xt, .bool xo] 28))) := hB2.alloc hB2.size _; clear hB2)
            | (go_at_call 85; refine (hhi _ (Below.onto BW.out (base2 HB2.out))).mono ?_; clear hhi; rintro rr w3 ⟨rfl, hG3⟩; have hB3 := HB2.out.trans (hG3.below.mono HB2.out.size); clear hG3 d0 d1 d2 d3; obtain ⟨⟨d0, d1, d2, d3⟩, _⟩ := new4 (by simp) hB3; have HB3 : Aside (Below wr.heap.size wr w3) := base2 hB3; have hs3 := hB3.size; simp at hs3; clear hB3; have hR1 := ST.out.below HB3.out)
            | (at_builtin; refine append_row w3 y rfl _ _ rfl w.heap.size _ r rfl hR1 (by omega) (by omega) _ (by simp) rfl ?_; clear hR1; intro v4 w4 hR4 hB4 hC4 hs4; have HR4 : Aside (Rows w4 w.heap.size v4 (r ++ [y])) := hR4; have HB4 : Aside (Below w.heap.size w w4) := (Below.onto BW.out HB3.out).trans hB4; clear hR4 hB4 hC4))
          go_roundg (n - (k + 1))
          case measure => omega
          case rel => exact ⟨k + 1, r ++ [y], by omega, by omega, by go_num, by simp; omega, HR4.out, HB4.out, HS.out.symm⟩
    · have hltz : ¬ (k : Int) < (n : Int) := by omega
      have HE : Aside (thruL l t = r) := by
        show _ = _
        rw [NM.out, List.take_of_length_le (by have := HN.out; omega)]
      go_wp2
      go_ret
      exact ⟨⟨_, rfl, by rw [HE.out]; exact ST.out⟩, BW.out⟩
end Go.Proofs.YtampldoimpfjgabGreatDoor
