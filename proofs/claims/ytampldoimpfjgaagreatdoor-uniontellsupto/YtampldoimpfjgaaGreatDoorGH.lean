/-
  Entries appended one by one, in memory of the call's own.
-/
import Derived.Test.YtampldoimpfjgaaGreatDoorGD
import Derived.Test.YtampldoimpfjgaaGreatDoorGC
import Derived.Test.YtampldoimpfjgaaGreatDoorGE
import Derived.Test.YtampldoimpfjgaaGreatDoorGF
import Derived.RangeFuncNested
import Derived.RangeFuncBound
import Derived.RangeFuncCalls
import Derived.RangeFuncLeaves
import Derived.RangeFuncFrom
import Derived.RangeFuncBox
import Derived.Shelf.Abstract
import Derived.Shelf.RegionOpen
import Derived.WalkKit
import Derived.OwnWalkIn
import Derived.TacticsInMore
import Derived.LoopNIn
import Derived.LoopIn
import Derived.Deep.RegionHeld
namespace Go.Proofs.YtampldoimpfjgaaGreatDoor
open Go.RowKit PM Go.Sort
set_option linter.unusedVariables false

/-- The slice v holds the entries l, in memory of the call's own from 'base' on. -/
def Rows (w : World) (base : Nat) (v : Value) (l : List Ent) : Prop := w.ownsRow base 28 4 v l.length (l.flatMap encE)
theorem Rows.nil (w : World) (base : Nat) : Rows w base (.slice none 0 0) [] := World.ownsRow_nil _ _ _ _
theorem Rows.mono {w : World} {base base' : Nat} {v : Value} {l : List Ent} (h : Rows w base v l) (hb : base' ≤ base) : Rows w base' v l := by
  refine ⟨h.1, h.2.imp id ?_⟩
  rintro ⟨g, cap, cur, e, hg, r⟩
  exact ⟨g, cap, cur, e, Nat.le_trans hb hg, r⟩
theorem Rows.below {w w' : World} {base : Nat} {v : Value} {l : List Ent} (h : Rows w base v l) (hb : Below w.heap.size w w') : Rows w' base v l := by
  refine ⟨h.1, h.2.imp id ?_⟩
  rintro ⟨g, cap, cur, e, hg, hh, r⟩
  have hlt : g < w.heap.size := by
    rcases Nat.lt_or_ge g w.heap.size with h' | h'
    · exact h'
    · rw [Array.getElem?_eq_none h'] at hh; cases hh
  exact ⟨g, cap, cur, e, hg, by rw [hb.block g hlt]; exact hh, r⟩
theorem Rows.form {w : World} {base : Nat} {v : Value} {l : List Ent} (h : Rows w base v l) : ∃ p c, v = .slice p l.length c ∧ Lies w p l ∧ l.length ≤ c ∧ (p = none → c = 0) := by
  by_cases hv : v = .slice none 0 0
  · have hl : l = [] := by
      obtain ⟨h1, ⟨_, h2⟩ | ⟨g, cap, cur, hv', _⟩⟩ := h
      · exact List.eq_nil_of_length_eq_zero h2
      · rw [hv'] at hv; cases hv
    subst hl
    exact ⟨none, 0, hv, Lies.nil _ _, Nat.le_refl _, fun _ => rfl⟩
  · obtain ⟨g, c, e, _, ho⟩ := Own.of_row h hv rfl
    exact ⟨_, c, e, ho.lies, ho.len, fun h => by cases h⟩
theorem row_one_new (W : World) (y : Ent) (H : Nat) (hH : H = W.heap.size) : ∀ j u, (encE y)[j]? = some u → (W.alloc (.cells #[.string y.path, .int .i64 y.kind, .string y.text, .bool y.opq] 28)).cell? ((⟨H, 0, none⟩ : Addr).add j) = some u := by
  subst hH
  intro j u h
  have hj := encE_lt h
  obtain rfl | rfl | rfl | rfl : j = 0 ∨ j = 1 ∨ j = 2 ∨ j = 3 := by omega
  all_goals (simp [encE] at h; subst h; rw [Addr.add_lit]; simp)
def RowsPost (l : List Ent) (w : World) (e : Ending) (w' : World) : Prop := (∃ v, e = .returned v ∧ Rows w' w.heap.size v l) ∧ Below w.heap.size w w'
/-- 'append(v, y)': one entry behind a row of the call's own. -/
theorem append_row {ops : Array Oper} {rest : List Oper} {o : Oper} {a : Act} {Q : Exit → Act → World → Prop} (X : World) (y : Ent) (hgd : o.guard = none) (s x : Operand)
    (ho : o.op = .call { callee := .builtin .append, args := #[s, x], argTypes := #[23, 23] }) (base : Nat) (v : Value) (l : List Ent) (hs : a.eval s = v) (hrow : Rows X base v l) (hlen : l.length ≤ 20000) (hbase : base ≤ X.heap.size)
    (H : Nat) (hH : H = X.heap.size) (hx : a.eval x = .slice (some ⟨H, 0, none⟩) 1 1)
    (h : ∀ v' w', Rows w' base v' (l ++ [y]) → Below base X w' → (∀ ad : Addr, ad.block < X.heap.size → (∀ g, v.ownBlock = some g → ad.block ≠ g) → w'.cell? ad = X.cell? ad) → X.heap.size ≤ w'.heap.size → wpList Tryz.prog ops Q rest (a.put o.dst v') w') :
    wpList Tryz.prog ops Q (o :: rest) a (X.alloc (.cells #[.string y.path, .int .i64 y.kind, .string y.text, .bool y.opq] 28)) := by
  obtain ⟨i0, hi, hz0, hz1, hz2⟩ := info38
  refine wpList_append_own _ hgd s x 23 ho base 28 i0 _ 4 48 Tryz.underlying23 hi hz0 hz1 hz2 rfl (by decide) _ _ _ hs (World.ownsRow.alloc hrow _) _ 1 1 (encE y) hx rfl (row_one_new _ _ _ hH) (fun u hu => flat_one (t := [y]) (by simpa using hu)) (by unfold maxLen; omega) (by omega) (by simp; omega) ?_
  intro v' w' hown hgrow _
  have hsz : X.heap.size ≤ w'.heap.size := by have := hgrow.size; simp at this; omega
  refine h v' w' (by simpa [Rows] using hown) (((Below.refl base X).alloc hbase _).grown hgrow (by simp; omega) (fun j hj => (World.ownsRow.lt hrow j hj).1)) (fun ad had hne => ?_) hsz
  have h1 : w'.cell? ad = (X.alloc (.cells #[.string y.path, .int .i64 y.kind, .string y.text, .bool y.opq] 28)).cell? ad := World.cell?_of_block (hgrow.block _ (by simp; omega) (fun e => hne _ e.symm rfl))
  rw [h1]
  exact ((Grown.refl X).alloc _).cell had
end Go.Proofs.YtampldoimpfjgaaGreatDoor
namespace Go.Proofs.YtampldoimpfjgaaGreatDoor
open Go.RowKit PM Go.Sort
set_option linter.unusedVariables false

set_option maxHeartbeats 4000000 in
theorem hidesP_any (e : Ent) (q : ByteArray) (B : Nat) (w : World) (he : e.path.size ≤ maxLen) (hq : q.size ≤ maxLen) (hB : B < w.heap.size) (hc : w.cell? ⟨B, 0, none⟩ = some (.string q)) :
    Calls Tryz.prog 103 #[.agg #[.string e.path, .int .i64 e.kind, .string e.text, .bool e.opq], .pointer (some ⟨B, 0, none⟩)] w fun r w' => r = .returned (.bool (hidesE q.data.toList e)) ∧ Grown w w' := by
  have hne : B ≠ w.heap.size := by omega
  have hun := fun W => under_any q e.path W hq he
  have HH : Aside (hidesE q.data.toList e = (decide (e.path.data.toList = q.data.toList) && !(e.kind == 2) || under q.data.toList e.path.data.toList && (!(e.kind == 2) || e.opq))) := rfl
  generalize under q.data.toList e.path.data.toList = u at hun HH
  obtain ⟨ep, ek, et, eo⟩ := e
  by_cases hk : ek = 2
  · subst hk
    by_cases hpq : ep.data.toList = q.data.toList
    · obtain ⟨e1, e2⟩ := eq_parts hpq
      cases u with
      | false =>
        have HR : Aside (hidesE q.data.toList ⟨ep, 2, et, eo⟩ = false) := by show _ = _; rw [HH.out]; simp
        go_enter Tryz.func103, Tryz.ntmps103
        go_wp2_with (go_at_call 83; refine (hun _).mono ?_; rintro r w' ⟨rfl, rfl⟩)
        go_ret
        exact ⟨ret_bool HR.out.symm, (Grown.refl w).alloc _⟩
      | true =>
        have HR : Aside (hidesE q.data.toList ⟨ep, 2, et, eo⟩ = eo) := by show _ = _; rw [HH.out]; simp
        go_enter Tryz.func103, Tryz.ntmps103
        go_wp2_with (go_at_call 83; refine (hun _).mono ?_; rintro r w' ⟨rfl, rfl⟩)
        go_ret
        exact ⟨ret_bool HR.out.symm, (Grown.refl w).alloc _⟩
    · obtain ⟨e1, e2⟩ := ne_parts hpq
      cases u with
      | false =>
        have HR : Aside (hidesE q.data.toList ⟨ep, 2, et, eo⟩ = false) := by show _ = _; rw [HH.out]; simp
        go_enter Tryz.func103, Tryz.ntmps103
        go_wp2_with (go_at_call 83; refine (hun _).mono ?_; rintro r w' ⟨rfl, rfl⟩)
        go_ret
        exact ⟨ret_bool HR.out.symm, (Grown.refl w).alloc _⟩
      | true =>
        have HR : Aside (hidesE q.data.toList ⟨ep, 2, et, eo⟩ = eo) := by show _ = _; rw [HH.out]; simp
        go_enter Tryz.func103, Tryz.ntmps103
        go_wp2_with (go_at_call 83; refine (hun _).mono ?_; rintro r w' ⟨rfl, rfl⟩)
        go_ret
        exact ⟨ret_bool HR.out.symm, (Grown.refl w).alloc _⟩
  · by_cases hpq : ep.data.toList = q.data.toList
    · obtain ⟨e1, e2⟩ := eq_parts hpq
      have HR : Aside (hidesE q.data.toList ⟨ep, ek, et, eo⟩ = true) := by show _ = _; rw [HH.out]; simp [hk, hpq]
      clear hun
      go_enter Tryz.func103, Tryz.ntmps103
      go_wp2
      go_ret
      exact ⟨ret_bool HR.out.symm, (Grown.refl w).alloc _⟩
    · obtain ⟨e1, e2⟩ := ne_parts hpq
      cases u with
      | false =>
        have HR : Aside (hidesE q.data.toList ⟨ep, ek, et, eo⟩ = false) := by show _ = _; rw [HH.out]; simp [hpq]
        go_enter Tryz.func103, Tryz.ntmps103
        go_wp2_with (go_at_call 83; refine (hun _).mono ?_; rintro r w' ⟨rfl, rfl⟩)
        go_ret
        exact ⟨ret_bool HR.out.symm, (Grown.refl w).alloc _⟩
      | true =>
        have HR : Aside (hidesE q.data.toList ⟨ep, ek, et, eo⟩ = true) := by show _ = _; rw [HH.out]; simp [hk]
        go_enter Tryz.func103, Tryz.ntmps103
        go_wp2_with (go_at_call 83; refine (hun _).mono ?_; rintro r w' ⟨rfl, rfl⟩)
        go_ret
        exact ⟨ret_bool HR.out.symm, (Grown.refl w).alloc _⟩
theorem hides_any (t : List Ent) (q : ByteArray) (p : Option Addr) (cap : Nat) (w : World) (hL : Lies w p t) (hF : Fits t) (hn : t.length < 4611686018427387904) (hq : q.size ≤ maxLen) :
    Calls Tryz.prog 79 #[.slice p t.length cap, .string q] w fun r w' => r = .returned (.bool (hidesL t q.data.toList)) ∧ Grown w w' := by
  have eg : ∀ args w, (callFunc 103 args).run Tryz.prog w = .ok (.enter 103 args) w := enters_of Tryz.func103 (by kernel_rfl) rfl
  have hs := contains_any (hidesE q.data.toList) 103 #[.pointer (some ⟨w.heap.size, 0, none⟩)] eg t p cap (w.alloc (.cells #[.string q] 9)) (hL.grown ((Grown.refl w).alloc _)) hn
    (fun W x hG hx => hidesP_any x q w.heap.size W (hF x hx).1 hq (by have := hG.size; simp at this; omega) ((hG.cell (p := ⟨w.heap.size, 0, none⟩) (by simp)).trans (by simp)))
  clear eg
  have HA : Aside (hidesL t q.data.toList = t.any (hidesE q.data.toList)) := rfl
  generalize t.any (hidesE q.data.toList) = bb at hs HA
  go_enter Tryz.func79, Tryz.ntmps79
  go_wp2_with (go_at_call 99; refine hs.mono ?_; clear hs; rintro e w' ⟨rfl, hG⟩)
  go_ret
  exact ⟨ret_bool HA.out.symm, (Grown.refl w).alloc _ |>.trans hG⟩
end Go.Proofs.YtampldoimpfjgaaGreatDoor
namespace Go.Proofs.YtampldoimpfjgaaGreatDoor
open Go.RowKit PM Go.Sort
set_option linter.unusedVariables false

theorem own_step {t : List Ent} {k : Nat} {y : Ent} (hy : t[k]? = some y) : ownL (t.take (k + 1)) = ownL (t.take k) ++ (if y.kind = 4 then [] else [clearE y]) := by
  unfold ownL
  rw [take_step hy, List.filter_append, List.map_append]
  by_cases h1 : y.kind = 4 <;> simp [h1]
theorem own_take_len (t : List Ent) (k : Nat) : (ownL (t.take k)).length ≤ k := by
  unfold ownL
  rw [List.length_map]
  refine Nat.le_trans (List.length_filter_le _ _) ?_
  rw [List.length_take]; exact Nat.min_le_left _ _
set_option maxHeartbeats 4000000 in
set_option maxRecDepth 100000 in
theorem own_any (t : List Ent) (p : Option Addr) (cap : Nat) (w : World) (hL : Lies w p t) (hn80 : t.length ≤ 80) :
    Calls Tryz.prog 106 #[.slice p t.length cap] w (RowsPost (ownL t) w) := by
  have HL : Aside (Lies w p t) := hL
  obtain ⟨n, hnl⟩ : ∃ n, n = t.length := ⟨_, rfl⟩
  have HN : Aside (n = t.length) := hnl
  rw [← hnl] at hn80 ⊢
  clear hnl hL
  go_enter Tryz.func106, Tryz.ntmps106
  go_wp2
  go_loopg [3, 8] n (fun gg v i wr => ∃ (k : Nat) (l : List Ent), k ≤ n ∧ n - k ≤ gg ∧ i = .int .i64 k ∧ l.length ≤ k ∧ Aside (Rows wr w.heap.size v l) ∧ Aside (Below w.heap.size w wr) ∧ Aside (l = ownL (t.take k)))
  case atStart => exact ⟨0, [], Nat.zero_le _, by omega, rfl, Nat.le_refl _, Rows.nil _ _, Below.refl _ _, rfl⟩
  case round =>
    obtain ⟨k, l, hk, hgg, rfl, hbl, ST, BW, NM⟩ := hrel
    by_cases hlt : k < n
    · have hltz : (k : Int) < (n : Int) := by omega
      obtain ⟨y, hy⟩ : ∃ y, t[k]? = some y := ⟨_, List.getElem?_eq_getElem (by have := HN.out; omega)⟩
      have HY : Aside (t[k]? = some y) := hy
      rcases HL.out with h0 | ⟨b, off, rfl, hb, hc⟩
      · rw [h0] at hy; simp at hy
      obtain ⟨c0, c1, c2, c3⟩ := Lies.cells hc hb BW.out hy
      clear hc hy
      have hws : w.heap.size ≤ wr.heap.size := BW.out.size
      by_cases hk4 : y.kind = 4
      · have HS : Aside (ownL (t.take (k + 1)) = l) := by show _ = _; rw [own_step HY.out, if_pos hk4, List.append_nil, NM.out]
        go_wp2
        go_roundg (n - (k + 1))
        case measure => omega
        case rel => exact ⟨k + 1, l, by omega, by omega, by go_num, by omega, ST.out.below ((Grown.refl wr).alloc _).below, BW.out.alloc BW.out.size _, HS.out.symm⟩
      · have HS : Aside (ownL (t.take (k + 1)) = l ++ [clearE y]) := by show _ = _; rw [own_step HY.out, if_neg hk4, NM.out]
        have HA : Aside (Below wr.heap.size wr (wr.alloc (.cells #[.string y.path, .int .i64 y.kind, .string y.text, .bool false] 28))) := ((Grown.refl wr).alloc _).below
        have hR1 := ST.out.below HA.out
        go_wp2_with (at_builtin; refine append_row (wr.alloc (.cells #[.string y.path, .int .i64 y.kind, .string y.text, .bool false] 28)) (clearE y) rfl _ _ rfl w.heap.size _ l rfl hR1 (by omega) (by simp; omega) _ (by simp) rfl ?_; clear hR1; intro v4 w4 hR4 hB4 hC4 hs4; have HR4 : Aside (Rows w4 w.heap.size v4 (l ++ [clearE y])) := hR4; have HB4 : Aside (Below w.heap.size w w4) := (Below.onto BW.out HA.out).trans hB4; clear hR4 hB4 hC4)
        go_roundg (n - (k + 1))
        case measure => omega
        case rel => exact ⟨k + 1, l ++ [clearE y], by omega, by omega, by go_num, by simp; omega, HR4.out, HB4.out, HS.out.symm⟩
    · have hltz : ¬ (k : Int) < (n : Int) := by omega
      have HE : Aside (ownL t = l) := by
        show _ = _
        rw [NM.out, List.take_of_length_le (by have := HN.out; omega)]
      go_wp2
      go_ret
      exact ⟨⟨_, rfl, by rw [HE.out]; exact ST.out⟩, BW.out⟩

theorem thru_step {l t : List Ent} {k : Nat} {y : Ent} (hy : t[k]? = some y) : thruL l (t.take (k + 1)) = thruL l (t.take k) ++ (if seenThru l y then [y] else []) := by
  unfold thruL
  rw [take_step hy, List.filter_append]
  cases h1 : seenThru l y <;> simp [h1]
theorem thru_take_len (l t : List Ent) (k : Nat) : (thruL l (t.take k)).length ≤ k := by
  unfold thruL
  refine Nat.le_trans (List.length_filter_le _ _) ?_
  rw [List.length_take]; exact Nat.min_le_left _ _
set_option maxHeartbeats 4000000 in
set_option maxRecDepth 100000 in
theorem through_any (l t : List Ent) (pl p : Option Addr) (capl cap : Nat) (w : World) (hLl : Lies w pl l) (hL : Lies w p t) (hFl : Fits l) (hF : Fits t) (hs : Sorted l) (hl80 : l.length ≤ 80) (hn80 : t.length ≤ 80) :
    Calls Tryz.prog 107 #[.slice pl l.length capl, .slice p t.length cap] w (RowsPost (thruL l t) w) := by
  have HL : Aside (Lies w p t) := hL
  have HFt : Aside (Fits t) := hF
  have HGE : Aside (∀ (y : Ent) W, y ∈ t → Below w.heap.size w W → ∀ x b, (getL l y.p).getD zeroE = x → (getL l y.p).isSome = b → Calls Tryz.prog 23 #[.slice pl l.length capl, .string y.path] W fun r w' => r = .returned (.tuple #[.agg #[.string x.path, .int .i64 x.kind, .string x.text, .bool x.opq], .bool b]) ∧ Below W.heap.size W w') :=
    fun y W hy hB x b hx hb => get_det l y.path pl capl W (hLl.kept hB) hFl (by omega) (hF y hy).1 hs x b hx hb
  have HHI : Aside (∀ (y : Ent) W, y ∈ t → Below w.heap.size w W → Calls Tryz.prog 79 #[.slice pl l.length capl, .string y.path] W fun r w' => r = .returned (.bool (hidesL l y.p)) ∧ Grown W w') :=
    fun y W hy hB => hides_any l y.path pl capl W (hLl.kept hB) hFl (by omega) (hF y hy).1
  obtain ⟨n, hnl⟩ : ∃ n, n = t.length := ⟨_, rfl⟩
  have HN : Aside (n = t.length) := hnl
  rw [← hnl] at hn80 ⊢
  obtain ⟨nl, hnll⟩ : ∃ nl, nl = l.length := ⟨_, rfl⟩
  rw [← hnll] at HGE HHI hl80 ⊢
  clear hnl hnll hL hF hLl hFl
  go_enter Tryz.func107, Tryz.ntmps107
  go_wp2
  go_loopg [5, 12] n (fun gg v i wr => ∃ (k : Nat) (r : List Ent), k ≤ n ∧ n - k ≤ gg ∧ i = .int .i64 k ∧ r.length ≤ k ∧ Aside (Rows wr w.heap.size v r) ∧ Aside (Below w.heap.size w wr) ∧ Aside (r = thruL l (t.take k)))
  case atStart => exact ⟨0, [], Nat.zero_le _, by omega, rfl, Nat.le_refl _, Rows.nil _ _, Below.refl _ _, rfl⟩
  case round =>
    obtain ⟨k, r, hk, hgg, rfl, hbl, ST, BW, NM⟩ := hrel
    by_cases hlt : k < n
    · have hltz : (k : Int) < (n : Int) := by omega
      obtain ⟨y, hy⟩ : ∃ y, t[k]? = some y := ⟨_, List.getElem?_eq_getElem (by have := HN.out; omega)⟩
      have HY : Aside (t[k]? = some y) := hy
      have HM : Aside (y ∈ t) := List.mem_of_getElem? hy
      rcases HL.out with h0 | ⟨b, off, rfl, hb, hc⟩
      · rw [h0] at hy; simp at hy
      obtain ⟨c0, c1, c2, c3⟩ := Lies.cells hc hb BW.out hy
      clear hc hy
      have hws : w.heap.size ≤ wr.heap.size := BW.out.size
      obtain ⟨⟨xp, xk, xt, xo⟩, hxx⟩ : ∃ x, (getL l y.p).getD zeroE = x := ⟨_, rfl⟩
      obtain ⟨bb, hbb⟩ : ∃ bb, (getL l y.p).isSome = bb := ⟨_, rfl⟩
      have HSE : Aside (seenThru l y = (!bb && !hidesL l y.p)) := by
        show _ = _
        rw [seenThru, ← hbb]
        cases getL l y.p <;> rfl
      have hge := HGE.out y (wr.alloc (.cells #[.string y.path, .int .i64 y.kind, .string y.text, .bool y.opq] 28)) HM.out (BW.out.alloc BW.out.size _) _ bb hxx hbb
      clear hxx hbb
      have HST : Aside (thruL l (t.take (k + 1)) = r ++ (if seenThru l y then [y] else [])) := by show _ = _; rw [thru_step HY.out, NM.out]
      cases bb with
      | true =>
        have HS : Aside (thruL l (t.take (k + 1)) = r) := by show _ = _; rw [HST.out, HSE.out]; simp
        go_wp2_with (go_at_call 23; refine hge.mono ?_; clear hge; rintro rr w2 ⟨rfl, hB2⟩; have HB2 : Aside (Below wr.heap.size wr (w2.alloc (.cells #[.string xp, .int .i64 xk, .string xt, .bool xo] 28))) := base2 (hB2.alloc hB2.size _); clear hB2)
        go_roundg (n - (k + 1))
        case measure => omega
        case rel => exact ⟨k + 1, r, by omega, by omega, by go_num, by omega, ST.out.below HB2.out, Below.onto BW.out HB2.out, HS.out.symm⟩
      | false =>
        have hhi := fun W => HHI.out y W HM.out
        generalize hidesL l y.p = hd at hhi HSE
        cases hd with
        | true =>
          have HS : Aside (thruL l (t.take (k + 1)) = r) := by show _ = _; rw [HST.out, HSE.out]; simp
          go_wp2_with (first
            | (go_at_call 23; refine hge.mono ?_; clear hge; rintro rr w2 ⟨rfl, hB2⟩; obtain ⟨⟨d0, d1, d2, d3⟩, _⟩ := new4 (by simp) hB2; have hs2 := hB2.size; simp at hs2; have hne2 : wr.heap.size ≠ w2.heap.size := by omega
               have hlt2 : wr.heap.size < w2.heap.size := by omega
               have HB2 : Aside (Below wr.heap.size wr (w2.alloc (.cells #[.string xp, .int .i64 xk, .string xt, .bool xo] 28))) := base2 (hB2.alloc hB2.size _); clear hB2)
            | (go_at_call 79; refine (hhi _ (Below.onto BW.out HB2.out)).mono ?_; clear hhi; rintro rr w3 ⟨rfl, hG3⟩; have HB3 : Aside (Below wr.heap.size wr w3) := Below.onto HB2.out hG3.below; clear hG3))
          go_roundg (n - (k + 1))
          case measure => omega
          case rel => exact ⟨k + 1, r, by omega, by omega, by go_num, by omega, ST.out.below HB3.out, Below.onto BW.out HB3.out, HS.out.symm⟩
        | false =>
          have HS : Aside (thruL l (t.take (k + 1)) = r ++ [y]) := by show _ = _; rw [HST.out, HSE.out]; simp
          go_wp2_with (first
            | (go_at_call 23; refine hge.mono ?_; clear hge; rintro rr w2 ⟨rfl, hB2⟩; obtain ⟨⟨d0, d1, d2, d3⟩, _⟩ := new4 (by simp) hB2; have hs2 := hB2.size; simp at hs2; have hne2 : wr.heap.size ≠ w2.heap.size := by omega
               have hlt2 : wr.heap.size < w2.heap.size := by omega
               have HB2 : Aside (Below (wr.alloc (.cells #[.string y.path, .int .i64 y.kind, .string y.text, .bool y.opq] 28)).heap.size (wr.alloc (.cells #[.string y.path, .int .i64 y.kind, .string y.text, .bool y.opq] 28)) (w2.alloc (.cells #[.string xp, .int .i64 xk, .string xt, .bool xo] 28))) := hB2.alloc hB2.size _; clear hB2)
            | (go_at_call 79; refine (hhi _ (Below.onto BW.out (base2 HB2.out))).mono ?_; clear hhi; rintro rr w3 ⟨rfl, hG3⟩; have hB3 := HB2.out.trans (hG3.below.mono HB2.out.size); clear hG3 d0 d1 d2 d3; obtain ⟨⟨d0, d1, d2, d3⟩, _⟩ := new4 (by simp) hB3; have HB3 : Aside (Below wr.heap.size wr w3) := base2 hB3; have hs3 := hB3.size; simp at hs3; clear hB3; have hR1 := ST.out.below HB3.out)
            | (at_builtin; refine append_row w3 y rfl _ _ rfl w.heap.size _ r rfl hR1 (by omega) (by omega) _ (by simp) rfl ?_; clear hR1; intro v4 w4 hR4 hB4 hC4 hs4; have HR4 : Aside (Rows w4 w.heap.size v4 (r ++ [y])) := hR4; have HB4 : Aside (Below w.heap.size w w4) := (Below.onto BW.out HB3.out).trans hB4; clear hR4 hB4 hC4))
          go_roundg (n - (k + 1))
          case measure => omega
          case rel => exact ⟨k + 1, r ++ [y], by omega, by omega, by go_num, by simp; omega, HR4.out, HB4.out, HS.out.symm⟩
    · have hltz : ¬ (k : Int) < (n : Int) := by omega
      have HE : Aside (thruL l t = r) := by
        show _ = _
        rw [NM.out, List.take_of_length_le (by have := HN.out; omega)]
      go_wp2
      go_ret
      exact ⟨⟨_, rfl, by rw [HE.out]; exact ST.out⟩, BW.out⟩
end Go.Proofs.YtampldoimpfjgaaGreatDoor
namespace Go.Proofs.YtampldoimpfjgaaGreatDoor
open Go.RowKit PM Go.Sort
set_option linter.unusedVariables false

theorem insertion_nil (w : World) :
    Calls Tryz.prog 122 #[.slice none 0 0, .int .i64 0, .int .i64 0, .func (.func 71) #[] #[]] w fun e w' => e = .returned (.tuple #[]) ∧ w' = w := by
  go_enter Tryz.func122, Tryz.ntmps122
  go_wp2
  go_loopg [8] 1 (fun gg i wr => i = .int .i64 1 ∧ wr = w)
  case atStart => exact ⟨rfl, rfl⟩
  case round =>
    obtain ⟨rfl, rfl⟩ := hrel
    go_wp2
    go_end0
    exact ⟨rfl, rfl⟩
set_option maxHeartbeats 2000000 in
set_option maxRecDepth 100000 in
theorem pdq_nil (k : Int) (w : World) :
    Calls Tryz.prog 115 #[.slice none 0 0, .int .i64 0, .int .i64 0, .int .i64 k, .func (.func 71) #[] #[]] w fun e w' => e = .returned (.tuple #[]) ∧ w' = w := by
  have hi := insertion_nil
  go_enter Tryz.func115, Tryz.ntmps115
  go_wp2
  go_loopg [1, 2] 1 (fun gg a b wr => a = .int .i64 0 ∧ b = .int .i64 0 ∧ wr = w)
  case atStart => exact ⟨rfl, rfl, rfl⟩
  case round =>
    obtain ⟨rfl, rfl, rfl⟩ := hrel
    go_wp2_with (go_at_call 122; refine (hi _).mono ?_; rintro e w' ⟨rfl, hw⟩; subst hw)
    try simp only [Exit.inBlock, Exit.then]
    refine bodyPost_ret (results_none rfl _ _ _) rfl ?_
    exact ⟨rfl, rfl⟩
theorem sort_nil (w : World) :
    Calls Tryz.prog 104 #[.slice none 0 0, .func (.func 71) #[] #[]] w fun e w' => e = .returned (.tuple #[]) ∧ w' = w := by
  have hl : Calls Tryz.prog 116 #[.int .u64 0] w fun e w' => e = .returned (.int .i64 (Lib.bitLen 0 : Nat)) ∧ w' = w := by
    have h := Any.bits_Len (SlLaysF0.n15.bits Tryz.bitsE) 0 w (by omega) (by omega)
    exact h
  have hp := pdq_nil (Lib.bitLen 0 : Nat) w
  generalize ((Lib.bitLen 0 : Nat) : Int) = k at hl hp
  go_enter Tryz.func104, Tryz.ntmps104
  go_wp2_with (first | (go_at_call 116; refine hl.mono ?_; rintro e wx ⟨rfl, hwx⟩; subst wx) | (go_at_call 115; refine hp.mono ?_; rintro e w' ⟨rfl, hw⟩; subst hw))
  go_end0
  exact ⟨rfl, rfl⟩
end Go.Proofs.YtampldoimpfjgaaGreatDoor
namespace Go.Proofs.YtampldoimpfjgaaGreatDoor
open Go.RowKit PM Go.Sort
set_option linter.unusedVariables false

theorem wrongLayer_any (t : List Ent) (m : Int) (p : Option Addr) (cap : Nat) (w : World) (hL : Lies w p t) (hF : Fits t) (hn : t.length < 4611686018427387904) (hcap : t.length ≤ cap) (hm : w.cell? ⟨0, 0, none⟩ = some (.int .i64 m)) :
    Calls Tryz.prog 86 #[.slice p t.length cap] w fun r w' => r = .returned (.agg #[.int .i64 (faultL true t).1, .int .i64 ((faultL true t).2 : Nat)]) ∧ Below w.heap.size w w' := by
  have hs := fun W (hB : Below w.heap.size w W) => firstFault_any t true m p cap W (hL.kept hB) hF hn hcap (held hB hm)
  generalize (faultL true t).1 = a at hs ⊢
  generalize ((faultL true t).2 : Int) = b at hs ⊢
  go_enter Tryz.func86, Tryz.ntmps86
  go_wp2_with (go_at_call 94; refine (hs _ ((Below.refl _ _).alloc (Nat.le_refl _) _)).mono ?_; clear hs; rintro rr w1 ⟨rfl, hB1⟩; obtain ⟨⟨r0, r1⟩, ⟨f0, f1⟩⟩ := new2 (by simp) hB1)
  refine bodyPost_ret (v := .agg #[.int .i64 a, .int .i64 b]) (by simp [results, Tryz.results86, go_sem, r0, r1]) rfl ?_
  exact ⟨rfl, own_store2 (hB1.mono (by simp)) _ _⟩
theorem layerWrong_any (t : List Ent) (m : Int) (p : Option Addr) (cap : Nat) (w : World) (hL : Lies w p t) (hF : Fits t) (hn : t.length < 4611686018427387904) (hcap : t.length ≤ cap) (hm : w.cell? ⟨0, 0, none⟩ = some (.int .i64 m)) :
    Calls Tryz.prog 48 #[.slice p t.length cap] w fun r w' => r = .returned (.agg #[.int .i64 (faultL true t).1, .int .i64 ((faultL true t).2 : Nat)]) ∧ Below w.heap.size w w' := by
  have hs := fun W (hB : Below w.heap.size w W) => wrongLayer_any t m p cap W (hL.kept hB) hF hn hcap (held hB hm)
  generalize (faultL true t).1 = a at hs ⊢
  generalize ((faultL true t).2 : Int) = b at hs ⊢
  go_enter Tryz.func48, Tryz.ntmps48
  go_wp2_with (go_at_call 86; refine (hs _ ((Below.refl _ _).alloc (Nat.le_refl _) _)).mono ?_; clear hs; rintro rr w1 ⟨rfl, hB1⟩; obtain ⟨⟨r0, r1⟩, ⟨f0, f1⟩⟩ := new2 (by simp) hB1)
  refine bodyPost_ret (v := .agg #[.int .i64 a, .int .i64 b]) (by simp [results, Tryz.results48, go_sem, r0, r1]) rfl ?_
  exact ⟨rfl, own_store2 (hB1.mono (by simp)) _ _⟩

/-- 'append(v, t...)': entries behind a row of the call's own. -/
theorem append_rows {ops : Array Oper} {rest : List Oper} {o : Oper} {a : Act} {Q : Exit → Act → World → Prop} (X : World) (hgd : o.guard = none) (s x : Operand)
    (ho : o.op = .call { callee := .builtin .append, args := #[s, x], argTypes := #[23, 23] }) (base : Nat) (v : Value) (l : List Ent) (hs : a.eval s = v) (hrow : Rows X base v l) (hlen : l.length ≤ 80) (hbase : base ≤ X.heap.size)
    (p : Option Addr) (n cap : Nat) (t : List Ent) (hx : a.eval x = .slice p n cap) (hn : n = t.length) (hL : Lies X p t) (hnil : p = none → cap = 0) (h80 : n ≤ 80)
    (h : ∀ v' w', Rows w' base v' (l ++ t) → Below base X w' → wpList Tryz.prog ops Q rest (a.put o.dst v') w') :
    wpList Tryz.prog ops Q (o :: rest) a X := by
  obtain ⟨i0, hi, hz0, hz1, hz2⟩ := info38
  cases p with
  | none =>
    obtain rfl : cap = 0 := hnil rfl
    have ht : t = [] := by
      rcases hL with h | ⟨b, off, he, _⟩
      · exact h
      · cases he
    subst ht
    obtain rfl : n = 0 := hn
    refine wpList_append_own_none hgd s x 23 ho base 28 i0 4 Tryz.underlying23 hi v l.length (l.flatMap encE) hs hrow hx ?_
    exact h v X (by rw [List.append_nil]; exact hrow) (Below.refl _ _)
  | some ad =>
    refine wpList_append_own X hgd s x 23 ho base 28 i0 _ 4 48 Tryz.underlying23 hi hz0 hz1 hz2 rfl (by decide) v l.length (l.flatMap encE) hs hrow ad n cap (t.flatMap encE) hx (by rw [flat_len, hn]) (hL.flat (Below.refl _ _)) (fun u hu => flat_one hu) (by unfold maxLen; omega) (by omega) hbase ?_
    intro v' w' hown hg _
    refine h v' w' ?_ ((Below.refl base X).grown hg hbase (fun j hj => (World.ownsRow.lt hrow j hj).1))
    unfold Rows
    rw [List.length_append, List.flatMap_append, ← hn]
    exact hown

/-- A tree and a number; the tree in memory of the call's own. -/
def NewPost (err : Int) (l : List Ent) (w : World) (e : Ending) (w' : World) : Prop :=
  ∃ p c, e = .returned (.tuple #[.slice p l.length c, .int .i64 err]) ∧ Lies w' p l ∧ l.length ≤ c ∧ (p = none → c = 0) ∧ Below w.heap.size w w' ∧ ∀ b off s, p = some ⟨b, off, s⟩ → w.heap.size ≤ b
theorem NewPost.none {err : Int} {w w' : World} (hB : Below w.heap.size w w') : NewPost err [] w (.returned (.tuple #[.slice .none 0 0, .int .i64 err])) w' := ⟨.none, 0, rfl, Lies.nil _ _, Nat.le_refl _, fun _ => rfl, hB, nofun⟩
theorem NewPost.tree {err : Int} {l : List Ent} {w w' : World} {e : Ending} (h : NewPost err l w e w') : TreePost err l w e w' := by
  obtain ⟨p, c, h1, h2, h3, h4, h5, _⟩ := h
  exact ⟨p, c, h1, h2, h3, h4, h5⟩
/-- The library's sort of a row of the call's own: what is seen. -/
theorem sort_rows {w w7 : World} {v : Value} {l t : List Ent} (h : Rows w7 w.heap.size v (ownL l ++ thruL l t)) (hP : ∀ e ∈ ownL l ++ thruL l t, e.path.size ≤ maxLen) (h80 : (ownL l ++ thruL l t).length ≤ 80) (hB : Below w.heap.size w w7) (hl : Sorted l) (ht : Sorted t) :
    ∃ p c, v = .slice p (ownL l ++ thruL l t).length c ∧ (ownL l ++ thruL l t).length ≤ c ∧ (p = none → c = 0) ∧ (∀ b off s, p = some ⟨b, off, s⟩ → w.heap.size ≤ b) ∧
      Calls Tryz.prog 104 #[.slice p (ownL l ++ thruL l t).length c, .func (.func 71) #[] #[]] w7 fun e w8 => e = .returned (.tuple #[]) ∧ Lies w8 p (overL l t) ∧ Below w.heap.size w w8 := by
  by_cases hv : v = .slice none 0 0
  · obtain ⟨p, c, hvv, hL, hc, hn⟩ := h.form
    rw [hv] at hvv
    have h0 : (ownL l ++ thruL l t).length = 0 := by injection hvv with _ h _; exact h.symm
    have hp : p = none := by injection hvv with h _ _; exact h.symm
    have hc0 : c = 0 := hn hp
    subst hp hc0
    have he := List.eq_nil_of_length_eq_zero h0
    refine ⟨none, 0, by rw [hv, h0], by omega, fun _ => rfl, nofun, ?_⟩
    rw [h0]
    refine (sort_nil w7).mono ?_
    rintro e w8 ⟨rfl, rfl⟩
    have : overL l t = [] := (over_of hl ht (r := []) (by rw [he]) List.Pairwise.nil).symm
    rw [this]
    exact ⟨rfl, Lies.nil _ _, hB⟩
  · obtain ⟨g, c, e, hg, ho⟩ := Own.of_row h hv rfl
    refine ⟨_, c, e, ho.len, nofun, fun b off s he => by cases he; exact hg, ?_⟩
    refine (sort_any _ g c w7 ho hP h80).mono ?_
    rintro e w8 ⟨rfl, l', hp, hs, hL, hG⟩
    rw [over_of hl ht hp hs] at hL
    exact ⟨rfl, hL, hB.grown hG hB.size (fun k hk => by cases hk; exact hg)⟩
set_option maxHeartbeats 8000000 in
set_option maxRecDepth 100000 in
theorem over_new (l t : List Ent) (m : Int) (pl p : Option Addr) (capl cap : Nat) (w : World) (hLl : Lies w pl l) (hL : Lies w p t) (hFl : Fits l) (hF : Fits t) (hnl : l.length < 4611686018427387904) (hn : t.length < 4611686018427387904) (hcapl : l.length ≤ capl) (hcap : t.length ≤ cap) (hm : w.cell? ⟨0, 0, none⟩ = some (.int .i64 m)) :
    Calls Tryz.prog 88 #[.slice pl l.length capl, .slice p t.length cap] w (NewPost (overErr l t) (if overErr l t = 0 then overL l t else []) w) := by
  have hwl := fun W (hB : Below w.heap.size w W) => layerWrong_any l m pl capl W (hLl.kept hB) hFl hnl hcapl (held hB hm)
  have hwt := fun W (hB : Below w.heap.size w W) => wrong_any t m p cap W (hL.kept hB) hF hn hcap (held hB hm)
  have hB : Below w.heap.size w w := Below.refl _ _
  have hfld := field40
  obtain ⟨er, hE⟩ : ∃ er, er = overErr l t := ⟨_, rfl⟩
  obtain ⟨rl, hl⟩ : ∃ rl, rl = if overErr l t = 0 then overL l t else [] := ⟨_, rfl⟩
  rw [← hl, ← hE]
  by_cases h1 : (faultL true l).1 = 0
  · by_cases h2 : (faultL false t).1 = 0
    · have HRl := faultL_zero.1 h1
      have HRt := faultL_zero.1 h2
      have hl80 := HRl.len
      have ht80 := HRt.len
      have how := fun W (hB : Below w.heap.size w W) => own_any l pl capl W (hLl.kept hB) hl80
      have hth := fun W (hB : Below w.heap.size w W) => through_any l t pl p capl cap W (hLl.kept hB) (hL.kept hB) hFl hF HRl.sorted hl80 ht80
      have HS : Aside (Sorted l ∧ Sorted t) := ⟨HRl.sorted, HRt.sorted⟩
      have ho80 : (ownL l).length ≤ 80 := by
        have := own_take_len l l.length
        rw [List.take_length] at this; omega
      have hh80 : (thruL l t).length ≤ 80 := by
        have := thru_take_len l t t.length
        rw [List.take_length] at this; omega
      have HP : Aside (∀ e ∈ ownL l ++ thruL l t, e.path.size ≤ maxLen) := fun e he => by
        rcases List.mem_append.1 he with he | he
        · obtain ⟨y, hy, _, rfl⟩ := mem_ownL.1 he
          exact (hFl y hy).1
        · exact (hF e (mem_thruL.1 he).1).1
      have HN : Aside (overN l t = (ownL l ++ thruL l t).length) := rfl
      have HOV : er = if 80 < overN l t then 5 else 0 := by rw [hE, overErr, if_pos h1, if_pos h2]
      have HRL : Aside (rl = if er = 0 then overL l t else []) := by show _ = _; rw [hl, hE]
      have HON : Aside (overN l t = (overL l t).length) := (over_len HRl.sorted HRt.sorted).symm
      rw [faultL_right HRl] at hwl
      rw [faultL_right HRt] at hwt
      clear hl hE h1 h2 HRl HRt hLl hL hFl hF hm
      obtain ⟨n, hnn⟩ : ∃ n, n = t.length := ⟨_, rfl⟩
      obtain ⟨nl, hnnl⟩ : ∃ nl, nl = l.length := ⟨_, rfl⟩
      rw [← hnn] at hwt hth
      rw [← hnnl] at hwl how hth
      rw [← hnn, ← hnnl]
      clear hnn hnnl hcapl hcap hn hnl hl80 ht80
      by_cases hN : 80 < overN l t
      · have HZ : Aside (er = 5 ∧ rl = []) := by rw [if_pos hN] at HOV; exact ⟨HOV, by rw [HRL.out, HOV]; rfl⟩
        have hNz : (80 : Int) < ((overN l t : Nat) : Int) := by omega
        clear HOV
        go_enter Tryz.func88, Tryz.ntmps88
        go_wp2_with (first
          | (go_at_call 48; refine (hwl _ hB).mono ?_; clear hwl; rintro e w1 ⟨rfl, hN1⟩; replace hB := Below.onto hB hN1; clear hN1)
          | (go_at_call 62; refine (hwt _ hB).mono ?_; clear hwt; rintro e w2 ⟨rfl, hN2⟩; replace hB := Below.onto hB hN2; clear hN2)
          | (go_at_call 61; refine (or2_any _ _ _).mono ?_; rintro e w4 ⟨rfl, hw⟩; subst hw; replace hB := hB.alloc hB.size (.cells #[.int .i64 0, .int .i64 0] 29); rw [show orL [0, 0] = 0 from rfl])
          | (go_at_call 106; refine (how _ hB).mono ?_; clear how; rintro e w5 ⟨⟨v5, rfl, hR5⟩, hN5⟩; replace hR5 := hR5.mono hB.size; replace hB := Below.onto hB hN5; clear hN5)
          | (go_at_call 107; refine (hth _ hB).mono ?_; clear hth; rintro e w6 ⟨⟨v6, rfl, hR6⟩, hN6⟩; replace hR5 := hR5.below hN6; replace hB := Below.onto hB hN6; clear hN6; obtain ⟨p6, c6, rfl, hL6, hc6, hn6⟩ := hR6.form; clear hR6)
          | (at_builtin; refine append_rows w6 rfl _ _ rfl w.heap.size _ (ownL l) rfl hR5 ho80 hB.size p6 _ c6 (thruL l t) rfl rfl hL6 hn6 hh80 ?_; intro v7 w7 hR7 hB7; replace hB := hB.trans hB7; clear hB7 hR5 hL6; obtain ⟨p7, c7, rfl, hL7, hc7, hn7⟩ := hR7.form; rw [← HN.out] at hc7 ⊢))
        go_ret2
        rw [HZ.out.1, HZ.out.2]
        exact NewPost.none hB
      · have HZ : Aside (er = 0 ∧ rl = overL l t) := by rw [if_neg hN] at HOV; exact ⟨HOV, by rw [HRL.out, HOV]; rfl⟩
        have hNz : ¬ (80 : Int) < ((overN l t : Nat) : Int) := by omega
        clear HOV
        go_enter Tryz.func88, Tryz.ntmps88
        go_wp2_with (first
          | (go_at_call 48; refine (hwl _ hB).mono ?_; clear hwl; rintro e w1 ⟨rfl, hN1⟩; replace hB := Below.onto hB hN1; clear hN1)
          | (go_at_call 62; refine (hwt _ hB).mono ?_; clear hwt; rintro e w2 ⟨rfl, hN2⟩; replace hB := Below.onto hB hN2; clear hN2)
          | (go_at_call 61; refine (or2_any _ _ _).mono ?_; rintro e w4 ⟨rfl, hw⟩; subst hw; replace hB := hB.alloc hB.size (.cells #[.int .i64 0, .int .i64 0] 29); rw [show orL [0, 0] = 0 from rfl])
          | (go_at_call 106; refine (how _ hB).mono ?_; clear how; rintro e w5 ⟨⟨v5, rfl, hR5⟩, hN5⟩; replace hR5 := hR5.mono hB.size; replace hB := Below.onto hB hN5; clear hN5)
          | (go_at_call 107; refine (hth _ hB).mono ?_; clear hth; rintro e w6 ⟨⟨v6, rfl, hR6⟩, hN6⟩; replace hR5 := hR5.below hN6; replace hB := Below.onto hB hN6; clear hN6; obtain ⟨p6, c6, rfl, hL6, hc6, hn6⟩ := hR6.form; clear hR6)
          | (at_builtin; refine append_rows w6 rfl _ _ rfl w.heap.size _ (ownL l) rfl hR5 ho80 hB.size p6 _ c6 (thruL l t) rfl rfl hL6 hn6 hh80 ?_; intro v7 w7 hR7 hB7; replace hB := hB.trans hB7; clear hB7 hR5 hL6; obtain ⟨p7, c7, rfl, hc7, hn7, hnw7, hso⟩ := sort_rows hR7 (HP.out) (by rw [← HN.out]; omega) hB HS.out.1 HS.out.2; rw [← HN.out] at hc7 hso ⊢)
          | (go_at_call 104; refine hso.mono ?_; clear hso; rintro e w8 ⟨rfl, hL8, hB8⟩))
        go_ret2
        rw [HZ.out.1, HZ.out.2]
        exact ⟨p7, c7, by rw [← HON.out]; rfl, hL8, by rw [← HON.out]; exact hc7, hn7, hB8, hnw7⟩
    · have HZ : Aside (er = (faultL false t).1 ∧ rl = []) := by
        have : er = (faultL false t).1 := by rw [hE, overErr, if_pos h1, if_neg h2]
        refine ⟨this, ?_⟩
        rw [hl, ← hE, this, if_neg h2]
      rw [h1] at hwl
      generalize (faultL false t).1 = f at hwt h2 HZ
      generalize ((faultL false t).2 : Int) = fa at hwt
      generalize ((faultL true l).2 : Int) = fb at hwl
      clear hl hE hLl hL hFl hF hm
      obtain ⟨n, hnn⟩ : ∃ n, n = t.length := ⟨_, rfl⟩
      obtain ⟨nl, hnnl⟩ : ∃ nl, nl = l.length := ⟨_, rfl⟩
      rw [← hnn] at hwt
      rw [← hnnl] at hwl
      rw [← hnn, ← hnnl]
      clear hnn hnnl hcapl hcap hn hnl
      have HOR : Aside (orL [0, f] = f) := by show _ = _; rw [orL, if_pos rfl, orL]; split <;> simp_all
      go_enter Tryz.func88, Tryz.ntmps88
      go_wp2_with (first
        | (go_at_call 48; refine (hwl _ hB).mono ?_; clear hwl; rintro e w1 ⟨rfl, hN1⟩; replace hB := Below.onto hB hN1; clear hN1)
        | (go_at_call 62; refine (hwt _ hB).mono ?_; clear hwt; rintro e w2 ⟨rfl, hN2⟩; replace hB := Below.onto hB hN2; clear hN2)
        | (go_at_call 61; refine (or2_any _ _ _).mono ?_; rintro e w4 ⟨rfl, hw⟩; subst hw; replace hB := hB.alloc hB.size (.cells #[.int .i64 0, .int .i64 f] 29); rw [HOR.out]))
      go_ret2
      rw [HZ.out.1, HZ.out.2]
      exact NewPost.none hB
  · have HZ : Aside (er = (faultL true l).1 ∧ rl = []) := by
      have : er = (faultL true l).1 := by rw [hE, overErr, if_neg h1]
      refine ⟨this, ?_⟩
      rw [hl, ← hE, this, if_neg h1]
    generalize (faultL false t).1 = f at hwt
    generalize ((faultL false t).2 : Int) = fa at hwt
    generalize (faultL true l).1 = g at hwl h1 HZ
    generalize ((faultL true l).2 : Int) = fb at hwl
    clear hl hE hLl hL hFl hF hm
    obtain ⟨n, hnn⟩ : ∃ n, n = t.length := ⟨_, rfl⟩
    obtain ⟨nl, hnnl⟩ : ∃ nl, nl = l.length := ⟨_, rfl⟩
    rw [← hnn] at hwt
    rw [← hnnl] at hwl
    rw [← hnn, ← hnnl]
    clear hnn hnnl hcapl hcap hn hnl
    have HOR : Aside (orL [g, f] = g) := by show _ = _; rw [orL, if_neg h1]
    go_enter Tryz.func88, Tryz.ntmps88
    go_wp2_with (first
      | (go_at_call 48; refine (hwl _ hB).mono ?_; clear hwl; rintro e w1 ⟨rfl, hN1⟩; replace hB := Below.onto hB hN1; clear hN1)
      | (go_at_call 62; refine (hwt _ hB).mono ?_; clear hwt; rintro e w2 ⟨rfl, hN2⟩; replace hB := Below.onto hB hN2; clear hN2)
      | (go_at_call 61; refine (or2_any _ _ _).mono ?_; rintro e w4 ⟨rfl, hw⟩; subst hw; replace hB := hB.alloc hB.size (.cells #[.int .i64 g, .int .i64 f] 29); rw [HOR.out]))
    go_ret2
    rw [HZ.out.1, HZ.out.2]
    exact NewPost.none hB
theorem over_any (l t : List Ent) (m : Int) (pl p : Option Addr) (capl cap : Nat) (w : World) (hLl : Lies w pl l) (hL : Lies w p t) (hFl : Fits l) (hF : Fits t) (hnl : l.length < 4611686018427387904) (hn : t.length < 4611686018427387904) (hcapl : l.length ≤ capl) (hcap : t.length ≤ cap) (hm : w.cell? ⟨0, 0, none⟩ = some (.int .i64 m)) :
    Calls Tryz.prog 88 #[.slice pl l.length capl, .slice p t.length cap] w (TreePost (overErr l t) (if overErr l t = 0 then overL l t else []) w) :=
  (over_new l t m pl p capl cap w hLl hL hFl hF hnl hn hcapl hcap hm).mono fun _ _ h => h.tree
end Go.Proofs.YtampldoimpfjgaaGreatDoor
namespace Go.Proofs.YtampldoimpfjgaaGreatDoor
open Go.RowKit Go.Shelf PM
set_option linter.unusedVariables false
attribute [local go_sem] Oper.semAt_some

/-- A layer in memory: where, how much room, what it has. -/
structure Lay where
  ad : Option Addr
  cap : Nat
  es : List Ent
/-- What a round keeps: what lay below, and the list's own box. -/
def KpB (n₀ Bs : Nat) (A B : World) : Prop := Below n₀ A B ∧ ∀ v, A.cell? ⟨Bs, 0, none⟩ = some v → B.cell? ⟨Bs, 0, none⟩ = some v
theorem KpB.refl (n₀ Bs : Nat) (A : World) : KpB n₀ Bs A A := ⟨Below.refl _ _, fun _ h => h⟩
theorem KpB.trans {n₀ Bs : Nat} {A B C : World} (h : KpB n₀ Bs A B) (k : KpB n₀ Bs B C) : KpB n₀ Bs A C := ⟨h.1.trans k.1, fun v hv => k.2 v (h.2 v hv)⟩

set_option maxRecDepth 100000 in
set_option maxHeartbeats 2000000 in
theorem back1_nil_in (F : Fence) (n : Nat) (h7 : F.fn 105) (hro : F.round = none) (l Bs : Nat) (a : Option Addr) (cap : Nat) (W : World) (hBs : W.cell? ⟨Bs, 0, none⟩ = some (.slice a 0 cap)) :
    CallsIn F n Tryz.prog 105 #[.func (.yield l) #[] #[], .pointer (some ⟨Bs, 0, none⟩)] W fun e W' => (∃ v, e = .returned v) ∧ W' = W := by
  refine callsIn_of_wp Tryz.func105 rfl h7 ?_ hro
  simp only [Tryz.ntmps105, List.size_toArray, List.length_cons, List.length_nil, Nat.reduceAdd, Nat.reduceSub, Array.replicate_succ, Array.replicate_zero, List.push_toArray, List.append_toArray, List.nil_append, List.cons_append]
  gi_wp2
  gi_loopw [3] (fun i wr => i = .int .i64 (-1) ∧ wr = W) (fun _ _ => 0)
  case atStart => exact ⟨rfl, rfl⟩
  case round =>
    obtain ⟨rfl, rfl⟩ := hrel
    gi_wp2
    go_end0
    exact ⟨⟨_, rfl⟩, rfl⟩

set_option maxRecDepth 100000 in
set_option maxHeartbeats 4000000 in
theorem back1_in {α : Type} (f : α → Nat × Lay) (F : Fence) (n : Nat) (h7 : F.fn 105) (hro : F.round = none) (hn : 1 ≤ n) (l Bs n₀ b off cap N : Nat) (us : List α) (hN : N = us.length) (h80 : N ≤ 80) (hb : b < n₀) (J Jx : List α → World → Prop)
    (hY : ∀ pre x W, J pre W → pre.length < N → YieldAt F (n - 1) Tryz.prog l #[.int .i64 ((f x).1 : Int), .slice (f x).2.ad (f x).2.es.length (f x).2.cap] W fun e W' =>
      (e = .returned (.bool true) ∧ J (pre ++ [x]) W' ∧ KpB n₀ Bs W W') ∨ (e = .returned (.bool false) ∧ Jx (pre ++ [x]) W'))
    (W : World) (hBs : W.cell? ⟨Bs, 0, none⟩ = some (.slice (some ⟨b, off, none⟩) N cap)) (hc : ∀ k x, us[k]? = some x → (f x).1 = N - 1 - k ∧ W.cell? ⟨b, off + (N - 1 - k), none⟩ = some (.slice (f x).2.ad (f x).2.es.length (f x).2.cap)) (h0 : J [] W) :
    CallsIn F n Tryz.prog 105 #[.func (.yield l) #[] #[], .pointer (some ⟨Bs, 0, none⟩)] W fun e W' => (∃ v, e = .returned v) ∧
      ((∃ ys, ys = us ∧ J ys W') ∨ (∃ pre, (∃ k, k ≤ N ∧ pre = us.take k) ∧ Jx pre W')) := by
  refine callsIn_of_wp Tryz.func105 rfl h7 ?_ hro
  simp only [Tryz.ntmps105, List.size_toArray, List.length_cons, List.length_nil, Nat.reduceAdd, Nat.reduceSub, Array.replicate_succ, Array.replicate_zero, List.push_toArray, List.append_toArray, List.nil_append, List.cons_append]
  have hw0 : IntKind.i64.wrap ((N : Int) - 1) = (N : Int) - 1 := by simp [IntKind.wrap, IntKind.bits, IntKind.signed]; omega
  gi_wp2
  gi_loopw [3] (fun i wr => ∃ k : Nat, k ≤ N ∧ i = .int .i64 ((N : Int) - 1 - k) ∧ J (us.take k) wr ∧ KpB n₀ Bs W wr) (fun i _ => (intOf i + 1).toNat)
  case atStart => exact ⟨0, Nat.zero_le _, by simp [hN], by simpa using h0, KpB.refl _ _ _⟩
  case round =>
    obtain ⟨k, hk, rfl, hJs, hnx⟩ := hrel
    by_cases hlt : k < N
    · obtain ⟨x, hx⟩ : ∃ x, us[k]? = some x := ⟨_, List.getElem?_eq_getElem (by omega)⟩
      obtain ⟨hf1, hcx0⟩ := hc k x hx
      have hcx := (hnx.1.cell (p := ⟨b, off + (N - 1 - k), none⟩) hb).trans hcx0
      have hbx := hnx.2 _ hBs
      obtain ⟨fn, tmps, assign, body, hy, hR⟩ := hY _ x wr hJs (by rw [List.length_take]; omega)
      have hsn : us.take k ++ [x] = us.take (k + 1) := by
        obtain ⟨h1, h2⟩ := List.getElem?_eq_some_iff.1 hx
        rw [List.take_succ_eq_append_getElem h1, h2]
      rw [hsn] at hR
      rw [hf1] at hy
      obtain ⟨j, hj⟩ : ∃ j, N - 1 - k = j := ⟨_, rfl⟩
      have hjz : (N : Int) - 1 - k = (j : Int) := by omega
      have hjN : j < N := by omega
      have hjNz : (j : Int) < (N : Int) := by omega
      have hj0 : (0 : Int) ≤ (j : Int) := by omega
      have hwj : IntKind.i64.wrap ((j : Int) - 1) = (j : Int) - 1 := by simp [IntKind.wrap, IntKind.bits, IntKind.signed]; omega
      rw [hj] at hcx hy
      rw [hjz]
      gi_wp2
      refine hR.mono ?_
      rintro e W3 (⟨rfl, hJ3, hk3⟩ | ⟨rfl, hJx3⟩)
      · gi_wp2
        go_roundw
        case rel => exact ⟨k + 1, by omega, by congr 1 <;> omega, hJ3, hnx.trans hk3⟩
        case measure => simp [intOf]
      · gi_wp2
        refine bodyPost_ret (results_none rfl _ _ _) rfl ?_
        exact ⟨⟨_, rfl⟩, .inr ⟨_, ⟨k + 1, by omega, rfl⟩, hJx3⟩⟩
    · obtain rfl : k = N := by omega
      have hjz : (k : Int) - 1 - k = -1 := by omega
      rw [hjz]
      gi_wp2
      go_end0
      refine ⟨⟨_, rfl⟩, .inl ⟨_, rfl, ?_⟩⟩
      rw [hN, List.take_length] at hJs
      exact hJs

set_option maxHeartbeats 1000000 in
/-- slices.Backward(s): the slice is boxed; the function value captures the box. -/
theorem back_in (F : Fence) (n : Nat) (h5 : F.fn 87) (hro : F.round = none) (a : Option Addr) (len cap : Nat) (w : World) :
    CallsIn F n Tryz.prog 87 #[.slice a len cap] w fun e w' => e = .returned (.func (.func 105) #[] #[.pointer (some ⟨w.heap.size, 0, none⟩)]) ∧ w' = w.alloc (.cells #[.slice a len cap] 24) := by
  refine callsIn_of_wp Tryz.func87 rfl h5 ?_ hro
  simp only [Tryz.ntmps87, List.size_toArray, List.length_cons, List.length_nil, Nat.reduceAdd, Nat.reduceSub, Array.replicate_succ, Array.replicate_zero, List.push_toArray, List.append_toArray, List.nil_append, List.cons_append]
  gi_wp2
  go_ret
  exact ⟨rfl, rfl⟩
/-- The layers that are handed out, one by one, from the last one on. -/
def BackOf {α : Type} (f : α → Nat × Lay) (us : List α) (W : World) (a : Option Addr) (n₀ N : Nat) : Prop :=
  N = us.length ∧ (us = [] ∨ ∃ b off, a = some ⟨b, off, none⟩ ∧ b < n₀ ∧ ∀ k x, us[k]? = some x → (f x).1 = N - 1 - k ∧ W.cell? ⟨b, off + (N - 1 - k), none⟩ = some (.slice (f x).2.ad (f x).2.es.length (f x).2.cap))
theorem back_stops {α : Type} (f : α → Nat × Lay) (F : Fence) (n : Nat) (h7 : F.fn 105) (hro : F.round = none) (hn : 1 ≤ n) (Bs n₀ N cap : Nat) (a : Option Addr) (us : List α) (h80 : N ≤ 80) (w : World) (hBs : Bs < w.heap.size) (hn₀ : n₀ ≤ w.heap.size)
    (hc : w.cell? ⟨Bs, 0, none⟩ = some (.slice a N cap)) (hI : BackOf f us w a n₀ N) :
    SeqStopsK F n Tryz.prog 105 #[.pointer (some ⟨Bs, 0, none⟩)] (fun x : α => #[Value.int .i64 ((f x).1 : Int), .slice (f x).2.ad (f x).2.es.length (f x).2.cap]) (KpB n₀ Bs) (fun ys => ys = us)
      (fun pre => ∃ k, k ≤ N ∧ pre = us.take k) N w := fun l J Jx W hW _ _ hY h0 => by
  have hc' := (hW.cell (p := ⟨Bs, 0, none⟩) hBs).trans hc
  obtain ⟨hN, rfl | ⟨b, off, rfl, hb, hcs⟩⟩ := hI
  · obtain rfl : N = 0 := hN
    exact (back1_nil_in F n h7 hro l Bs a cap W hc').mono fun e W' ⟨he, hw⟩ => ⟨he, .inl ⟨_, rfl, by rw [hw]; exact h0⟩⟩
  · exact back1_in f F n h7 hro hn l Bs n₀ b off cap N us hN h80 hb J Jx hY W hc' (fun k x hx => ⟨(hcs k x hx).1, ((hW.mono hn₀).cell (p := ⟨b, off + (N - 1 - k), none⟩) hb).trans (hcs k x hx).2⟩) h0
theorem kpB_b {w : World} {n₀ Bs : Nat} (h : n₀ ≤ w.heap.size) : ∀ (W : World) (l : Nat) (o o' : Obj), w.heap.size ≤ l → W.heap[l]? = some o → o.isCells = false → o.isWalk = false → KpB n₀ Bs W (W.putObj l o') := fun W l o o' h1 h2 h3 h4 =>
  ⟨belowK_b h W l o o' h1 h2 h3 h4, fun v hv => cell_kept hv (grownBy_putObj' W l o') (fun r e => by cases e; exact ⟨o, h2, h3⟩)⟩
end Go.Proofs.YtampldoimpfjgaaGreatDoor
namespace Go.Proofs.YtampldoimpfjgaaGreatDoor
open Go.RowKit Go.Shelf PM
set_option linter.unusedVariables false
attribute [local go_sem] Oper.semAt_some

/-- The list of layers lies in memory. -/
def LiesT (w : World) (p : Option Addr) (ls : List Lay) : Prop := ls = [] ∨ ∃ b off, p = some ⟨b, off, none⟩ ∧ b < w.heap.size ∧ ∀ j x, ls[j]? = some x → w.cell? ⟨b, off + j, none⟩ = some (.slice x.ad x.es.length x.cap)
structure LayOK (w : World) (x : Lay) : Prop where
  lies : Lies w x.ad x.es
  fits : Fits x.es
  cap : x.es.length ≤ x.cap
  small : x.es.length < 4611686018427387904
theorem LayOK.kept {w W : World} {x : Lay} (h : LayOK w x) (hB : Below w.heap.size w W) : LayOK W x := ⟨h.lies.kept hB, h.fits, h.cap, h.small⟩
abbrev Al (w : World) : Type := { x : Nat × Lay // LayOK w x.2 }
def esOf {w : World} (pre : List (Al w)) : List (List Ent) := (pre.map fun x => x.1.2.es).reverse
theorem esOf_snoc {w : World} (pre : List (Al w)) (x : Al w) : esOf (pre ++ [x]) = x.1.2.es :: esOf pre := by simp [esOf]
def usOf {w : World} (ls : List Lay) (h : ∀ x ∈ ls, LayOK w x) : List (Al w) := List.ofFn fun k : Fin ls.length => ⟨(ls.length - 1 - k, ls[ls.length - 1 - k]'(by have := k.2; omega)), h _ (List.getElem_mem _)⟩
theorem usOf_len {w : World} (ls : List Lay) (h : ∀ x ∈ ls, LayOK w x) : (usOf ls h).length = ls.length := by simp [usOf]
theorem usOf_at {w : World} {ls : List Lay} {h : ∀ x ∈ ls, LayOK w x} {k : Nat} {x : Al w} (hx : (usOf ls h)[k]? = some x) : x.1.1 = ls.length - 1 - k ∧ ls[ls.length - 1 - k]? = some x.1.2 := by
  unfold usOf at hx
  rw [List.getElem?_ofFn] at hx
  split at hx
  · rename_i hk
    cases hx
    exact ⟨rfl, List.getElem?_eq_getElem _⟩
  · cases hx
theorem usOf_es {w : World} (ls : List Lay) (h : ∀ x ∈ ls, LayOK w x) : esOf (usOf ls h) = ls.map (·.es) := by
  unfold esOf
  apply List.ext_getElem
  · simp [usOf]
  · intro i h1 h2
    simp [usOf] at h1 h2
    simp [usOf]
    congr 2
    omega
theorem mergeF_app : ∀ {a r : List (List Ent)}, ¬ (mergeF r).1 = 0 → mergeF (a ++ r) = ((mergeF r).1, [])
  | [], r, h => by
    have := mergeF_none h
    exact Prod.ext rfl this
  | x :: a, r, h => by
    have ih := mergeF_app (a := a) h
    show mergeF (x :: (a ++ r)) = _
    rw [mergeF_err (by rw [ih]; exact h), ih]
theorem right_fitsL {t : List Ent} (h : Right false t) : Fits t := fun e he => by
  have hw := h.each e he
  have h1 := clean_size (wrongE_clean hw)
  have h2 : e.text.size ≤ 100 := by
    unfold wrongE at hw
    split at hw
    · cases hw
    · split at hw
      · cases hw
      · split at hw
        · cases hw
        · omega
  unfold maxLen
  omega
theorem Lies.setFar {W : World} {p : Option Addr} {t : List Ent} (h : Lies W p t) (a : Addr) (v : Value) (hne : ∀ b off s, p = some ⟨b, off, s⟩ → a.block ≠ b) : Lies (W.setCell a v) p t := by
  rcases h with h | ⟨b, off, rfl, hb, hc⟩
  · exact .inl h
  · refine .inr ⟨b, off, rfl, by simpa using hb, fun j e he i v' hv => ?_⟩
    rw [World.cell?_setCell_far _ _ _ _ (hne b off none rfl)]
    exact hc j e he i v' hv
theorem Lies.keptBy {W W' : World} {p : Option Addr} {t : List Ent} {row : Option Nat} (h : Lies W p t) (hg : W.grownBy W' row) (hr : ∀ r, row = some r → ∃ o : Obj, W.heap[r]? = some o ∧ o.isCells = false) : Lies W' p t := by
  rcases h with h | ⟨b, off, rfl, hb, hc⟩
  · exact .inl h
  · exact .inr ⟨b, off, rfl, Nat.lt_of_lt_of_le hb hg.size, fun j e he i v' hv => cell_kept (hc j e he i v' hv) hg hr⟩
theorem keeps_of_below {W W' : World} (h : Below W.heap.size W W') : KeepsOthers W W' := ⟨h.size, fun k o hk _ => (h.block k (Array.getElem?_eq_some_iff.1 hk).1).trans hk⟩
theorem below_cf {W W2 : World} (h : Below W.heap.size W W2) {a : Addr} {v : Value} (hc : W.cell? a = some v) (hf : W.frozen? a = false) : W2.cell? a = some v ∧ W2.frozen? a = false :=
  ⟨(h.cell (block_lt_of_cell hc)).trans hc, (World.frozen?_of_block (h.block a.block (block_lt_of_cell hc))).trans hf⟩
/-- What a call of layer.Over answers in a round. -/
theorem over_round {w W : World} (m : Int) (x : Al w) (pre : List (Al w)) (pT : Option Addr) (cT : Nat) (hB : Below w.heap.size w W) (h0 : (mergeF (esOf pre)).1 = 0) (hL : Lies W pT (mergeF (esOf pre)).2) (hc : (mergeF (esOf pre)).2.length ≤ cT) (hm : w.cell? ⟨0, 0, none⟩ = some (.int .i64 m)) :
    Calls Tryz.prog 88 #[.slice x.1.2.ad x.1.2.es.length x.1.2.cap, .slice pT (mergeF (esOf pre)).2.length cT] W (NewPost (mergeF (esOf (pre ++ [x]))).1 (mergeF (esOf (pre ++ [x]))).2 W) := by
  have hr := mergeF_right h0
  have hx := x.2.kept hB
  have := over_new x.1.2.es (mergeF (esOf pre)).2 m x.1.2.ad pT x.1.2.cap cT W hx.lies hL hx.fits (right_fitsL hr) hx.small (by have := hr.len; omega) hx.cap hc (held hB hm)
  rw [esOf_snoc, mergeF_ok h0]
  exact this

set_option maxRecDepth 100000 in
set_option maxHeartbeats 4000000 in
theorem merge_many (n : Nat) (h5 : 5 < n) (p : Option Addr) (cap : Nat) (w : World) : Calls Tryz.prog 49 #[.slice p n cap] w (NewPost 5 [] w) := by
  have h5z : (5 : Int) < (n : Int) := by omega
  refine (callsIn_wide (n := 3)).1 ?_
  refine callsIn_of_wp_marks Tryz.func49 rfl trivial ?_ rfl
  simp only [Tryz.ntmps49, List.size_toArray, List.length_cons, List.length_nil, Nat.reduceAdd, Nat.reduceSub, Array.replicate_succ, Array.replicate_zero, List.push_toArray, List.append_toArray, List.nil_append, List.cons_append]
  gi_wp2
  refine ⟨.tuple #[.slice none 0 0, .int .i64 5], ?_, NewPost.none (((Below.refl _ w).alloc (Nat.le_refl _) _).alloc (by simp) _)⟩
  simp [results, Tryz.results49, go_sem]

set_option maxRecDepth 100000 in
set_option maxHeartbeats 8000000 in
theorem merge_few (ls : List Lay) (m : Int) (p : Option Addr) (cap : Nat) (w : World) (hT : LiesT w p ls) (hOK : ∀ x ∈ ls, LayOK w x) (h5 : ls.length ≤ 5) (hm : w.cell? ⟨0, 0, none⟩ = some (.int .i64 m)) :
    Calls Tryz.prog 49 #[.slice p ls.length cap] w (NewPost (mergeF (ls.map (·.es))).1 (mergeF (ls.map (·.es))).2 w) := by
  have h5z : ¬ (5 : Int) < (ls.length : Int) := by omega
  have hes := usOf_es ls hOK
  have hBK : BackOf (fun x : Al w => x.1) (usOf ls hOK) w p w.heap.size ls.length := by
    refine ⟨(usOf_len ls hOK).symm, ?_⟩
    rcases hT with h | ⟨b, off, hp, hb, hc⟩
    · left
      apply List.eq_nil_of_length_eq_zero
      rw [usOf_len, h]; rfl
    · exact .inr ⟨b, off, hp, hb, fun k x hx => ⟨(usOf_at hx).1, hc _ _ (usOf_at hx).2⟩⟩
  generalize usOf ls hOK = us at hes hBK
  rw [← hes]
  generalize ls.length = N at h5 h5z hBK
  clear hes hT hOK
  refine (callsIn_wide (n := 3)).1 ?_
  refine callsIn_of_wp_marks Tryz.func49 rfl trivial ?_ rfl
  simp only [Tryz.ntmps49, List.size_toArray, List.length_cons, List.length_nil, Nat.reduceAdd, Nat.reduceSub, Array.replicate_succ, Array.replicate_zero, List.push_toArray, List.append_toArray, List.nil_append, List.cons_append]
  gi_wp2_with (refine ⟨trivial, ?_⟩; gi_at_call 87; refine (back_in Fence.wide _ trivial rfl _ _ _ _).mono ?_; rintro e w' ⟨rfl, rfl⟩)
  have bR0 := Boxed.new w 23 (.slice none 0 0)
  have bR1 := Boxed.new (w.alloc (.cells #[.slice none 0 0] 23)) 29 (.int .i64 0)
  have bT := Boxed.new ((w.alloc (.cells #[.slice none 0 0] 23)).alloc (.cells #[.int .i64 0] 29)) 23 (.slice none 0 0)
  have bN := Boxed.new (((w.alloc (.cells #[.slice none 0 0] 23)).alloc (.cells #[.int .i64 0] 29)).alloc (.cells #[.slice none 0 0] 23)) 24 (.slice p N cap)
  simp only [World.size_alloc] at bR1 bT bN
  obtain ⟨W0, hW0⟩ : ∃ W0, (((w.alloc (.cells #[.slice none 0 0] 23)).alloc (.cells #[.int .i64 0] 29)).alloc (.cells #[.slice none 0 0] 23)).alloc (.cells #[.slice p N cap] 24) = W0 := ⟨_, rfl⟩
  have hB0 : Below w.heap.size w W0 := by
    rw [← hW0]
    exact ((((Below.refl _ w).alloc (Nat.le_refl _) _).alloc (by simp) _).alloc (by simp; omega) _).alloc (by simp; omega) _
  have hs0 : W0.heap.size = w.heap.size + 4 := by rw [← hW0]; simp
  have b0 : Boxed W0 w.heap.size 23 (.slice none 0 0) := by rw [← hW0]; exact ((bR0.alloc _).alloc _).alloc _
  have b1 : Boxed W0 (w.heap.size + 1) 29 (.int .i64 0) := by rw [← hW0]; exact (bR1.alloc _).alloc _
  have b2 : Boxed W0 (w.heap.size + 1 + 1) 23 (.slice none 0 0) := by rw [← hW0]; exact bT.alloc _
  have b3 : W0.cell? ⟨w.heap.size + 1 + 1 + 1, 0, none⟩ = some (.slice p N cap) := by rw [← hW0]; exact bN.cell
  have hBK0 : BackOf (fun x : Al w => x.1) us W0 p w.heap.size N := by
    obtain ⟨h1, h2 | ⟨b, off, hp, hb, hc⟩⟩ := hBK
    · exact ⟨h1, .inl h2⟩
    · exact ⟨h1, .inr ⟨b, off, hp, hb, fun k x hx => ⟨(hc k x hx).1, (hB0.cell (p := ⟨b, off + (N - 1 - k), none⟩) hb).trans (hc k x hx).2⟩⟩⟩
  rw [hW0]
  clear bR0 bR1 bT bN hBK
  refine wpIn_rangeFunc_ownG rfl (by omega) (gf := 105) (lb := #[.pointer (some ⟨w.heap.size + 1 + 1 + 1, 0, none⟩)]) rfl trivial (enters_of Tryz.func105 (by kernel_rfl) rfl)
    (back_stops (fun x : Al w => x.1) Fence.wide _ trivial rfl (by omega) (w.heap.size + 1 + 1 + 1) w.heap.size N cap p us (by omega) W0 (by omega) (by omega) b3 hBK0) KpB.trans (kpB_b (by omega)) (Below.refl _ _) (fun _ => rfl)
    (fun pre W => ((mergeF (esOf pre)).1 = 0 ∧ (W.cell? ⟨w.heap.size, 0, none⟩ = some (.slice none 0 0) ∧ W.frozen? ⟨w.heap.size, 0, none⟩ = false) ∧ (W.cell? ⟨w.heap.size + 1, 0, none⟩ = some (.int .i64 0) ∧ W.frozen? ⟨w.heap.size + 1, 0, none⟩ = false) ∧
      ∃ pT cT, (W.cell? ⟨w.heap.size + 1 + 1, 0, none⟩ = some (.slice pT (mergeF (esOf pre)).2.length cT) ∧ W.frozen? ⟨w.heap.size + 1 + 1, 0, none⟩ = false) ∧ Lies W pT (mergeF (esOf pre)).2 ∧ (mergeF (esOf pre)).2.length ≤ cT ∧ (pT = none → cT = 0) ∧ ∀ b off s, pT = some ⟨b, off, s⟩ → w.heap.size + 3 ≤ b) ∧ Below w.heap.size w W)
    (fun c pre W => (c = .ret ∧ ¬ (mergeF (esOf pre)).1 = 0 ∧ W.cell? ⟨w.heap.size, 0, none⟩ = some (.slice none 0 0) ∧ W.cell? ⟨w.heap.size + 1, 0, none⟩ = some (.int .i64 (mergeF (esOf pre)).1)) ∧ Below w.heap.size w W)
    (OwnFrom.and (Own.from (fun s A B row hs hg hr => ⟨hs.1, ⟨cell_kept hs.2.1.1 hg hr, (frozen_kept hs.2.1.1 hg hr).trans hs.2.1.2⟩, ⟨cell_kept hs.2.2.1.1 hg hr, (frozen_kept hs.2.2.1.1 hg hr).trans hs.2.2.1.2⟩, by
      obtain ⟨pT, cT, ⟨e1, e2⟩, e3, e4⟩ := hs.2.2.2
      exact ⟨pT, cT, ⟨cell_kept e1 hg hr, (frozen_kept e1 hg hr).trans e2⟩, e3.keptBy hg hr, e4⟩⟩) _) (ownFrom_below (Nat.le_refl _) (by omega)))
    (fun c => OwnFrom.and (Own.from (fun s A B row hs hg hr => ⟨hs.1, hs.2.1, cell_kept hs.2.2.1 hg hr, cell_kept hs.2.2.2 hg hr⟩) _) (ownFrom_below (Nat.le_refl _) (by omega)))
    ⟨⟨rfl, ⟨b0.cell, b0.frozen⟩, ⟨b1.cell, b1.frozen⟩, none, 0, ⟨b2.cell, b2.frozen⟩, Lies.nil _ _, Nat.le_refl _, fun _ => rfl, nofun⟩, hB0⟩
    (fun x => { tmps := #[.slice p N cap, undef, .pointer (some ⟨w.heap.size, 0, none⟩), .pointer (some ⟨w.heap.size + 1, 0, none⟩), .pointer (some ⟨w.heap.size + 1 + 1, 0, none⟩), undef, (.slice x.1.2.ad x.1.2.es.length x.1.2.cap), undef, undef, .slice p N cap, .int .i64 (N : Int), .bool false, .slice p N cap, .func (.func 105) #[] #[.pointer (some ⟨w.heap.size + 1 + 1 + 1, 0, none⟩)], .int .i64 (x.1.1 : Int), (.slice x.1.2.ad x.1.2.es.length x.1.2.cap), undef, undef, undef, undef, undef, undef, undef, undef, undef, undef, undef], defers := [] }) ?assign ?body ?done ?stop
  case assign =>
    intro l x W K hK
    gi_wp2
    exact hK
  case body =>
    rintro l pre x W ⟨⟨hz, ⟨r0, f0⟩, ⟨r1, f1⟩, pT, cT, ⟨t0, g0⟩, hLT, hcT, hnT, hbT⟩, hB⟩ _
    have hov := over_round m x pre pT cT hB hz hLT hcT hm
    have hsW := hB.size
    generalize hmp : mergeF (esOf (pre ++ [x])) = mp at hov
    generalize (mergeF (esOf pre)).2.length = lT at t0 hov hcT
    have hTl := block_lt_of_cell t0
    simp only at hTl
    have hne02 : w.heap.size ≠ w.heap.size + 1 + 1 := by omega
    have hne12 : w.heap.size + 1 ≠ w.heap.size + 1 + 1 := by omega
    by_cases hmz : mp.1 = 0
    · rw [hmz] at hov
      gi_wp2_with (refine ⟨trivial, ?_⟩; gi_at_call 88; refine (CallsIn.inRound l (callsIn_wide.2 hov)).mono ?_; clear hov; rintro e W2 ⟨p2, c2, rfl, hL2, hc2, hn2, hN2, hnew⟩; obtain ⟨r0', f0'⟩ := below_cf hN2 r0 f0; obtain ⟨r1', f1'⟩ := below_cf hN2 r1 f1; obtain ⟨t0', g0'⟩ := below_cf hN2 t0 g0)
      refine ⟨((keeps_of_below hN2).trans (KeepsOthers.setCell _ _ _)).from _, ⟨(hN2.mono hsW).setCell (p := ⟨w.heap.size + 1 + 1, 0, none⟩) (by simp only; omega) _, fun v hv => ?_⟩, ⟨?_, ⟨?_, ?_⟩, ⟨?_, ?_⟩, p2, c2, ⟨?_, ?_⟩, ?_, ?_, hn2, ?_⟩, ?_⟩
      · rw [World.cell?_setCell_far _ _ _ _ (by simp only; omega)]
        exact (hN2.cell (block_lt_of_cell hv)).trans hv
      · rw [hmp]; exact hmz
      · rw [World.cell?_setCell_far _ _ _ _ (by simp only; omega)]; exact r0'
      · rw [World.frozen?_setCell]; exact f0'
      · rw [World.cell?_setCell_far _ _ _ _ (by simp only; omega)]; exact r1'
      · rw [World.frozen?_setCell]; exact f1'
      · rw [hmp]; exact World.cell?_setCell_same' _ _ _ (by rw [t0']; rfl)
      · rw [World.frozen?_setCell]; exact g0'
      · rw [hmp]; exact hL2.setFar _ _ (fun b off s h => by have := hnew b off s h; simp only; omega)
      · rw [hmp]; exact hc2
      · intro b off s h
        have := hnew b off s h
        omega
      · exact (Below.onto hB hN2).setCell (p := ⟨w.heap.size + 1 + 1, 0, none⟩) (by simp only; omega) _
    · gi_wp2_with (refine ⟨trivial, ?_⟩; gi_at_call 88; refine (CallsIn.inRound l (callsIn_wide.2 hov)).mono ?_; clear hov; rintro e W2 ⟨p2, c2, rfl, hL2, hc2, hn2, hN2, hnew⟩; obtain ⟨r0', f0'⟩ := below_cf hN2 r0 f0; obtain ⟨r1', f1'⟩ := below_cf hN2 r1 f1; obtain ⟨t0', g0'⟩ := below_cf hN2 t0 g0)
      refine ⟨(((keeps_of_below hN2).trans (KeepsOthers.setCell _ _ _)).trans (KeepsOthers.setCell _ _ _)).from _, ⟨rfl, by rw [hmp]; exact hmz, ?_, ?_⟩, ?_⟩
      · rw [World.cell?_setCell_far _ _ _ _ (by simp only; omega)]; exact World.cell?_setCell_same' _ _ _ (by rw [r0']; rfl)
      · rw [hmp]; exact World.cell?_setCell_same' _ _ _ (by rw [World.cell?_setCell_far _ _ _ _ (by simp only; omega), r1']; rfl)
      · exact ((Below.onto hB hN2).setCell (p := ⟨w.heap.size, 0, none⟩) (Nat.le_refl _) _).setCell (p := ⟨w.heap.size + 1, 0, none⟩) (by simp) _
  case done =>
    rintro D ys W hD rfl ⟨⟨hz, ⟨r0, f0⟩, ⟨r1, f1⟩, pT, cT, ⟨t0, g0⟩, hLT, hcT, hnT, hbT⟩, hB⟩ hK
    gi_wp2
    have hK2 := ((KeepsOthers.setCell W ⟨w.heap.size, 0, none⟩ (.slice pT (mergeF (esOf ys)).2.length cT)).trans (KeepsOthers.setCell _ ⟨w.heap.size + 1, 0, none⟩ (.int .i64 0))).same D _ hK rfl
    refine ⟨by simp, .inl ⟨_, _, rfl, run_takeDeferred hK2, ?_⟩⟩
    have hg := grownBy_putObj' ((W.setCell ⟨w.heap.size, 0, none⟩ (.slice pT (mergeF (esOf ys)).2.length cT)).setCell ⟨w.heap.size + 1, 0, none⟩ (.int .i64 0)) D (.deferred none)
    have hr : ∀ r, some D = some r → ∃ o : Obj, ((W.setCell ⟨w.heap.size, 0, none⟩ (.slice pT (mergeF (esOf ys)).2.length cT)).setCell ⟨w.heap.size + 1, 0, none⟩ (.int .i64 0)).heap[r]? = some o ∧ o.isCells = false := fun r e => by cases e; exact ⟨_, hK2, rfl⟩
    have c0 := cell_kept (a := ⟨w.heap.size, 0, none⟩) (v := .slice pT (mergeF (esOf ys)).2.length cT) (by rw [World.cell?_setCell_far _ _ _ _ (by simp only; omega)]; exact World.cell?_setCell_same' _ _ _ (by rw [r0]; rfl)) hg hr
    have c1 := cell_kept (a := ⟨w.heap.size + 1, 0, none⟩) (v := .int .i64 0) (World.cell?_setCell_same' _ _ _ (by rw [World.cell?_setCell_far _ _ _ _ (by simp only; omega), r1]; rfl)) hg hr
    refine ⟨.tuple #[.slice pT (mergeF (esOf ys)).2.length cT, .int .i64 0], ?_, ?_⟩
    · simp [results, Tryz.results49, go_sem, c0, c1]
    · rw [hz]
      refine ⟨pT, cT, rfl, ((hLT.setFar _ _ (fun b off s h => by have := hbT b off s h; simp only; omega)).setFar _ _ (fun b off s h => by have := hbT b off s h; simp only; omega)).keptBy hg hr, hcT, hnT, ?_, fun b off s h => by have := hbT b off s h; omega⟩
      exact ((hB.setCell (p := ⟨w.heap.size, 0, none⟩) (Nat.le_refl _) _).setCell (p := ⟨w.heap.size + 1, 0, none⟩) (by simp) _).trans (belowK_b (w := w) (Nat.le_refl _) _ D _ _ (by omega) hK2 rfl rfl)
  case stop =>
    rintro D c pre W hD ⟨k, hk, rfl⟩ ⟨⟨rfl, hz, r0, r1⟩, hB⟩ hK
    gi_wp2
    refine ⟨by simp, .inl ⟨_, _, rfl, run_takeDeferred hK, ?_⟩⟩
    have hg := grownBy_putObj' W D (.deferred none)
    have hr : ∀ r, some D = some r → ∃ o : Obj, W.heap[r]? = some o ∧ o.isCells = false := fun r e => by cases e; exact ⟨_, hK, rfl⟩
    have c0 := cell_kept r0 hg hr
    have c1 := cell_kept r1 hg hr
    have hall : mergeF (esOf us) = ((mergeF (esOf (us.take k))).1, []) := by
      have : esOf us = esOf (us.drop k) ++ esOf (us.take k) := by
        unfold esOf
        rw [← List.reverse_append, ← List.map_append, List.take_append_drop]
      rw [this]
      exact mergeF_app hz
    refine ⟨.tuple #[.slice none 0 0, .int .i64 (mergeF (esOf (us.take k))).1], ?_, ?_⟩
    · simp [results, Tryz.results49, go_sem, c0, c1]
    · rw [hall]
      exact NewPost.none (hB.trans (belowK_b (w := w) (Nat.le_refl _) W D _ _ (by omega) hK rfl rfl))
theorem merge_new (ls : List Lay) (m : Int) (p : Option Addr) (cap : Nat) (w : World) (hT : LiesT w p ls) (hOK : ∀ x ∈ ls, LayOK w x) (hm : w.cell? ⟨0, 0, none⟩ = some (.int .i64 m)) :
    Calls Tryz.prog 49 #[.slice p ls.length cap] w (NewPost (mergeL (ls.map (·.es))).1 (mergeL (ls.map (·.es))).2 w) := by
  unfold mergeL
  rw [List.length_map]
  by_cases h5 : 5 < ls.length
  · rw [if_pos h5]
    exact merge_many ls.length h5 p cap w
  · rw [if_neg h5]
    exact merge_few ls m p cap w hT hOK (by omega) hm
theorem merge_any (ls : List Lay) (m : Int) (p : Option Addr) (cap : Nat) (w : World) (hT : LiesT w p ls) (hOK : ∀ x ∈ ls, LayOK w x) (hm : w.cell? ⟨0, 0, none⟩ = some (.int .i64 m)) :
    Calls Tryz.prog 49 #[.slice p ls.length cap] w (TreePost (mergeL (ls.map (·.es))).1 (mergeL (ls.map (·.es))).2 w) :=
  (merge_new ls m p cap w hT hOK hm).mono fun _ _ h => h.tree
end Go.Proofs.YtampldoimpfjgaaGreatDoor
namespace Go.Proofs.YtampldoimpfjgaaGreatDoor
open Go.RowKit PM Go.Sort
set_option linter.unusedVariables false

def Lay.v (x : Lay) : Value := .slice x.ad x.es.length x.cap
theorem infoT : ∃ i0, Tryz.prog.info? 23 = some i0 ∧ i0.zero = some (.slice none 0 0) ∧ i0.size = 1 ∧ i0.bytes = 24 := by
  have h : (Tryz.prog.info? 23).map (fun i => (i.zero, i.size, i.bytes)) = some (some (.slice none 0 0), 1, 24) := by kernel_rfl
  cases hi : Tryz.prog.info? 23 with
  | none => rw [hi] at h; cases h
  | some i0 =>
    rw [hi] at h
    simp only [Option.map_some, Option.some.injEq, Prod.mk.injEq] at h
    exact ⟨i0, rfl, h.1, h.2.1, h.2.2⟩
/-- The slice v holds the layers ls, in memory of the call's own from 'base' on. -/
def RowsT (w : World) (base : Nat) (v : Value) (ls : List Lay) : Prop := w.ownsRow base 23 1 v ls.length (ls.map Lay.v)
theorem RowsT.new (w : World) (H : Nat) (hH : H = w.heap.size) : RowsT (w.alloc (.cells #[] 23)) H (.slice (some ⟨H, 0, none⟩) 0 0) [] := by
  subst hH
  exact ⟨rfl, .inr ⟨w.heap.size, 0, #[], rfl, Nat.le_refl _, (by show (w.heap.push _)[w.heap.size]? = _; simp), Nat.le_refl _, by decide, rfl, rfl⟩⟩
theorem RowsT.alloc {w : World} {base : Nat} {v : Value} {ls : List Lay} (h : RowsT w base v ls) (o : Obj) : RowsT (w.alloc o) base v ls := World.ownsRow.alloc h o
theorem RowsT.form {w : World} {base : Nat} {v : Value} {ls : List Lay} (h : RowsT w base v ls) : ∃ p c, v = .slice p ls.length c ∧ LiesT w p ls := by
  obtain ⟨h1, ⟨h2, h3⟩ | ⟨g, cap, cur, hv', hg, hh, hnc, hm, hs, ht⟩⟩ := h
  · have : ls = [] := List.eq_nil_of_length_eq_zero h3
    subst this
    exact ⟨none, 0, h2, .inl rfl⟩
  · refine ⟨some ⟨g, 0, none⟩, cap, hv', .inr ⟨g, 0, rfl, ?_, fun j x hx => ?_⟩⟩
    · rcases Nat.lt_or_ge g w.heap.size with h' | h'
      · exact h'
      · rw [Array.getElem?_eq_none h'] at hh; cases hh
    · have hj := (List.getElem?_eq_some_iff.1 hx).1
      have h0 : (ls.map Lay.v)[j]? = some x.v := by rw [List.getElem?_map, hx]; rfl
      rw [← ht, List.getElem?_take] at h0
      split at h0
      · simp only [World.cell?, hh]
        simpa [Lay.v] using h0
      · cases h0
/-- 'append(v, t...)': layers behind a row of the call's own. -/
theorem append_lays {ops : Array Oper} {rest : List Oper} {o : Oper} {a : Act} {Q : Exit → Act → World → Prop} (X : World) (hgd : o.guard = none) (s x : Operand)
    (ho : o.op = .call { callee := .builtin .append, args := #[s, x], argTypes := #[24, 24] }) (base : Nat) (v : Value) (l : List Lay) (hs : a.eval s = v) (hrow : RowsT X base v l) (hlen : l.length ≤ 80) (hbase : base ≤ X.heap.size)
    (p : Option Addr) (n cap : Nat) (t : List Lay) (hx : a.eval x = .slice p n cap) (hn : n = t.length) (hL : t = [] ∨ ∃ ad, p = some ad ∧ ∀ j y, t[j]? = some y → X.cell? (ad.add j) = some y.v) (hnil : p = none → cap = 0) (h80 : n ≤ 80)
    (h : ∀ v' w', RowsT w' base v' (l ++ t) → Below base X w' → wpList Tryz.prog ops Q rest (a.put o.dst v') w') :
    wpList Tryz.prog ops Q (o :: rest) a X := by
  obtain ⟨i0, hi, hz0, hz1, hz2⟩ := infoT
  cases p with
  | none =>
    obtain rfl : cap = 0 := hnil rfl
    have ht : t = [] := by
      rcases hL with h | ⟨ad, he, _⟩
      · exact h
      · cases he
    subst ht
    obtain rfl : n = 0 := hn
    refine wpList_append_own_none hgd s x 24 ho base 23 i0 1 Tryz.underlying24 hi v l.length (l.map Lay.v) hs hrow hx ?_
    exact h v X (by rw [List.append_nil]; exact hrow) (Below.refl _ _)
  | some ad =>
    refine wpList_append_own X hgd s x 24 ho base 23 i0 _ 1 24 Tryz.underlying24 hi hz0 hz1 hz2 rfl (by decide) v l.length (l.map Lay.v) hs hrow ad n cap (t.map Lay.v) hx (by rw [List.length_map, hn]; omega) (fun j u hu => ?_) (fun u hu => ?_) (by unfold maxLen; omega) (by omega) hbase ?_
    · rw [List.getElem?_map] at hu
      obtain ⟨y, hy, rfl⟩ := Option.map_eq_some_iff.1 hu
      rcases hL with h | ⟨ad', he, hc⟩
      · rw [h] at hy; simp at hy
      · cases he
        exact hc j y hy
    · obtain ⟨y, _, rfl⟩ := List.mem_map.1 hu
      rfl
    · intro v' w' hown hg _
      refine h v' w' ?_ ((Below.refl base X).grown hg hbase (fun j hj => (World.ownsRow.lt hrow j hj).1))
      unfold RowsT
      rw [List.length_append, List.map_append, ← hn]
      exact hown
theorem LiesT.kept {w W : World} {p : Option Addr} {ls : List Lay} (h : LiesT w p ls) (hB : Below w.heap.size w W) : LiesT W p ls := by
  rcases h with h | ⟨b, off, hp, hb, hc⟩
  · exact .inl h
  · exact .inr ⟨b, off, hp, Nat.lt_of_lt_of_le hb hB.size, fun j x hx => (hB.cell (p := ⟨b, off + j, none⟩) hb).trans (hc j x hx)⟩
end Go.Proofs.YtampldoimpfjgaaGreatDoor
