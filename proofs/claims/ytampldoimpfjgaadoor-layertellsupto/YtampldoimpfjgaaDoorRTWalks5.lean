/-
  What the document's own answers traceref1.Without and traceref1.With answer; plain mathematics of it.
-/
import Derived.Test.YtampldoimpfjgaaDoorRTWalks4
import Derived.Test.YtampldoimpfjgaaDoorTMove3
import Derived.Test.YtampldoimpfjgaaDoorTRows
namespace Go.Proofs.YtampldoimpfjgaaDoor
open Go.RowKit PM Go.Sort
set_option linter.unusedVariables false

def remUnder (t : List Ent) (q : List UInt8) : List Ent := t.filter fun x => !decide (x.p = q) && !under x.p q
theorem remUnder_step {t : List Ent} {k : Nat} {y : Ent} {q : List UInt8} (hy : t[k]? = some y) : remUnder (t.take (k + 1)) q = remUnder (t.take k) q ++ (if y.p = q then [] else if under y.p q then [] else [y]) := by
  unfold remUnder
  rw [take_step hy, List.filter_append]
  by_cases h1 : y.p = q <;> by_cases h2 : under y.p q = true <;> simp [h1, h2]
set_option maxHeartbeats 4000000 in
set_option maxRecDepth 100000 in
theorem refWithout_wide (t : List Ent) (q : ByteArray) (p : Option Addr) (cap : Nat) (w : World) (hL : Lies w p t) (hF : ∀ e ∈ t, e.path.size ≤ 1048576) (hq : q.size ≤ maxLen) (hn80 : t.length ≤ 10000) :
    Calls Tryd.prog 70 #[.slice p t.length cap, .string q] w (RowsPost (remUnder t q.data.toList) w) := by
  have HF : Aside (∀ e ∈ t, e.path.size ≤ 1048576) := hF
  have HL : Aside (Lies w p t) := hL
  obtain ⟨i0, hi, hz0, hz1, hz2⟩ := info38
  obtain ⟨n, hnl⟩ : ∃ n, n = t.length := ⟨_, rfl⟩
  have HN : Aside (n = t.length) := hnl
  rw [← hnl] at hn80 ⊢
  clear hnl hL hF
  go_enter Tryd.func70, Tryd.ntmps70
  go_wp2
  go_loopg [5, 10] n (fun gg v i wr => ∃ (k : Nat) (l : List Ent), k ≤ n ∧ n - k ≤ gg ∧ i = .int .i64 k ∧ l.length ≤ k ∧ Aside (Rows wr w.heap.size v l) ∧ Aside (Below w.heap.size w wr) ∧ Aside (l = remUnder (t.take k) q.data.toList))
  case atStart => exact ⟨0, [], Nat.zero_le _, by omega, rfl, Nat.le_refl _, Rows.nil _ _, Below.refl _ _, by simp [remUnder, Aside]⟩
  case round =>
    obtain ⟨k, l, hk, hgg, rfl, hbl, ST, BW, NM⟩ := hrel
    by_cases hlt : k < n
    · have hltz : (k : Int) < (n : Int) := by omega
      obtain ⟨y, hy⟩ : ∃ y, t[k]? = some y := ⟨_, List.getElem?_eq_getElem (by have := HN.out; omega)⟩
      have HY : Aside (t[k]? = some y) := hy
      have hyf := HF.out y (List.mem_of_getElem? hy)
      rcases HL.out with h0 | ⟨b, off, rfl, hb, hc⟩
      · rw [h0] at hy; simp at hy
      obtain ⟨c0, c1, c2, c3⟩ := Lies.cells hc hb BW.out hy
      clear hc hy
      have hun := fun W => refUnder_any y.path q W (by unfold maxLen; omega) hq
      by_cases hpq : y.path.data.toList = q.data.toList
      · obtain ⟨he1, he2⟩ := eq_parts hpq
        have HP : Aside (y.p = q.data.toList) := hpq
        clear hpq hun
        go_wp2
        go_roundg (n - (k + 1))
        case measure => omega
        case rel => exact ⟨k + 1, l, by omega, by omega, by go_num, by omega, ST.out.below ((Grown.refl wr).alloc _).below, BW.out.alloc BW.out.size _, by
            show _ = _
            rw [remUnder_step HY.out, if_pos HP.out, List.append_nil, NM.out]⟩
      · obtain ⟨he1, he2⟩ := ne_parts hpq
        have HP : Aside (¬ y.p = q.data.toList) := hpq
        clear hpq
        have HU : Aside (∀ b, under y.path.data.toList q.data.toList = b → under y.p q.data.toList = b) := fun b h => h
        generalize hub : under y.path.data.toList q.data.toList = u at hun
        have HUB : Aside (under y.p q.data.toList = u) := hub
        clear hub HU
        have hS3 : (wr.alloc (.cells #[.string y.path, .int .i64 y.kind, .string y.text, .bool y.opq] 38)).ownsRow w.heap.size 38 4 u5 l.length (l.flatMap encE) := ST.out.below ((Grown.refl wr).alloc _).below
        cases u with
        | true =>
          clear hS3
          go_wp2_with (go_at_call 19; refine (hun _).mono ?_; clear hun; rintro rr w2 ⟨rfl, hw2⟩; subst w2)
          go_roundg (n - (k + 1))
          case measure => omega
          case rel => exact ⟨k + 1, l, by omega, by omega, by go_num, by omega, ST.out.below ((Grown.refl wr).alloc _).below, BW.out.alloc BW.out.size _, by
              show _ = _
              rw [remUnder_step HY.out, if_neg HP.out, if_pos HUB.out, List.append_nil, NM.out]⟩
        | false =>
          go_wp2_with (first
            | (go_at_call 19; refine (hun _).mono ?_; clear hun; rintro rr w2 ⟨rfl, hw2⟩; subst w2)
            | (at_builtin; refine wpList_append_own _ rfl _ _ 36 rfl w.heap.size 38 i0 _ 4 48 Tryd.underlying36 hi hz0 hz1 hz2 rfl (by decide) _ _ _ rfl (hS3.alloc _) ⟨wr.heap.size + 1, 0, none⟩ 1 1 (encE y) rfl rfl ?c1 ?c2 ?c3 ?c4 ?c5 ?_))
          case c1 => exact row_one_new _ _ _ (by simp)
          case c2 => exact fun u hu => flat_one (t := [y]) (by simpa using hu)
          case c3 => unfold maxLen; omega
          case c4 => omega
          case c5 => have := BW.out.size; simp; omega
          · intro v' w4 hown hgrow _
            have HB4 : Aside (Below w.heap.size w w4) := below_build BW.out BW.out.size (Grown.refl _) _ hgrow (fun j hj => (hS3.lt j hj).1)
            have HS4 : Aside (Rows w4 w.heap.size v' (l ++ [y])) := by simpa [Rows, Aside] using hown
            clear hown hgrow
            go_wp2
            go_roundg (n - (k + 1))
            case measure => omega
            case rel => exact ⟨k + 1, l ++ [y], by omega, by omega, by go_num, by simp; omega, HS4.out, HB4.out, by
                show _ = _
                rw [remUnder_step HY.out, if_neg HP.out, if_neg (by rw [HUB.out]; decide), NM.out]⟩
    · have hltz : ¬ (k : Int) < (n : Int) := by omega
      have HE : Aside (remUnder t q.data.toList = l) := by
        show _ = _
        rw [NM.out, List.take_of_length_le (by have := HN.out; omega)]
      go_wp2
      go_ret
      exact ⟨⟨_, rfl, by rw [HE.out]; exact ST.out⟩, BW.out⟩
end Go.Proofs.YtampldoimpfjgaaDoor
namespace Go.Proofs.YtampldoimpfjgaaDoor
open Go.RowKit PM Go.Sort
set_option linter.unusedVariables false
theorem refWithout_any (t : List Ent) (q : ByteArray) (p : Option Addr) (cap : Nat) (w : World) (hL : Lies w p t) (hF : ∀ e ∈ t, e.path.size ≤ 1048576) (hq : q.size ≤ maxLen) (hn80 : t.length ≤ 80) :
    Calls Tryd.prog 70 #[.slice p t.length cap, .string q] w (RowsPost (remUnder t q.data.toList) w) :=
  refWithout_wide t q p cap w hL hF hq (by omega)
def withF (e : Ent) (s : List Ent × Bool) (x : Ent) : List Ent × Bool :=
  if s.2 = false ∧ ¬ cmp x.p e.p < 0 then (s.1 ++ [e] ++ (if x.p = e.p then [] else [x]), true)
  else (s.1 ++ (if x.p = e.p then [] else [x]), s.2)
def withS (t : List Ent) (e : Ent) : List Ent × Bool := t.foldl (withF e) ([], false)
def withL (t : List Ent) (e : Ent) : List Ent := if (withS t e).2 then (withS t e).1 else (withS t e).1 ++ [e]
theorem withS_step {t : List Ent} {k : Nat} {y e : Ent} (hy : t[k]? = some y) : withS (t.take (k + 1)) e = withF e (withS (t.take k) e) y := by
  unfold withS
  rw [take_step hy, List.foldl_append]; rfl

set_option maxHeartbeats 4000000 in
set_option maxRecDepth 100000 in
theorem refWith_wide (t : List Ent) (e : Ent) (p : Option Addr) (cap : Nat) (w : World) (hL : Lies w p t) (hF : ∀ e ∈ t, e.path.size ≤ 1048576) (he : e.path.size ≤ 1048576) (hn80 : t.length ≤ 10000) :
    Calls Tryd.prog 66 #[.slice p t.length cap, .agg #[.string e.path, .int .i64 e.kind, .string e.text, .bool e.opq]] w (RowsPost (withL t e) w) := by
  have HF : Aside (∀ e ∈ t, e.path.size ≤ 1048576) := hF
  have HL : Aside (Lies w p t) := hL
  obtain ⟨i0, hi, hz0, hz1, hz2⟩ := info38
  obtain ⟨n, hnl⟩ : ∃ n, n = t.length := ⟨_, rfl⟩
  have HN : Aside (n = t.length) := hnl
  rw [← hnl] at hn80 ⊢
  clear hnl hL hF
  go_enter Tryd.func66, Tryd.ntmps66
  go_wp2
  go_loopg [5, 6, 11] n (fun gg v d i wr => ∃ (k : Nat) (l : List Ent) (db : Bool), k ≤ n ∧ n - k ≤ gg ∧ i = .int .i64 k ∧ d = .bool db ∧ l.length ≤ 2 * k ∧ Aside (Rows wr (w.heap.size + 1) v l) ∧ Aside (Below (w.heap.size + 1) (w.alloc (.cells #[.string e.path, .int .i64 e.kind, .string e.text, .bool e.opq] 38)) wr) ∧ Aside ((l, db) = withS (t.take k) e))
  case atStart => exact ⟨0, [], false, Nat.zero_le _, by omega, rfl, rfl, Nat.zero_le _, Rows.nil _ _, Below.refl _ _, rfl⟩
  case round =>
    obtain ⟨k, l, db, hk, hgg, rfl, rfl, hbl, ST, BW, NM⟩ := hrel
    by_cases hlt : k < n
    · have hltz : (k : Int) < (n : Int) := by omega
      obtain ⟨y, hy⟩ : ∃ y, t[k]? = some y := ⟨_, List.getElem?_eq_getElem (by have := HN.out; omega)⟩
      have HSTEP : Aside (withS (t.take (k + 1)) e = withF e (l, db) y) := by show _ = _; rw [withS_step hy, NM.out]
      have hyf := HF.out y (List.mem_of_getElem? hy)
      have hBw := base1 BW.out
      rcases HL.out with h0 | ⟨b, off, rfl, hb, hc⟩
      · rw [h0] at hy; simp at hy
      obtain ⟨c0, c1, c2, c3⟩ := Lies.cells hc hb hBw hy
      clear hc hy
      have hws : w.heap.size + 1 ≤ wr.heap.size := by have := BW.out.size; simpa using this
      have HOB : Aside (∀ g, u5.ownBlock = some g → w.heap.size + 1 ≤ g ∧ g < wr.heap.size) := fun g hg => World.ownsRow.lt ST.out g hg
      have hle := fun W => refLess_any y.path e.path W (by omega) (by omega)
      obtain ⟨⟨f0, f1, f2, f3⟩, _⟩ := new4 (Nat.lt_succ_self _) BW.out
      have hne : w.heap.size ≠ wr.heap.size := by omega
      have hwlt : w.heap.size < wr.heap.size := by omega
      have HA : Aside (Below wr.heap.size wr (wr.alloc (.cells #[.string y.path, .int .i64 y.kind, .string y.text, .bool y.opq] 38))) := ((Grown.refl wr).alloc _).below
      have hX : (wr.alloc (.cells #[.string y.path, .int .i64 y.kind, .string y.text, .bool y.opq] 38)).heap.size = wr.heap.size + 1 := by simp
      cases db with
      | true =>
        have HT : Aside (withF e (l, true) y = (l ++ (if y.p = e.p then [] else [y]), true)) := by show _ = _; rw [withF, if_neg (by simp)]
        clear hle
        by_cases hpq : y.path.data.toList = e.path.data.toList
        · obtain ⟨he1, he2⟩ := eq_parts hpq
          have HP : Aside (y.p = e.p) := hpq
          clear hpq
          go_wp2
          go_roundg (n - (k + 1))
          case measure => omega
          case rel => exact ⟨k + 1, l, true, by omega, by omega, by go_num, rfl, by omega, ST.out.below HA.out, up1 BW.out HA.out, by show _ = _; rw [HSTEP.out, HT.out, if_pos HP.out, List.append_nil]⟩
        · obtain ⟨he1, he2⟩ := ne_parts hpq
          have HP : Aside (¬ y.p = e.p) := hpq
          clear hpq
          have hR1 := ST.out.below HA.out
          go_wp2_with (at_builtin; refine append_row (wr.alloc (.cells #[.string y.path, .int .i64 y.kind, .string y.text, .bool y.opq] 38)) y rfl _ _ rfl (w.heap.size + 1) _ l rfl hR1 (by omega) (by omega) _ (by simp) rfl ?_; clear hR1; intro v4 w4 hR4 hB4 hC4 hs4; have HR4 : Aside (Rows w4 (w.heap.size + 1) v4 (l ++ [y])) := hR4; have HB4 : Aside (Below (w.heap.size + 1) (w.alloc (.cells #[.string e.path, .int .i64 e.kind, .string e.text, .bool e.opq] 38)) w4) := (up1 BW.out HA.out).trans hB4; clear hR4 hB4 hC4)
          go_roundg (n - (k + 1))
          case measure => omega
          case rel => exact ⟨k + 1, l ++ [y], true, by omega, by omega, by go_num, rfl, by simp; omega, HR4.out, HB4.out, by show _ = _; rw [HSTEP.out, HT.out, if_neg HP.out]⟩
      | false =>
        by_cases hlz : cmp y.p e.p < 0
        · have hdl : decide (cmp y.path.data.toList e.path.data.toList < 0) = true := decide_eq_true hlz
          rw [hdl] at hle
          have hpq : ¬ y.path.data.toList = e.path.data.toList := fun h => by have h2 : y.p = e.p := h; rw [h2, cmp_self] at hlz; exact absurd hlz (by decide)
          have HT : Aside (withF e (l, false) y = (l ++ [y], false)) := by show _ = _; rw [withF, if_neg (fun h => h.2 hlz), if_neg (show ¬ y.p = e.p from hpq)]
          obtain ⟨he1, he2⟩ := ne_parts hpq
          clear hpq hlz hdl
          go_wp2_with (first
            | (go_at_call 24; refine (hle _).mono ?_; clear hle; rintro rr w2 ⟨rfl, hB2⟩; obtain ⟨⟨d0, d1, d2, d3⟩, _⟩ := new4 (by simp) hB2; have hX2 := base2 hB2; have hR1 := ST.out.below hX2; have hs2 := hX2.size; obtain ⟨⟨e0, _, _, _⟩, _⟩ := new4 (Nat.lt_succ_self _) (up1 BW.out hX2))
            | (at_builtin; refine append_row w2 y rfl _ _ rfl (w.heap.size + 1) _ l rfl hR1 (by omega) (by omega) _ (by simp) rfl ?_; clear hR1; intro v4 w4 hR4 hB4 hC4 hs4; have HR4 : Aside (Rows w4 (w.heap.size + 1) v4 (l ++ [y])) := hR4; have HB4 : Aside (Below (w.heap.size + 1) (w.alloc (.cells #[.string e.path, .int .i64 e.kind, .string e.text, .bool e.opq] 38)) w4) := (up1 BW.out hX2).trans hB4; clear hR4 hB4 hC4))
          go_roundg (n - (k + 1))
          case measure => omega
          case rel => exact ⟨k + 1, l ++ [y], false, by omega, by omega, by go_num, rfl, by simp; omega, HR4.out, HB4.out, by show _ = _; rw [HSTEP.out, HT.out]⟩
        · have hdl : decide (cmp y.path.data.toList e.path.data.toList < 0) = false := decide_eq_false hlz
          rw [hdl] at hle
          have HT : Aside (withF e (l, false) y = (l ++ [e] ++ (if y.p = e.p then [] else [y]), true)) := by show _ = _; rw [withF, if_pos ⟨rfl, hlz⟩]
          clear hlz hdl
          by_cases hpq : y.path.data.toList = e.path.data.toList
          · obtain ⟨he1, he2⟩ := eq_parts hpq
            have HP : Aside (y.p = e.p) := hpq
            clear hpq
            go_wp2_with (first
              | (go_at_call 24; refine (hle _).mono ?_; clear hle; rintro rr w2 ⟨rfl, hB2⟩; obtain ⟨⟨d0, d1, d2, d3⟩, _⟩ := new4 (by simp) hB2; have hX2 := base2 hB2; have hR1 := ST.out.below hX2; have hs2 := hX2.size; have hss2 := hB2.size; obtain ⟨⟨e0, e1, e2, e3⟩, _⟩ := new4 (Nat.lt_succ_self _) (up1 BW.out hX2))
              | (at_builtin; refine append_row w2 e rfl _ _ rfl (w.heap.size + 1) _ l rfl hR1 (by omega) (by omega) _ (by simp) rfl ?_; clear hR1; intro v4 w4 hR4 hB4 hC4 hs4; have HR4 : Aside (Rows w4 (w.heap.size + 1) v4 (l ++ [e])) := hR4; have HB4 : Aside (Below (w.heap.size + 1) (w.alloc (.cells #[.string e.path, .int .i64 e.kind, .string e.text, .bool e.opq] 38)) w4) := (up1 BW.out hX2).trans hB4; have g0 := (hC4 ⟨w.heap.size, 0, none⟩ (by simp only; omega) (fun g hg => by have := HOB.out g hg; simp only; omega)).trans e0; have x0 := (hC4 ⟨wr.heap.size, 0, none⟩ (by simp only; simp at hss2; omega) (fun g hg => by have := HOB.out g hg; simp only; omega)).trans d0; clear hR4 hB4 hC4))
            go_roundg (n - (k + 1))
            case measure => omega
            case rel => exact ⟨k + 1, l ++ [e], true, by omega, by omega, by go_num, rfl, by simp; omega, HR4.out, HB4.out, by show _ = _; rw [HSTEP.out, HT.out, if_pos HP.out, List.append_nil]⟩
          · obtain ⟨he1, he2⟩ := ne_parts hpq
            have HP : Aside (¬ y.p = e.p) := hpq
            clear hpq
            go_wp2_with (first
              | (go_at_call 24; refine (hle _).mono ?_; clear hle; rintro rr w2 ⟨rfl, hB2⟩; obtain ⟨⟨d0, d1, d2, d3⟩, _⟩ := new4 (by simp) hB2; have hX2 := base2 hB2; have hR1 := ST.out.below hX2; have hs2 := hX2.size; have hss2 := hB2.size; obtain ⟨⟨e0, e1, e2, e3⟩, _⟩ := new4 (Nat.lt_succ_self _) (up1 BW.out hX2))
              | (at_builtin; refine append_row w2 e rfl _ _ rfl (w.heap.size + 1) _ l rfl hR1 (by omega) (by omega) _ (by simp) rfl ?_; clear hR1; intro v4 w4 hR4 hB4 hC4 hs4; have HB4 : Aside (Below (w.heap.size + 1) (w.alloc (.cells #[.string e.path, .int .i64 e.kind, .string e.text, .bool e.opq] 38)) w4) := (up1 BW.out hX2).trans hB4; have g0 := (hC4 ⟨w.heap.size, 0, none⟩ (by simp only; omega) (fun g hg => by have := HOB.out g hg; simp only; omega)).trans e0; have hxc := fun i => hC4 ⟨wr.heap.size, i, none⟩ (by simp only; simp at hss2; omega) (fun g hg => by have := HOB.out g hg; simp only; omega); have x0 := (hxc 0).trans d0; have x1 := (hxc 1).trans d1; have x2 := (hxc 2).trans d2; have x3 := (hxc 3).trans d3; clear hB4 hC4 hxc)
              | (at_builtin; refine append_row w4 y rfl _ _ rfl (w.heap.size + 1) _ (l ++ [e]) rfl hR4 (by simp; omega) (by omega) _ (by simp) rfl ?_; clear hR4; intro v6 w6 hR6 hB6 hC6 hs6; have HR6 : Aside (Rows w6 (w.heap.size + 1) v6 (l ++ [e] ++ [y])) := hR6; have HB6 : Aside (Below (w.heap.size + 1) (w.alloc (.cells #[.string e.path, .int .i64 e.kind, .string e.text, .bool e.opq] 38)) w6) := HB4.out.trans hB6; clear hR6 hB6 hC6))
            go_roundg (n - (k + 1))
            case measure => omega
            case rel => exact ⟨k + 1, l ++ [e] ++ [y], true, by omega, by omega, by go_num, rfl, by simp; omega, HR6.out, HB6.out, by show _ = _; rw [HSTEP.out, HT.out, if_neg HP.out]⟩
    · have hltz : ¬ (k : Int) < (n : Int) := by omega
      have HE : Aside (withL t e = if db then l else l ++ [e]) := by
        show _ = _
        have := NM.out
        rw [List.take_of_length_le (by have := HN.out; omega)] at this
        rw [withL, ← this]
      obtain ⟨⟨f0, f1, f2, f3⟩, _⟩ := new4 (Nat.lt_succ_self _) BW.out
      have hws : w.heap.size + 1 ≤ wr.heap.size := by have := BW.out.size; simpa using this
      have ST' := ST.out
      cases db with
      | true =>
        have HE1 : Aside (withL t e = l) := HE.out
        go_wp2
        go_ret
        exact ⟨⟨_, rfl, by rw [HE1.out]; exact ST.out.mono (Nat.le_succ _)⟩, base1 BW.out⟩
      | false =>
        have HE1 : Aside (withL t e = l ++ [e]) := HE.out
        go_wp2_with (at_builtin; refine append_row wr e rfl _ _ rfl (w.heap.size + 1) _ l rfl ST' (by omega) hws _ (by simp) rfl ?_; clear ST'; intro v4 w4 hR4 hB4 hC4 hs4; have HR4 : Aside (Rows w4 (w.heap.size + 1) v4 (l ++ [e])) := hR4; have HB4 : Aside (Below w.heap.size w w4) := base1 (BW.out.trans hB4); clear hR4 hB4 hC4)
        go_ret
        exact ⟨⟨_, rfl, by rw [HE1.out]; exact HR4.out.mono (Nat.le_succ _)⟩, HB4.out⟩
theorem refWith_any (t : List Ent) (e : Ent) (p : Option Addr) (cap : Nat) (w : World) (hL : Lies w p t) (hF : ∀ e ∈ t, e.path.size ≤ 1048576) (he : e.path.size ≤ 1048576) (hn80 : t.length ≤ 80) :
    Calls Tryd.prog 66 #[.slice p t.length cap, .agg #[.string e.path, .int .i64 e.kind, .string e.text, .bool e.opq]] w (RowsPost (withL t e) w) :=
  refWith_wide t e p cap w hL hF he (by omega)
end Go.Proofs.YtampldoimpfjgaaDoor
namespace Go.Proofs.YtampldoimpfjgaaDoor
open Go.RowKit PM Go.Sort
set_option linter.unusedVariables false

theorem with_done {e : Ent} : ∀ (t o : List Ent), (∀ x ∈ t, 0 < cmp x.p e.p) → t.foldl (withF e) (o, true) = (o ++ t, true)
  | [], o, _ => by simp
  | x :: r, o, h => by
    have hx := h x (by simp)
    have hne : ¬ x.p = e.p := fun he => by rw [he, cmp_self] at hx; exact absurd hx (by decide)
    rw [List.foldl_cons, show withF e (o, true) x = (o ++ [x], true) by rw [withF, if_neg (by simp), if_neg hne], with_done r _ fun y hy => h y (by simp [hy])]
    simp
theorem above_all {e x : Ent} {r : List Ent} (hs : Sorted (x :: r)) (h : ¬ cmp x.p e.p < 0) : ∀ y ∈ r, 0 < cmp y.p e.p := by
  intro y hy
  have h1 : cmp x.p y.p < 0 := (List.pairwise_cons.1 hs).1 y hy
  rw [cmp_flip]
  by_cases hxe : x.p = e.p
  · rw [← hxe]; exact h1
  · exact cmp_trans _ _ _ (cmp_ge h hxe) h1
theorem with_going {e : Ent} : ∀ (t o : List Ent), Sorted t → (if (t.foldl (withF e) (o, false)).2 = true then (t.foldl (withF e) (o, false)).1 else (t.foldl (withF e) (o, false)).1 ++ [e]) = o ++ putL t e
  | [], o, _ => by simp [putL]
  | x :: r, o, hs => by
    have hr : Sorted r := (List.pairwise_cons.1 hs).2
    by_cases h : cmp x.p e.p < 0
    · have hne : ¬ x.p = e.p := fun he => by rw [he, cmp_self] at h; exact absurd h (by decide)
      rw [List.foldl_cons, show withF e (o, false) x = (o ++ [x], false) by rw [withF, if_neg (fun c => c.2 h), if_neg hne], with_going r _ hr]
      have h2 : ¬ 0 < cmp x.p e.p := by omega
      simp [putL, h, h2]
    · have hab := above_all hs h
      have hf1 : r.filter (fun x => decide (cmp x.p e.p < 0)) = [] := by
        rw [List.filter_eq_nil_iff]; intro y hy; have := hab y hy; simp; omega
      have hf2 : r.filter (fun x => decide (0 < cmp x.p e.p)) = r := by
        rw [List.filter_eq_self]; intro y hy; simpa using hab y hy
      rw [List.foldl_cons, show withF e (o, false) x = (o ++ [e] ++ (if x.p = e.p then [] else [x]), true) by rw [withF, if_pos ⟨rfl, h⟩], with_done r _ hab]
      have hn : decide (cmp x.p e.p < 0) = false := decide_eq_false h
      have hp : putL (x :: r) e = e :: ((if x.p = e.p then [] else [x]) ++ r) := by
        rw [putL, List.filter_cons_of_neg (by rw [hn]; decide), hf1]
        by_cases he : x.p = e.p
        · rw [List.filter_cons_of_neg (by rw [he, cmp_self]; decide), hf2, if_pos he]; rfl
        · rw [List.filter_cons_of_pos (by simpa using cmp_flip.2 (cmp_ge h he)), hf2, if_neg he]; rfl
      rw [hp]; simp
theorem withL_put {t : List Ent} (hs : Sorted t) (e : Ent) : withL t e = putL t e := by
  have := with_going (e := e) t [] hs
  rw [List.nil_append] at this
  exact this
theorem remUnder_rem {t : List Ent} {q : List UInt8} (h : ∀ x ∈ t, under x.p q = false) : remUnder t q = remL t q := by
  unfold remUnder remL
  apply List.filter_congr
  intro x hx
  simp [h x hx]
theorem names_none {t : List Ent} {q : List UInt8} (hr : Right false t) (hq : q ≠ []) : (namesL t q).length = 0 ↔ ∀ x ∈ t, under x.p q = false := by
  unfold namesL
  rw [List.length_map, List.length_eq_zero_iff, List.filter_eq_nil_iff]
  constructor
  · intro h x hx
    have key : ∀ (n : Nat) {e : Ent}, e.p.length ≤ n → e ∈ t → under e.p q = true → False := by
      intro n
      induction n with
      | zero => intro e hl he hu; exact hr.ne he (List.eq_nil_of_length_eq_zero (by omega))
      | succ n ih =>
        intro e hl he hu
        rcases under_dir hq hu with h1 | h1
        · exact h e he (by simp [h1])
        · rcases hr.dir e he with hd | ⟨d, hdt, hdp, _⟩
          · obtain ⟨r, e'⟩ := (under_iff _ _ hq).1 h1
            rw [hd] at e'; simp at e'
          · have hsh := dirOf_short (hr.ne he)
            exact ih (e := d) (by rw [hdp]; omega) hdt (by rw [hdp]; exact h1)
    cases hc : under x.p q with
    | false => rfl
    | true => exact (key _ (Nat.le_refl _) hx hc).elim
  · intro h x hx
    simp
    intro he
    have := dir_under (hr.ne hx) (by rw [he]; exact hq)
    rw [he] at this
    rw [h x hx] at this
    cases this
end Go.Proofs.YtampldoimpfjgaaDoor
