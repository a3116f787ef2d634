/-
  What tree.firstFault and tree.Wrong answer.
-/
import Derived.Test.YthfeoiffoeagkaaGreatDoorQA3
import Derived.Lib.SliceRun
import Derived.Laws.AppendOwnNone
namespace Go.Proofs.YthfeoiffoeagkaaGreatDoor
open Go.RowKit PM Go.Sort
set_option linter.unusedVariables false
theorem own_store2 {w W : World} {o : Obj} (hB : Below (w.heap.size + 1) (w.alloc o) W) (a b : Value) : Below w.heap.size w ((W.setCell ⟨w.heap.size, 0, none⟩ a).setCell ⟨w.heap.size, 1, none⟩ b) :=
 ((base1 hB).setCell (Nat.le_refl _) _).setCell (Nat.le_refl _) _
theorem base2 {w W : World} {o : Obj} (h : Below (w.alloc o).heap.size (w.alloc o) W) : Below w.heap.size w W := base1 (h.mono (by simp))
theorem kept_cell {w W W2 : World} {a b c d : Value} {t : TypeId} (h : Below (w.alloc (.cells #[a, b, c, d] t)).heap.size (w.alloc (.cells #[a, b, c, d] t)) W) (g : Below W.drew.heap.size W.drew W2) : W2.cell? ⟨w.heap.size, 0, none⟩ = some a :=
 (new4 (Nat.lt_succ_self _) (up1 (h.drew.mono (by simp)) g)).1.1
theorem faultFrom_step {layer : Bool} {t : List Ent} {k : Nat} {y : Ent} (hy : t[k]? = some y) : faultFrom layer (t.take k) (t.drop k) = if faultE layer (t.take k) y = 0 then faultFrom layer (t.take (k + 1)) (t.drop (k + 1)) else (faultE layer (t.take k) y, k) := by
 obtain ⟨h1, h2⟩ := List.getElem?_eq_some_iff.1 hy
 rw [List.drop_eq_getElem_cons h1, faultFrom, h2, List.take_succ_eq_append_getElem h1, h2, List.length_take, Nat.min_eq_left (by omega)]
theorem good_step {layer : Bool} {t : List Ent} {k : Nat} {y : Ent} (hy : t[k]? = some y) (hg : PM.Good layer (t.take k)) (h : faultE layer (t.take k) y = 0) : PM.Good layer (t.take (k + 1)) := by
 obtain ⟨h1, h2⟩ := List.getElem?_eq_some_iff.1 hy
 rw [List.take_succ_eq_append_getElem h1, h2]; exact hg.snoc h
theorem clean_size {p : ByteArray} (h : clean p.data.toList = true) : p.size ≤ 80 := by
 have := ((clean_iff _).1 h).1; rwa [szl] at this
set_option maxHeartbeats 4000000 in
theorem firstFault_any (t : List Ent) (layer : Bool) (m : Int) (p : Option Addr) (cap : Nat) (w : World) (hL : Lies w p t) (hF : Fits t) (hn : t.length < 4611686018427387904) (hcap : t.length ≤ cap) (hm : w.cell? ⟨0, 0, none⟩ = some (.int .i64 m)) :
  Calls Tryz.prog 49 #[.slice p t.length cap, .bool layer] w fun r w' => r = .returned (.agg #[.int .i64 (faultL layer t).1, .int .i64 ((faultL layer t).2 : Nat)]) ∧ Below w.heap.size w w' := by
 have HF : Aside (Fits t) := hF
 have HL : Aside (Lies w p t) := hL
 clear hF hL
 obtain ⟨n, hnl⟩ : ∃ n, n = t.length := ⟨_, rfl⟩
 have HN : Aside (n = t.length) := hnl
 rw [← hnl] at hn hcap ⊢
 by_cases h80 : 80 < n
 ·have g : (80 : Int) < (n : Int) := by omega
  have HR : Aside (faultL layer t = (5, 0)) := by show _ = _; rw [faultL, if_pos (by omega)]
  clear hnl
  go_enter Tryz.func49, Tryz.ntmps49
  go_wp2
  refine bodyPost_ret (v := .agg #[.int .i64 5, .int .i64 0]) (by simp [results, Tryz.results49, go_sem]) rfl ?_
  exact ⟨by rw [HR.out]; rfl, (Below.refl _ _).alloc (Nat.le_refl _) _⟩
 ·have g : ¬ (80 : Int) < (n : Int) := by omega
  have HR : Aside (faultL layer t = faultFrom layer [] t) := by show _ = _; rw [faultL, if_neg (by omega)]
  clear hnl
  go_enter Tryz.func49, Tryz.ntmps49
  go_wp2
  go_loopg [14] n (fun gg s14 wr => ∃ k : Nat, k ≤ n ∧ n - k ≤ gg ∧ s14 = .int .i64 k ∧ Aside (Below (w.heap.size + 1) (w.alloc (.cells #[.int .i64 0, .int .i64 0] 46)) wr) ∧ Aside (PM.Good layer (t.take k)) ∧ Aside (faultFrom layer (t.take k) (t.drop k) = faultL layer t))
  case atStart => exact ⟨0, Nat.zero_le _, by omega, rfl, Below.refl _ _, good_nil _, HR.out.symm⟩
  case round =>
   obtain ⟨k, hk, hg, rfl, BW, HG, HE⟩ := hrel
   by_cases hlt : k < n
   ·have hltz : (k : Int) < (n : Int) := by omega
    obtain ⟨y, hy⟩ : ∃ y, t[k]? = some y := ⟨_, List.getElem?_eq_getElem (by have := HN.out; omega)⟩
    have HY : Aside (t[k]? = some y) := hy
    have hf := HF.out.at hy
    have hBw := base1 BW.out
    rcases HL.out with h0 | ⟨b, off, rfl, hb, hc⟩
    ·rw [h0] at hy; simp at hy
    obtain ⟨c0, c1, c2, c3⟩ := Lies.cells hc hb hBw hy
    have HC : Aside (∀ j e, t[j]? = some e → ∀ i v, (encE e)[i]? = some v → w.cell? ⟨b, off + j * 4 + i, none⟩ = some v) := hc
    have hb' : b < wr.heap.size := Nat.lt_of_lt_of_le hb hBw.size
    have hne : b ≠ wr.heap.size := by omega
    clear hc hy
    have hwe := fun W (hB : Below wr.heap.size wr W) => wrongEntry_any y layer m W hf.1 hf.2 (held (Below.onto hBw hB) hm)
    have HFE : Aside (faultE layer (t.take k) y = if wrongE y layer = 0 then placeL (t.take k) y.p else wrongE y layer) := rfl
    have HW : Aside (wrongE y layer = 0 → y.path.size ≤ 80) := fun h => clean_size (wrongE_clean h)
    generalize wrongE y layer = r1 at hwe HFE HW
    by_cases hr1 : r1 = 0
    ·have hy80 := HW.out hr1
     have hwp : ∀ W, Below w.heap.size w W → Calls Tryz.prog 79 #[.slice (some ⟨b, off, none⟩) k cap, .string y.path] W (fun r w' => r = .returned (.int .i64 (placeL (t.take k) y.p)) ∧ Below W.heap.size W w') := fun W hB => by
      have h := wrongPlace_any (t.take k) y.path (some ⟨b, off, none⟩) cap W (Lies.take (Lies.kept (Or.inr ⟨b, off, rfl, hb, HC.out⟩) hB) k) (fun e he => HF.out e (List.mem_of_mem_take he)) (by rw [List.length_take]; have := HN.out; omega) hf.1 (by omega)
      rw [List.length_take, Nat.min_eq_left (by have := HN.out; omega)] at h
      refine h.mono ?_
      rintro r w' ⟨x, rfl, hx, hB'⟩
      exact ⟨ret_int (hx HG.out.sorted), hB'⟩
     have HFE' : Aside (faultE layer (t.take k) y = placeL (t.take k) y.p) := by show _ = _; rw [HFE.out, if_pos hr1]
     subst hr1
     generalize placeL (t.take k) y.p = r2 at hwp HFE'
     have hkc : k ≤ cap := by omega
     have hkc' : (k : Int) ≤ (cap : Int) := by omega
     clear HFE HW
     by_cases hr2 : r2 = 0
     ·subst hr2
      go_wp2_with (go_at_call 78; refine (hwe _ ((Below.refl _ _).alloc (Nat.le_refl _) _)).mono ?_; clear hwe; rintro rr w1 ⟨rfl, hB1⟩; obtain ⟨⟨d0, d1, d2, d3⟩, _⟩ := new4 (by simp) hB1; have hX := base2 hB1)
      go_region_held3 (fun w' => w'.cell? ⟨wr.heap.size, 0, none⟩ = some (.string y.path)) (go_keep) (first | (go_at_call 79; refine (hwp _ (Below.drew (Below.onto hBw hX))).mono ?_; rintro rr w2 ⟨rfl, hB2⟩; have hY := Below.onto hX.drew hB2; have e0 := kept_cell hB1 hB2))
      go_wp2
      go_roundg (n - (k + 1))
      case measure => omega
      case rel => exact ⟨k + 1, by omega, by omega, by go_num, up1 BW.out hY, good_step HY.out HG.out HFE'.out, by have := HE.out; rw [faultFrom_step HY.out, if_pos HFE'.out] at this; exact this⟩
     ·go_wp2_with (go_at_call 78; refine (hwe _ ((Below.refl _ _).alloc (Nat.le_refl _) _)).mono ?_; clear hwe; rintro rr w1 ⟨rfl, hB1⟩; obtain ⟨⟨d0, d1, d2, d3⟩, _⟩ := new4 (by simp) hB1; have hX := base2 hB1)
      go_region_held3 (fun w' => w'.cell? ⟨wr.heap.size, 0, none⟩ = some (.string y.path)) (go_keep) (first | (go_at_call 79; refine (hwp _ (Below.drew (Below.onto hBw hX))).mono ?_; rintro rr w2 ⟨rfl, hB2⟩; have hY := Below.onto hX.drew hB2; have e0 := kept_cell hB1 hB2))
      obtain ⟨⟨r0, r1⟩, ⟨f0, f1⟩⟩ := new2 (Nat.lt_succ_self _) (up1 BW.out hY)
      have HO : Aside (Below (w.heap.size + 1) (w.alloc (.cells #[.int .i64 0, .int .i64 0] 46)) w2) := up1 BW.out hY
      go_wp2
      refine bodyPost_ret (v := .agg #[.int .i64 r2, .int .i64 k]) (by simp [results, Tryz.results49, go_sem, r0, r1]) rfl ?_
      exact ⟨by rw [← HE.out, faultFrom_step HY.out, if_neg (by rw [HFE'.out]; exact hr2), HFE'.out], own_store2 HO.out _ _⟩
    ·have HFE' : Aside (faultE layer (t.take k) y = r1) := by show _ = _; rw [HFE.out, if_neg hr1]
     clear HFE HW
     go_wp2_with (go_at_call 78; refine (hwe _ ((Below.refl _ _).alloc (Nat.le_refl _) _)).mono ?_; clear hwe; rintro rr w1 ⟨rfl, hB1⟩; obtain ⟨⟨r0, r1'⟩, ⟨f0, f1⟩⟩ := new2 (Nat.lt_succ_self _) (up1 BW.out (base2 hB1)); have HO : Aside (Below (w.heap.size + 1) (w.alloc (.cells #[.int .i64 0, .int .i64 0] 46)) w1) := up1 BW.out (base2 hB1))
     refine bodyPost_ret (v := .agg #[.int .i64 r1, .int .i64 k]) (by simp [results, Tryz.results49, go_sem, r0, r1']) rfl ?_
     exact ⟨by rw [← HE.out, faultFrom_step HY.out, if_neg (by rw [HFE'.out]; exact hr1), HFE'.out], own_store2 HO.out _ _⟩
   ·have hltz : ¬ (k : Int) < (n : Int) := by omega
    have HZ : Aside (faultL layer t = (0, 0)) := by
     have := HE.out
     rw [List.drop_of_length_le (by have := HN.out; omega), faultFrom] at this; exact this.symm
    obtain ⟨⟨r0, r1⟩, ⟨f0, f1⟩⟩ := new2 (Nat.lt_succ_self _) BW.out
    go_wp2
    refine bodyPost_ret (v := .agg #[.int .i64 0, .int .i64 0]) (by simp [results, Tryz.results49, go_sem, r0, r1]) rfl ?_
    exact ⟨by rw [HZ.out]; rfl, own_store2 BW.out _ _⟩
theorem wrong_any (t : List Ent) (m : Int) (p : Option Addr) (cap : Nat) (w : World) (hL : Lies w p t) (hF : Fits t) (hn : t.length < 4611686018427387904) (hcap : t.length ≤ cap) (hm : w.cell? ⟨0, 0, none⟩ = some (.int .i64 m)) :
  Calls Tryz.prog 24 #[.slice p t.length cap] w fun r w' => r = .returned (.agg #[.int .i64 (faultL false t).1, .int .i64 ((faultL false t).2 : Nat)]) ∧ Below w.heap.size w w' := by
 have hs := fun W (hB : Below w.heap.size w W) => firstFault_any t false m p cap W (hL.kept hB) hF hn hcap (held hB hm)
 generalize (faultL false t).1 = a at hs ⊢
 generalize ((faultL false t).2 : Int) = b at hs ⊢
 go_enter Tryz.func24, Tryz.ntmps24
 go_wp2_with (go_at_call 49; refine (hs _ ((Below.refl _ _).alloc (Nat.le_refl _) _)).mono ?_; clear hs; rintro rr w1 ⟨rfl, hB1⟩; obtain ⟨⟨r0, r1⟩, ⟨f0, f1⟩⟩ := new2 (by simp) hB1)
 refine bodyPost_ret (v := .agg #[.int .i64 a, .int .i64 b]) (by simp [results, Tryz.results24, go_sem, r0, r1]) rfl ?_
 exact ⟨rfl, own_store2 (hB1.mono (by simp)) _ _⟩
def Own (w : World) (g cap : Nat) (l : List Ent) : Prop :=
 ∃ cur : Array Value, w.heap[g]? = some (.cells cur 53 (0, 0)) ∧ cur.size = cap * 4 ∧ l.length ≤ cap ∧ cap ≤ maxLen ∧ ∀ j e, l[j]? = some e → ∀ i v, (encE e)[i]? = some v → cur[j * 4 + i]? = some v
theorem encE_len (e : Ent) : (encE e).length = 4 := rfl
theorem encE_lt {e : Ent} {i : Nat} {v : Value} (h : (encE e)[i]? = some v) : i < 4 := by
 have := (List.getElem?_eq_some_iff.1 h).1; rwa [encE_len] at this
theorem flat_len (ns : List Ent) : (ns.flatMap encE).length = ns.length * 4 := by
 induction ns with
 | nil => rfl
 | cons x r ih => rw [List.flatMap_cons, List.length_append, ih, encE_len]; simp; omega
section
variable {w w' W : World} {g cap : Nat} {l : List Ent}
theorem Own.lt (h : Own w g cap l) : g < w.heap.size := by
 obtain ⟨cur, hc, _⟩ := h
 exact (Array.getElem?_eq_some_iff.1 hc).1
theorem Own.len (h : Own w g cap l) : l.length ≤ cap := by obtain ⟨_, _, _, h, _⟩ := h; exact h
theorem Own.max (h : Own w g cap l) : cap ≤ maxLen := by obtain ⟨_, _, _, _, h, _⟩ := h; exact h
theorem Own.frozen (h : Own w g cap l) (o : Nat) : w.frozen? ⟨g, o, none⟩ = false := by
 obtain ⟨cur, hc, _⟩ := h
 simp [World.frozen?, hc]
theorem Own.there (h : Own w g cap l) {o : Nat} (ho : o < cap * 4) : (w.cell? ⟨g, o, none⟩).isSome = true := by
 obtain ⟨cur, hc, hs, _⟩ := h
 simp [World.cell?, hc, hs, ho]
theorem Own.cell (h : Own w g cap l) {j : Nat} {e : Ent} (he : l[j]? = .some e) {i : Nat} {v : Value} (hv : (encE e)[i]? = .some v) : w.cell? ⟨g, j * 4 + i, none⟩ = .some v := by
 obtain ⟨cur, hc, _, _, _, h⟩ := h
 simp [World.cell?, hc, h j e he i v hv]
theorem Own.cells (h : Own w g cap l) {j : Nat} {e : Ent} (he : l[j]? = .some e) :
  (w.cell? ⟨g, j * 4, none⟩ = .some (.string e.path) ∧ w.cell? ⟨g, j * 4 + 1, none⟩ = .some (.int .i64 e.kind) ∧ w.cell? ⟨g, j * 4 + 2, none⟩ = .some (.string e.text) ∧ w.cell? ⟨g, j * 4 + 3, none⟩ = .some (.bool e.opq)) ∧
  (w.frozen? ⟨g, j * 4, none⟩ = false ∧ w.frozen? ⟨g, j * 4 + 1, none⟩ = false ∧ w.frozen? ⟨g, j * 4 + 2, none⟩ = false ∧ w.frozen? ⟨g, j * 4 + 3, none⟩ = false) :=
 ⟨⟨h.cell he (i := 0) rfl, h.cell he (i := 1) rfl, h.cell he (i := 2) rfl, h.cell he (i := 3) rfl⟩, h.frozen _, h.frozen _, h.frozen _, h.frozen _⟩
theorem Own.lies (h : Own w g cap l) : Lies w (.some ⟨g, 0, none⟩) l :=
 .inr ⟨g, 0, rfl, h.lt, fun j e he i v hv => by rw [Nat.zero_add]; exact h.cell he hv⟩
theorem Own.kept (h : Own w g cap l) (hk : w'.heap[g]? = w.heap[g]?) : Own w' g cap l := by
 obtain ⟨cur, hc, h⟩ := h
 exact ⟨cur, hk.trans hc, h⟩
theorem Own.below (h : Own w g cap l) {B : Nat} (hB : Below B w w') (hg : g < B) : Own w' g cap l := h.kept (hB.block g hg)
theorem Own.grown (h : Own w g cap l) (hB : Grown w w') : Own w' g cap l := h.below hB.below h.lt
theorem Own.take (h : Own w g cap l) (k : Nat) : Own w g cap (l.take k) := by
 obtain ⟨cur, hc, hs, hl, hm, h⟩ := h
 refine ⟨cur, hc, hs, by rw [List.length_take]; omega, hm, fun j e he => h j e ?_⟩
 rw [List.getElem?_take] at he
 split at he
 ·exact he
 ·cases he
theorem heap_set {cur : Array Value} {t : TypeId} {f : Nat × Nat} (h : w.heap[g]? = .some (.cells cur t f)) (o : Nat) (v : Value) : (w.setCell ⟨g, o, none⟩ v).heap[g]? = .some (.cells (cur.setIfInBounds o v) t f) := by
 simp [World.setCell, Array.getElem?_modify, h]
theorem Own.setCells {vs : List Value} {o : Nat} (h : Own w g cap l) : ∃ cur cur' : Array Value, w.heap[g]? = .some (.cells cur 53 (0, 0)) ∧ (w.setCells g o vs).heap[g]? = .some (.cells cur' 53 (0, 0)) ∧ cur'.size = cur.size ∧ (∀ x, x < o ∨ o + vs.length ≤ x → cur'[x]? = cur[x]?) ∧ (∀ j v, vs[j]? = .some v → o + j < cur.size → cur'[o + j]? = .some v) := by
 obtain ⟨cur, hc, _⟩ := h
 refine ⟨cur, ?_⟩
 have key : ∀ (vs : List Value) (o : Nat) (w : World) (cur : Array Value), w.heap[g]? = .some (.cells cur 53 (0, 0)) → ∃ cur' : Array Value, (w.setCells g o vs).heap[g]? = .some (.cells cur' 53 (0, 0)) ∧ cur'.size = cur.size ∧ (∀ x, x < o ∨ o + vs.length ≤ x → cur'[x]? = cur[x]?) ∧ (∀ j v, vs[j]? = .some v → o + j < cur.size → cur'[o + j]? = .some v) := by
  intro vs
  induction vs with
  | nil => intro o w cur hc; exact ⟨cur, hc, rfl, fun _ _ => rfl, fun j v hj => by simp at hj⟩
  | cons v r ih =>
   intro o w cur hc
   obtain ⟨cur', h1, h2, h3, h4⟩ := ih (o + 1) (w.setCell ⟨g, o, none⟩ v) _ (heap_set hc o v)
   refine ⟨cur', h1, by rw [h2]; simp, fun x hx => ?_, fun j u hj hlt => ?_⟩
   ·rw [h3 x (by simp at hx; omega), Array.getElem?_setIfInBounds, if_neg (by simp at hx; omega)]
   ·cases j with
    | zero =>
     simp at hj; subst hj
     rw [Nat.add_zero, h3 o (by omega), Array.getElem?_setIfInBounds, if_pos rfl, if_pos (by omega)]
    | succ j => rw [show o + (j + 1) = o + 1 + j by omega]; exact h4 j u (by simpa using hj) (by simp; omega)
 obtain ⟨cur', h1, h2, h3, h4⟩ := key vs o w cur hc
 exact ⟨cur', hc, h1, h2, h3, h4⟩
theorem Own.beyond {vs : List Value} {o : Nat} (h : Own w g cap l) (ho : l.length * 4 ≤ o) : Own (w.setCells g o vs) g cap l := by
 obtain ⟨cur, cur', h0, h1, h2, h3, _⟩ := h.setCells (vs := vs) (o := o)
 obtain ⟨c, hc, hs, hl, hm, hh⟩ := h
 obtain rfl : c = cur := by have := hc.symm.trans h0; simpa using this
 refine ⟨cur', h1, by rw [h2, hs], hl, hm, fun j e he i v hv => ?_⟩
 have hj := (List.getElem?_eq_some_iff.1 he).1
 have hi := encE_lt hv
 rw [h3 _ (by omega)]; exact hh j e he i v hv
theorem Own.over {ns : List Ent} {j : Nat} (h : Own w g cap l) (hj : j ≤ l.length) (hc : j + ns.length ≤ cap) : Own (w.setCells g (j * 4) (ns.flatMap encE)) g cap (l.take j ++ ns ++ l.drop (j + ns.length)) := by
 obtain ⟨cur, cur', h0, h1, h2, h3, h4⟩ := h.setCells (vs := ns.flatMap encE) (o := j * 4)
 obtain ⟨c, hc0, hs, hl, hm, hh⟩ := h
 obtain rfl : c = cur := by have := hc0.symm.trans h0; simpa using this
 have hfl := flat_len ns
 refine ⟨cur', h1, by rw [h2, hs], by simp; omega, hm, fun k e he i v hv => ?_⟩
 have hi := encE_lt hv
 by_cases c1 : k < j
 ·rw [List.append_assoc, List.getElem?_append_left (by rw [List.length_take]; omega), List.getElem?_take, if_pos c1] at he
  rw [h3 _ (by omega)]; exact hh k e he i v hv
 ·by_cases c2 : k < j + ns.length
  ·rw [List.append_assoc, List.getElem?_append_right (by rw [List.length_take]; omega), List.length_take, Nat.min_eq_left hj, List.getElem?_append_left (by omega)] at he
   rw [show k * 4 + i = j * 4 + ((k - j) * 4 + i) by omega]
   refine h4 _ v ?_ (by rw [hs]; omega)
   have key : ∀ (ns : List Ent) (q : Nat), ns[q]? = .some e → (ns.flatMap encE)[q * 4 + i]? = .some v := by
    intro ns
    induction ns with
    | nil => intro q hq; simp at hq
    | cons x r ih =>
     intro q hq
     rw [List.flatMap_cons]
     cases q with
     | zero => simp at hq; subst hq; rw [List.getElem?_append_left (by rw [encE_len]; omega)]; simpa using hv
     | succ q =>
      rw [List.getElem?_append_right (by rw [encE_len]; omega), encE_len, show (q + 1) * 4 + i - 4 = q * 4 + i by omega]
      exact ih q (by simpa using hq)
   exact key ns _ he
  ·rw [List.getElem?_append_right (by rw [List.length_append, List.length_take]; omega), List.length_append, List.length_take, Nat.min_eq_left hj, List.getElem?_drop, show j + ns.length + (k - (j + ns.length)) = k by omega] at he
   rw [h3 _ (by rw [hfl]; omega)]; exact hh k e he i v hv
theorem set_eq (l : List Ent) (j : Nat) (e : Ent) (hj : j < l.length) : l.take j ++ [e] ++ l.drop (j + 1) = l.set j e := by
 apply List.ext_getElem?
 intro k
 rw [List.getElem?_set]
 by_cases c1 : k < j
 ·rw [List.append_assoc, List.getElem?_append_left (by rw [List.length_take]; omega), List.getElem?_take, if_pos c1, if_neg (by omega)]
 ·by_cases c2 : k = j
  ·subst c2
   rw [List.append_assoc, List.getElem?_append_right (by rw [List.length_take]; omega), List.length_take, Nat.min_eq_left (by omega)]
   simp [hj]
  ·rw [List.getElem?_append_right (by simp; omega), if_neg (by omega)]
   simp only [List.length_append, List.length_take, Nat.min_eq_left (Nat.le_of_lt hj), List.length_singleton, List.getElem?_drop]
   congr 1; omega
theorem Own.set (h : Own w g cap l) {j : Nat} (hj : j < l.length) (e : Ent) : Own ((((w.setCell ⟨g, j * 4, none⟩ (.string e.path)).setCell ⟨g, j * 4 + 1, none⟩ (.int .i64 e.kind)).setCell ⟨g, j * 4 + 2, none⟩ (.string e.text)).setCell ⟨g, j * 4 + 3, none⟩ (.bool e.opq)) g cap (l.set j e) := by
 have := h.over (ns := [e]) (j := j) (by omega) (by have := h.len; simp; omega)
 rw [List.length_singleton, set_eq l j e hj] at this
 exact this
/-! what else has turned -/
theorem gby_refl (w : World) (r : Option Nat) : w.grownBy w r := ⟨rfl, rfl, rfl, Nat.le_refl _, fun _ _ _ => rfl⟩
theorem gby_below (h : w.grownBy W (.some g)) (hB : Below W.heap.size W w') : w.grownBy w' (.some g) :=
 ⟨hB.os.trans h.os, hB.tape.trans h.tape, hB.output.trans h.output, Nat.le_trans h.size hB.size, fun k hk hn => (hB.block k (Nat.lt_of_lt_of_le hk h.size)).trans (h.block k hk hn)⟩
theorem gby_grown (h : w.grownBy W (.some g)) (hB : Grown W w') : w.grownBy w' (.some g) := gby_below h hB.below
theorem gby_alloc (h : w.grownBy W (.some g)) (o : Obj) : w.grownBy (W.alloc o) (.some g) := gby_grown h ((Grown.refl W).alloc o)
theorem gby_set (h : w.grownBy W (.some g)) (o : Nat) (v : Value) : w.grownBy (W.setCell ⟨g, o, none⟩ v) (.some g) :=
 ⟨h.os, h.tape, h.output, by simp [World.setCell]; exact h.size, fun k hk hn => (Below.heap_setCell _ _ _ _ (by intro e; exact hn (by rw [e]))).trans (h.block k hk hn)⟩
theorem gby_setCells : ∀ (vs : List Value) (o : Nat) (W : World), w.grownBy W (.some g) → w.grownBy (W.setCells g o vs) (.some g)
 | [], _, _, h => h
 | v :: r, o, W, h => gby_setCells r (o + 1) _ (gby_set h o v)
theorem gby_cell (h : w.grownBy W (.some g)) {a : Addr} (ha : a.block < w.heap.size) (hn : a.block ≠ g) : W.cell? a = w.cell? a := World.cell?_of_block (w := w) (h.block _ ha (by simpa using hn))
theorem gby_trans {W2 : World} (h : w.grownBy W (.some g)) (k : W.grownBy W2 (.some g)) : w.grownBy W2 (.some g) :=
 ⟨k.os.trans h.os, k.tape.trans h.tape, k.output.trans h.output, Nat.le_trans h.size k.size, fun i hi hn => (k.block i (Nat.lt_of_lt_of_le hi h.size) hn).trans (h.block i hi hn)⟩
end
theorem clear_own {w : World} {g cap : Nat} {l : List Ent} (h : Own w g cap l) {i n c : Nat} (hn : 0 < n) (hi : i + n ≤ cap) :
  ∃ zs, ∀ ty, (Builtin.clear_ #[23] ty #[.slice (some ⟨g, i * 4, none⟩) n c]).run Tryz.prog w = .ok (.tuple #[]) (w.setCells g (i * 4) zs) := by
 refine ⟨(Builtin.zeroCells #[.string ⟨#[]⟩, .int .i64 0, .string ⟨#[]⟩, .bool false] n).toList, fun ty => ?_⟩
 have hlen : (Builtin.zeroCells #[.string ⟨#[]⟩, .int .i64 0, .string ⟨#[]⟩, .bool false] n).toList.length = n * 4 := by simp [Builtin.zeroCells]
 have hst := run_storeCells_cells (P := Tryz.prog) g (i * 4) (Builtin.zeroCells #[.string ⟨#[]⟩, .int .i64 0, .string ⟨#[]⟩, .bool false] n).toList 0 w
  (fun j hj => by rw [hlen] at hj; exact h.there (by omega)) (fun j _ => h.frozen _) (fun v hv => by
    simp only [Builtin.zeroCells, Array.toList_map, List.mem_map] at hv
    obtain ⟨k, _, rfl⟩ := hv
    have : k % 4 < 4 := Nat.mod_lt _ (by decide)
    show (#[Value.string ⟨#[]⟩, .int .i64 0, .string ⟨#[]⟩, .bool false][k % 4]!).oneCell' = true
    generalize k % 4 = r at this
    match r, this with
    | 0, _ => rfl
    | 1, _ => rfl
    | 2, _ => rfl
    | 3, _ => rfl)
 obtain ⟨m, rfl⟩ : ∃ m, n = m + 1 := ⟨n - 1, by omega⟩
 have hst' : (storeCells ⟨g, i * 4, none⟩ (Builtin.zeroCells #[.string ⟨#[]⟩, .int .i64 0, .string ⟨#[]⟩, .bool false] (m + 1)).toList).run Tryz.prog w = .ok () (w.setCells g (i * 4) (Builtin.zeroCells #[.string ⟨#[]⟩, .int .i64 0, .string ⟨#[]⟩, .bool false] (m + 1)).toList) := hst
 simp [Builtin.clear_, run_underlying Tryz.underlying23, Value.cells, hst']
structure DelInv (pr : Ent → Bool) (l : List Ent) (w : World) (g cap i j : Nat) (dk : List Ent) (W : World) : Prop where
 own : Own W g cap dk
 len : dk.length = l.length
 head : dk.take i = (l.take j).filter fun x => !pr x
 tail : dk.drop j = l.drop j
 gby : w.grownBy W (some g)
theorem DelInv.at {pr : Ent → Bool} {l : List Ent} {w : World} {g cap i j : Nat} {dk : List Ent} {W : World} (h : DelInv pr l w g cap i j dk W) {y : Ent} (hy : l[j]? = some y) : dk[j]? = some y := by
 have := congrArg (·[0]?) h.tail
 simpa [List.getElem?_drop, hy] using this
theorem take_step {l : List Ent} {j : Nat} {y : Ent} (hy : l[j]? = some y) : l.take (j + 1) = l.take j ++ [y] := by
 obtain ⟨h1, h2⟩ := List.getElem?_eq_some_iff.1 hy
 rw [List.take_succ_eq_append_getElem h1, h2]
theorem DelInv.skip {pr : Ent → Bool} {l : List Ent} {w : World} {g cap i j : Nat} {dk : List Ent} {W W2 : World} (h : DelInv pr l w g cap i j dk W) {y : Ent} (hy : l[j]? = some y) (hp : pr y = true) (hG : Grown W W2) : DelInv pr l w g cap i (j + 1) dk W2 :=
 ⟨h.own.grown hG, h.len, by rw [take_step hy, List.filter_append, h.head]; simp [hp], by have := congrArg (·.drop 1) h.tail; simpa [List.drop_drop] using this, gby_grown h.gby hG⟩
theorem DelInv.keep {pr : Ent → Bool} {l : List Ent} {w : World} {g cap i j : Nat} {dk : List Ent} {W W2 : World} (h : DelInv pr l w g cap i j dk W) {y : Ent} (hy : l[j]? = some y) (hp : pr y = false) (hG : Grown W W2) (hij : i < j) :
  DelInv pr l w g cap (i + 1) (j + 1) (dk.set i y) ((((W2.setCell ⟨g, i * 4, none⟩ (.string y.path)).setCell ⟨g, i * 4 + 1, none⟩ (.int .i64 y.kind)).setCell ⟨g, i * 4 + 2, none⟩ (.string y.text)).setCell ⟨g, i * 4 + 3, none⟩ (.bool y.opq)) := by
 have hj := (List.getElem?_eq_some_iff.1 hy).1
 have hi : i < dk.length := by rw [h.len]; omega
 refine ⟨(h.own.grown hG).set hi y, by rw [List.length_set, h.len], ?_, ?_, gby_set (gby_set (gby_set (gby_set (gby_grown h.gby hG) _ _) _ _) _ _) _ _⟩
 ·rw [take_step hy, List.filter_append, ← h.head, take_step (y := y) (by rw [List.getElem?_set, if_pos rfl, if_pos hi])]
  rw [List.take_set_of_le (Nat.le_refl _)]
  simp [hp]
 ·have := congrArg (·.drop 1) h.tail
  rw [List.drop_set_of_lt (by omega)]
  simpa [List.drop_drop] using this
theorem IdxPost.parts {pr : Ent → Bool} {t : List Ent} {w w' : World} {r : Ending} {n : Nat} (hn : n = t.length) (h : IdxPost pr t w r w') :
  Grown w w' ∧ ((r = .returned (.int .i64 (-1)) ∧ ∀ x ∈ t, pr x = false) ∨ ∃ (k : Nat) (y : Ent), k < n ∧ t[k]? = some y ∧ r = .returned (.int .i64 k) ∧ pr y = true ∧ ∀ x ∈ t.take k, pr x = false) := by
 obtain ⟨h1, h2 | ⟨k, y, h3, h4⟩⟩ := h
 ·exact ⟨h1, .inl h2⟩
 ·exact ⟨h1, .inr ⟨k, y, by rw [hn]; exact (List.getElem?_eq_some_iff.1 h3).1, h3, h4⟩⟩
set_option maxHeartbeats 4000000 in
theorem delete_any (pr : Ent → Bool) (gf : Nat) (lb : Array Value) (eg : ∀ args w, (callFunc gf args).run Tryz.prog w = .ok (.enter gf args) w) (l : List Ent) (g cap : Nat) (w : World) (hO : Own w g cap l) (hn : l.length < 4611686018427387904)
  (hp : ∀ W x, w.grownBy W (some g) → x ∈ l → Calls Tryz.prog gf (#[.agg #[.string x.path, .int .i64 x.kind, .string x.text, .bool x.opq]] ++ lb) W fun e w' => e = .returned (.bool (pr x)) ∧ Grown W w') :
  Calls Tryz.prog 220 #[.slice (some ⟨g, 0, none⟩) l.length cap, .func (.func gf) #[] lb] w fun e w' =>
   e = .returned (.slice (some ⟨g, 0, none⟩) (l.filter fun x => !pr x).length cap) ∧ Own w' g cap (l.filter fun x => !pr x) ∧ w.grownBy w' (some g) := by
 have hI := index_any pr gf lb eg l (some ⟨g, 0, none⟩) cap w hO.lies hn (fun W x hG hx => hp W x (gby_grown (gby_refl w _) hG) hx)
 have HO : Aside (Own w g cap l) := hO
 have HP : Aside _ := hp
 have hcap : l.length ≤ cap := hO.len
 have hc63 := hO.max
 unfold maxLen at hc63
 clear hp hO
 obtain ⟨n, hnl⟩ : ∃ n, n = l.length := ⟨_, rfl⟩
 have HN : Aside (n = l.length) := hnl
 rw [← hnl] at hn hcap hI ⊢
 clear hnl
 go_enter Tryz.func220, Tryz.ntmps220
 go_wp2_with (go_at_call 256; refine hI.mono ?_; clear hI; intro e w1 hIP; rcases IdxPost.parts HN.out hIP with ⟨hG, ⟨rfl, ha⟩ | ⟨k0, y0, hk0, hy0, rfl, hpy0, ha⟩⟩ <;> clear hIP)
 ·go_ret
  have hf : (l.filter fun x => !pr x) = l := List.filter_eq_self.2 fun x hx => by simp [ha x hx]
  rw [hf]
  exact ⟨by rw [← HN.out]; rfl, HO.out.grown hG, gby_grown (gby_refl w _) hG⟩
 ·have HI0 : Aside (DelInv pr l w g cap k0 (k0 + 1) l w1) := ⟨HO.out.grown hG, rfl, by rw [take_step hy0, List.filter_append, List.filter_eq_self.2 (fun x hx => by simp [ha x hx])]; simp [hpy0], rfl, gby_grown (gby_refl w _) hG⟩
  clear hy0 ha hG
  have hne1 : ((k0 : Int) == -1) = false := beq_eq_false_iff_ne.2 (by omega)
  go_wp2
  go_loopg [5, 6, 7] n (fun gg s5 s6 _ wr => ∃ (i j : Nat) (dk : List Ent), s5 = .int .i64 i ∧ s6 = .int .i64 j ∧ i < j ∧ j ≤ n ∧ n - j ≤ gg ∧ Aside (DelInv pr l w g cap i j dk wr))
  case atStart => exact ⟨k0, k0 + 1, l, rfl, by go_num, by omega, by omega, by omega, HI0.out⟩
  case round =>
   obtain ⟨i, j, dk, rfl, rfl, hij, hjn, hgg, INV⟩ := hrel
   have hglt := INV.out.own.lt
   have hne : g ≠ wr.heap.size := by omega
   by_cases hlt : j < n
   ·have hltz : (j : Int) < (n : Int) := by omega
    obtain ⟨y, hy⟩ : ∃ y, l[j]? = some y := ⟨_, List.getElem?_eq_getElem (by have := HN.out; omega)⟩
    have HY : Aside (l[j]? = some y) := hy
    obtain ⟨⟨c0, c1, c2, c3⟩, _⟩ := INV.out.own.cells (INV.out.at hy)
    have hcall := HP.out _ y (gby_alloc INV.out.gby (.cells #[.string y.path, .int .i64 y.kind, .string y.text, .bool y.opq] 53)) (List.mem_of_getElem? hy)
    obtain ⟨z, hz⟩ : ∃ z, dk[i]? = some z := ⟨_, List.getElem?_eq_getElem (by rw [INV.out.len]; have := HN.out; omega)⟩
    have HZ : Aside (dk[i]? = some z) := hz
    clear hy hz
    cases hq : pr y with
    | true =>
     rw [hq] at hcall
     go_wp2_with (go_at_fn gf; refine hcall.mono ?_; clear hcall; rintro e w2 ⟨rfl, hG2⟩)
     go_roundg (n - (j + 1))
     case measure => omega
     case rel => exact ⟨i, j + 1, dk, rfl, by go_num, by omega, by omega, Nat.le_refl _, INV.out.skip HY.out hq (((Grown.refl wr).alloc _).trans hG2)⟩
    | false =>
     rw [hq] at hcall
     go_wp2_with (go_at_fn gf; refine hcall.mono ?_; clear hcall; rintro e w2 ⟨rfl, hG2⟩; obtain ⟨⟨b0, b1, b2, b3⟩, _⟩ := new4 (by simp) hG2.below; obtain ⟨⟨a0, a1, a2, a3⟩, ⟨f0, f1, f2, f3⟩⟩ := (INV.out.own.grown (((Grown.refl wr).alloc _).trans hG2)).cells HZ.out)
     go_roundg (n - (j + 1))
     case measure => omega
     case rel => exact ⟨i + 1, j + 1, dk.set i y, by go_num, by go_num, by omega, by omega, Nat.le_refl _, INV.out.keep HY.out hq (((Grown.refl wr).alloc _).trans hG2) hij⟩
   ·obtain rfl : j = n := by omega
    have hltz : ¬ (j : Int) < (j : Int) := by omega
    obtain ⟨zs, hzs⟩ := clear_own INV.out.own (i := i) (n := j - i) (c := cap - i) (by omega) (by omega)
    have hic : ¬ cap = i := by omega
    go_wp2
    go_ret
    have hf : (l.filter fun x => !pr x) = dk.take i := by rw [INV.out.head, HN.out, List.take_length]
    have hl : (dk.take i).length = i := by rw [List.length_take, INV.out.len]; have := HN.out; omega
    rw [hf, hl]
    exact ⟨rfl, (INV.out.own.take i).beyond (by rw [hl]; exact Nat.le_refl _), gby_setCells _ _ _ INV.out.gby⟩
theorem withoutP_any (e : Ent) (q : ByteArray) (B : Nat) (w : World) (hB : B < w.heap.size) (hc : w.cell? ⟨B, 0, none⟩ = some (.string q)) :
  Calls Tryz.prog 255 #[.agg #[.string e.path, .int .i64 e.kind, .string e.text, .bool e.opq], .pointer (some ⟨B, 0, none⟩)] w fun r w' => r = .returned (.bool (decide (e.p = q.data.toList))) ∧ Grown w w' := by
 have hne : B ≠ w.heap.size := by omega
 have HE : Aside ((e.path.toList == q.toList) = decide (e.p = q.data.toList)) := by
  show _ = _
  rw [Lib.toList_data, Lib.toList_data, Bool.eq_iff_iff]; simp [Ent.p]
 go_enter Tryz.func255, Tryz.ntmps255
 go_wp2
 go_ret
 exact ⟨ret_bool HE.out, (Grown.refl w).alloc _⟩
end Go.Proofs.YthfeoiffoeagkaaGreatDoor
