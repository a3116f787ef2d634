/-
  What the document's own answers, traceref1.Get and traceref1.WrongEntry, answer.
-/
import Derived.Test.YtampldoimpfjgaaGreatDoorGE
import Derived.Test.YtampldoimpfjgaaGreatDoorGF
import Derived.Test.YtampldoimpfjgaaGreatDoorGB
import Derived.Test.YtampldoimpfjgaaGreatDoorGH
namespace Go.Proofs.YtampldoimpfjgaaGreatDoor
open Go.RowKit PM Go.Sort
set_option linter.unusedVariables false

theorem find_skip {t : List Ent} {k : Nat} {y : Ent} {q : List UInt8} (hy : t[k]? = some y) (hn : y.p ≠ q) (h : (t.drop k).find? (fun e => decide (e.p = q)) = t.find? (fun e => decide (e.p = q))) : (t.drop (k + 1)).find? (fun e => decide (e.p = q)) = t.find? (fun e => decide (e.p = q)) := by
  obtain ⟨h1, h2⟩ := List.getElem?_eq_some_iff.1 hy
  rw [List.drop_eq_getElem_cons h1, List.find?_cons, h2] at h
  simpa [hn] using h
theorem find_hit {t : List Ent} {k : Nat} {y : Ent} {q : List UInt8} (hy : t[k]? = some y) (hn : y.p = q) (h : (t.drop k).find? (fun e => decide (e.p = q)) = t.find? (fun e => decide (e.p = q))) : t.find? (fun e => decide (e.p = q)) = some y := by
  obtain ⟨h1, h2⟩ := List.getElem?_eq_some_iff.1 hy
  rw [← h, List.drop_eq_getElem_cons h1, List.find?_cons, h2]
  simp [hn]

theorem back4 {W : World} {B : Nat} {a b c d u0 u1 u2 u3 : Value} (o : Obj) (h0 : W.cell? ⟨B, 0, none⟩ = some u0) (h1 : W.cell? ⟨B, 1, none⟩ = some u1) (h2 : W.cell? ⟨B, 2, none⟩ = some u2) (h3 : W.cell? ⟨B, 3, none⟩ = some u3) :
    (((((W.setCell ⟨B, 0, none⟩ a).setCell ⟨B, 1, none⟩ b).setCell ⟨B, 2, none⟩ c).setCell ⟨B, 3, none⟩ d).alloc o).cell? ⟨B, 0, none⟩ = some a ∧ (((((W.setCell ⟨B, 0, none⟩ a).setCell ⟨B, 1, none⟩ b).setCell ⟨B, 2, none⟩ c).setCell ⟨B, 3, none⟩ d).alloc o).cell? ⟨B, 1, none⟩ = some b ∧
    (((((W.setCell ⟨B, 0, none⟩ a).setCell ⟨B, 1, none⟩ b).setCell ⟨B, 2, none⟩ c).setCell ⟨B, 3, none⟩ d).alloc o).cell? ⟨B, 2, none⟩ = some c ∧ (((((W.setCell ⟨B, 0, none⟩ a).setCell ⟨B, 1, none⟩ b).setCell ⟨B, 2, none⟩ c).setCell ⟨B, 3, none⟩ d).alloc o).cell? ⟨B, 3, none⟩ = some d := by
  refine ⟨Lib.cell?_alloc_some o ?_, Lib.cell?_alloc_some o ?_, Lib.cell?_alloc_some o ?_, Lib.cell?_alloc_some o ?_⟩ <;> go_simp
set_option maxHeartbeats 2000000 in
theorem refGet_any (t : List Ent) (q : ByteArray) (p : Option Addr) (cap : Nat) (w : World) (hL : Lies w p t) (hn : t.length < 4611686018427387904) (x : Ent) (b : Bool) (hx : (getL t q.data.toList).getD zeroE = x) (hb : (getL t q.data.toList).isSome = b) :
    Calls Tryz.prog 26 #[.slice p t.length cap, .string q] w fun r w' => r = .returned (.tuple #[.agg #[.string x.path, .int .i64 x.kind, .string x.text, .bool x.opq], .bool b]) ∧ Below w.heap.size w w' := by
  by_cases h0 : q.data.toList = []
  · have h1 := empty_of h0
    rw [h0, getL_nil] at hx hb
    obtain rfl : dirE = x := hx
    obtain rfl : true = b := hb
    clear h0
    go_enter Tryz.func26, Tryz.ntmps26
    go_wp2
    refine bodyPost_ret (v := .tuple #[.agg #[.string dirE.path, .int .i64 dirE.kind, .string dirE.text, .bool dirE.opq], .bool true]) (by simp [results, Tryz.results26, go_sem, dirE]; rfl) rfl ?_
    exact ⟨rfl, (Below.refl _ _).alloc (Nat.le_refl _) _⟩
  · have h1 := empty_not h0
    have HX : Aside ((t.find? fun e => decide (e.p = q.data.toList)).getD zeroE = x ∧ (t.find? fun e => decide (e.p = q.data.toList)).isSome = b) := by
      unfold getL at hx hb
      rw [if_neg h0] at hx hb
      exact ⟨hx, hb⟩
    have HL : Aside (Lies w p t) := hL
    obtain ⟨n, hnl⟩ : ∃ n, n = t.length := ⟨_, rfl⟩
    have HN : Aside (n = t.length) := hnl
    rw [← hnl] at hn ⊢
    clear hnl hL h0 hx hb
    go_enter Tryz.func26, Tryz.ntmps26
    go_wp2
    go_loopg [13] n (fun gg s13 wr => ∃ k : Nat, k ≤ n ∧ n - k ≤ gg ∧ s13 = .int .i64 k ∧ Aside (Below (w.heap.size + 1) (w.alloc (.cells #[.string ⟨#[]⟩, .int .i64 0, .string ⟨#[]⟩, .bool false] 28)) wr) ∧ Aside ((t.drop k).find? (fun e => decide (e.p = q.data.toList)) = t.find? (fun e => decide (e.p = q.data.toList))))
    case atStart => exact ⟨0, Nat.zero_le _, by omega, rfl, Below.refl _ _, by simp [Aside]⟩
    case round =>
      obtain ⟨k, hk, hgg, rfl, BW, FD⟩ := hrel
      have hBw := base1 BW.out
      obtain ⟨⟨r0, r1, r2, r3⟩, ⟨f0, f1, f2, f3⟩⟩ := new4 (Nat.lt_succ_self _) BW.out
      have hws : w.heap.size < wr.heap.size := block_lt_of_cell r0
      have hne2 : w.heap.size ≠ wr.heap.size := by omega
      by_cases hlt : k < n
      · have hltz : (k : Int) < (n : Int) := by omega
        obtain ⟨y, hy⟩ : ∃ y, t[k]? = some y := ⟨_, List.getElem?_eq_getElem (by have := HN.out; omega)⟩
        have HY : Aside (t[k]? = some y) := hy
        rcases HL.out with h0 | ⟨b', off, rfl, hb', hc⟩
        · rw [h0] at hy; simp at hy
        obtain ⟨c0, c1, c2, c3⟩ := Lies.cells hc hb' hBw hy
        clear hc hy
        rcases eq_cases y.path q with ⟨e1, EQ⟩ | ⟨e1, EQ⟩
        · obtain ⟨hx1, hx2⟩ := HX.out
          rw [find_hit HY.out EQ.out FD.out] at hx1 hx2
          obtain rfl : y = x := hx1
          obtain rfl : true = b := hx2
          obtain ⟨s0, s1, s2, s3⟩ := back4 (a := .string y.path) (b := .int .i64 y.kind) (c := .string y.text) (d := .bool y.opq) (.cells #[.string y.path, .int .i64 y.kind, .string y.text, .bool y.opq] 28) r0 r1 r2 r3
          go_wp2
          refine bodyPost_ret (v := .tuple #[.agg #[.string y.path, .int .i64 y.kind, .string y.text, .bool y.opq], .bool true]) (by simp [results, Tryz.results26, go_sem, s0, s1, s2, s3]) rfl ?_
          exact ⟨rfl, ((((hBw.setCell (Nat.le_refl _) _).setCell (Nat.le_refl _) _).setCell (Nat.le_refl _) _).setCell (Nat.le_refl _) _).alloc (by simpa [World.setCell] using hBw.size) _⟩
        · go_wp2
          go_roundg (n - (k + 1))
          case measure => omega
          case rel => exact ⟨k + 1, by omega, by omega, by go_num, upA BW.out, find_skip HY.out EQ.out FD.out⟩
      · have hltz : ¬ (k : Int) < (n : Int) := by omega
        have hz : t.find? (fun e => decide (e.p = q.data.toList)) = none := by
          rw [← FD.out, List.drop_of_length_le (by have := HN.out; omega)]; rfl
        obtain ⟨hx1, hx2⟩ := HX.out
        rw [hz] at hx1 hx2
        obtain rfl : zeroE = x := hx1
        obtain rfl : false = b := hx2
        clear hz
        go_wp2
        refine bodyPost_ret (v := .tuple #[.agg #[.string zeroE.path, .int .i64 zeroE.kind, .string zeroE.text, .bool zeroE.opq], .bool false]) (by simp [results, Tryz.results26, go_sem, zeroE, r0, r1, r2, r3]) rfl ?_
        exact ⟨rfl, own_store4 BW.out _ _ _ _⟩

end Go.Proofs.YtampldoimpfjgaaGreatDoor
namespace Go.Proofs.YtampldoimpfjgaaGreatDoor
open Go.RowKit PM Go.Sort
set_option linter.unusedVariables false

set_option maxHeartbeats 4000000 in
theorem refWrongEntry_any (e : Ent) (layer : Bool) (w : World) (he : e.path.size ≤ 4294967296) (ht : e.text.size ≤ maxLen) :
    Calls Tryz.prog 51 #[.agg #[.string e.path, .int .i64 e.kind, .string e.text, .bool e.opq], .bool layer] w fun r w' => r = .returned (.int .i64 (wrongE e layer)) ∧ Below w.heap.size w w' := by
  obtain ⟨p, k, t, o⟩ := e
  have hcl' := fun W => refClean_any p W he
  have hB1 : Below (w.heap.size + 1) (w.alloc (.cells #[.string p, .int .i64 k, .string t, .bool o] 28)) (w.alloc (.cells #[.string p, .int .i64 k, .string t, .bool o] 28)) := Below.refl _ _
  unfold maxLen at ht
  have hways := ways ⟨p, k, t, o⟩ layer
  unfold Ways at hways
  generalize wrongE ⟨p, k, t, o⟩ layer = r at hways ⊢
  simp only [Ent.p] at hways
  generalize clean p.data.toList = cl at hways hcl'
  show Calls Tryz.prog 51 #[.agg #[.string p, .int .i64 k, .string t, .bool o], .bool layer] w _
  rcases hways with ⟨hr, ⟨k1, k2, k3, k4, hl | hl⟩ | ⟨hk, hl⟩⟩ | ⟨hk | hk | hk | ⟨hk, hl⟩, ⟨hr, hc⟩ | ⟨hr, hc, hs⟩ | ⟨hc, hs, ⟨hr, h0, hkk⟩ | ⟨hr, h0, hkk⟩ | ⟨⟨h0, hkk⟩ | ⟨h0, hkk⟩, ⟨hr, ho⟩ | ⟨hr, ho, hl'⟩ | ⟨hr, ho, hl', hk2⟩ | ⟨hr, ho, hl', hk2⟩⟩⟩⟩
  all_goals try (exfalso; omega)
  all_goals (try subst hk)
  all_goals (try subst hl)
  all_goals try contradiction
  all_goals (try subst hl')
  all_goals (try subst ho)
  all_goals (try subst hc)
  all_goals (try clear hkk)
  all_goals (try clear hk2)
  all_goals try have h0' := nil_of h0
  all_goals try have h0' := not_nil_of h0
  all_goals have HR : Aside (_ = _) := hr
  all_goals clear hr
  all_goals try (
    have kk : k < 1 ∨ 4 < k := by
      have g1 := beq_eq_false_iff_ne.1 k1
      have g2 := beq_eq_false_iff_ne.1 k2
      have g3 := beq_eq_false_iff_ne.1 k3
      have g4 := beq_eq_false_iff_ne.1 k4
      omega
    clear k1 k2 k3 k4
    rcases kk with kk | kk)
  all_goals
    go_enter Tryz.func51, Tryz.ntmps51
    go_wp2_with (go_at_call 25; refine (hcl' _).mono ?_; rintro rr w3 ⟨rfl, hN⟩; replace hB1 := up1 hB1 hN; clear hN; obtain ⟨⟨c0, c1, c2, c3⟩, _⟩ := new4 (Nat.lt_succ_self _) hB1)
    go_ret
    exact ⟨ret_int HR.out.symm, base1 hB1⟩
end Go.Proofs.YtampldoimpfjgaaGreatDoor
namespace Go.Proofs.YtampldoimpfjgaaGreatDoor
open Go.RowKit PM Go.Sort
set_option linter.unusedVariables false

theorem placeL_ahead {t : List Ent} {k : Nat} {y z : Ent} (hk : 0 < k) (hz : t[k - 1]? = some z) : notAhead (t.take k) y.p = decide (0 ≤ cmp z.p y.p) := by
  obtain ⟨k, rfl⟩ : ∃ j, k = j + 1 := ⟨k - 1, by omega⟩
  rw [Nat.add_sub_cancel] at hz
  unfold notAhead
  rw [take_step hz]
  simp
theorem placeL_first {y : Ent} : notAhead [] y.p = false := rfl
theorem faultE_of {layer : Bool} {a : List Ent} {y : Ent} {r1 : Int} (h1 : wrongE y layer = r1) : faultE layer a y = if r1 = 0 then placeL a y.p else r1 := by subst h1; rfl

theorem refCut_grown (s : ByteArray) (w : World) (hs : s.size < 4611686018427387904) : Calls Tryz.prog 53 #[.string s] w fun e w' => (∃ d n : ByteArray, e = .returned (.tuple #[.string d, .string n]) ∧ d.data.toList = (cutL s.data.toList).1 ∧ n.data.toList = (cutL s.data.toList).2) ∧ Grown w w' :=
  (refCut_any s w hs).mono fun e w' ⟨h, n, hw⟩ => ⟨h, by rw [hw]; exact (Grown.refl w).drewN n⟩
set_option maxHeartbeats 8000000 in
set_option maxRecDepth 100000 in
theorem refWrong_any (t : List Ent) (layer : Bool) (p : Option Addr) (cap : Nat) (w : World) (hL : Lies w p t) (hF : ∀ e ∈ t, e.path.size ≤ 1048576 ∧ e.text.size ≤ 1048576) (hn : t.length < 4611686018427387904) (hcap : t.length ≤ cap) :
    Calls Tryz.prog 21 #[.slice p t.length cap, .bool layer] w fun r w' => r = .returned (.agg #[.int .i64 (faultL layer t).1, .int .i64 ((faultL layer t).2 : Nat)]) ∧ Below w.heap.size w w' := by
  have HF : Aside (∀ e ∈ t, e.path.size ≤ 1048576 ∧ e.text.size ≤ 1048576) := hF
  have HL : Aside (Lies w p t) := hL
  clear hF hL
  obtain ⟨n, hnl⟩ : ∃ n, n = t.length := ⟨_, rfl⟩
  have HN : Aside (n = t.length) := hnl
  rw [← hnl] at hn hcap ⊢
  by_cases h80 : 80 < n
  · have g : (80 : Int) < (n : Int) := by omega
    have HR : Aside (faultL layer t = (5, 0)) := by show _ = _; rw [faultL, if_pos (by omega)]
    clear hnl
    go_enter Tryz.func21, Tryz.ntmps21
    go_wp2
    refine bodyPost_ret (v := .agg #[.int .i64 5, .int .i64 0]) (by simp [results, Tryz.results21, go_sem]) rfl ?_
    exact ⟨by rw [HR.out]; rfl, (Below.refl _ _).alloc (Nat.le_refl _) _⟩
  · have g : ¬ (80 : Int) < (n : Int) := by omega
    have HR : Aside (faultL layer t = faultFrom layer [] t) := by show _ = _; rw [faultL, if_neg (by omega)]
    clear hnl
    go_enter Tryz.func21, Tryz.ntmps21
    go_wp2
    go_loopg [18] n (fun gg s18 wr => ∃ k : Nat, k ≤ n ∧ n - k ≤ gg ∧ s18 = .int .i64 k ∧ Aside (Below (w.heap.size + 1) (w.alloc (.cells #[.int .i64 0, .int .i64 0] 33)) wr) ∧ Aside (faultFrom layer (t.take k) (t.drop k) = faultL layer t))
    case atStart => exact ⟨0, Nat.zero_le _, by omega, rfl, Below.refl _ _, HR.out.symm⟩
    case round =>
      obtain ⟨k, hk, hg, rfl, BW, HE⟩ := hrel
      by_cases hlt : k < n
      · have hltz : (k : Int) < (n : Int) := by omega
        obtain ⟨y, hy⟩ : ∃ y, t[k]? = some y := ⟨_, List.getElem?_eq_getElem (by have := HN.out; omega)⟩
        have HY : Aside (t[k]? = some y) := hy
        have hf := HF.out y (List.mem_of_getElem? hy)
        have hBw := base1 BW.out
        rcases HL.out with h0 | ⟨b, off, rfl, hb, hc⟩
        · rw [h0] at hy; simp at hy
        obtain ⟨c0, c1, c2, c3⟩ := Lies.cells hc hb hBw hy
        have HC : Aside (∀ j e, t[j]? = some e → ∀ i v, (encE e)[i]? = some v → w.cell? ⟨b, off + j * 4 + i, none⟩ = some v) := hc
        have hb' : b < wr.heap.size := Nat.lt_of_lt_of_le hb hBw.size
        have hne : b ≠ wr.heap.size := by omega
        clear hc hy
        have hwe := fun W => refWrongEntry_any y layer W (by omega) (by unfold maxLen; omega)
        have HFE : Aside (faultE layer (t.take k) y = if wrongE y layer = 0 then placeL (t.take k) y.p else wrongE y layer) := rfl
        have HSTEP : Aside (faultFrom layer (t.take k) (t.drop k) = if faultE layer (t.take k) y = 0 then faultFrom layer (t.take (k + 1)) (t.drop (k + 1)) else (faultE layer (t.take k) y, k)) := faultFrom_step HY.out
        generalize wrongE y layer = r1 at hwe HFE
        by_cases hr1 : r1 = 0
        · have HFE' : Aside (faultE layer (t.take k) y = placeL (t.take k) y.p) := by show _ = _; rw [HFE.out, if_pos hr1]
          subst hr1
          have hcu := fun W => refCut_grown y.path W (by omega)
          obtain ⟨⟨xp, xk, xt, xo⟩, hxx⟩ : ∃ x, (getL (t.take k) (dirOf y.p)).getD zeroE = x := ⟨_, rfl⟩
          obtain ⟨bb, hbb⟩ : ∃ bb, (getL (t.take k) (dirOf y.p)).isSome = bb := ⟨_, rfl⟩
          have hge : ∀ W (d : ByteArray), d.data.toList = (cutL y.path.data.toList).1 → Below w.heap.size w W → Calls Tryz.prog 26 #[.slice (some ⟨b, off, none⟩) k cap, .string d] W fun r w' => r = .returned (.tuple #[.agg #[.string xp, .int .i64 xk, .string xt, .bool xo], .bool bb]) ∧ Below W.heap.size W w' := fun W d hd hB => by
            have hd' : d.data.toList = dirOf y.p := hd
            have h := refGet_any (t.take k) d (some ⟨b, off, none⟩) cap W (Lies.take (Lies.kept (Or.inr ⟨b, off, rfl, hb, HC.out⟩) hB) k) (by rw [List.length_take]; have := HN.out; omega) ⟨xp, xk, xt, xo⟩ bb (by rw [hd']; exact hxx) (by rw [hd']; exact hbb)
            rw [List.length_take, Nat.min_eq_left (by have := HN.out; omega)] at h
            exact h
          have HND : (noDirL (t.take k) (dirOf y.p) = 0 ∧ bb = true ∧ xk = 2) ∨ (noDirL (t.take k) (dirOf y.p) ≠ 0 ∧ (bb = false ∨ (bb = true ∧ ¬ xk = 2))) := by
            unfold noDirL
            cases hgg : getL (t.take k) (dirOf y.p) with
            | none => rw [hgg] at hbb; exact .inr ⟨by decide, .inl hbb.symm⟩
            | some z =>
              rw [hgg] at hbb hxx
              obtain rfl : z = ⟨xp, xk, xt, xo⟩ := hxx
              by_cases hk2 : xk = 2
              · exact .inl ⟨by simp [hk2], hbb.symm, hk2⟩
              · exact .inr ⟨by simp [hk2], .inr ⟨hbb.symm, hk2⟩⟩
          clear hxx hbb
          have hkc : k ≤ cap := by omega
          have hkc' : (k : Int) ≤ (cap : Int) := by omega
          by_cases hk0 : k = 0
          · have HPL : Aside (notAhead (t.take k) y.p = false) := by show _ = _; rw [hk0]; rfl
            have HZERO : Aside (noDirL (t.take k) (dirOf y.p) = 0 → faultE layer (t.take k) y = 0) := fun h => by rw [HFE'.out, placeL, HPL.out, h]; rfl
            have HTEN : Aside (noDirL (t.take k) (dirOf y.p) ≠ 0 → faultE layer (t.take k) y = 10) := fun h => by rw [HFE'.out, placeL, HPL.out]; simp [h]
            subst hk0
            simp only [Nat.zero_mul, Nat.add_zero] at c0 c1 c2 c3
            go_wp2_with (go_at_call 51; refine (hwe _).mono ?_; clear hwe; rintro rr w1 ⟨rfl, hB1⟩; obtain ⟨⟨d0, d1, d2, d3⟩, _⟩ := new4 (by simp) hB1; have hX := base2 hB1)
            go_quiet (fail)
            replace hX := below_drewN hX nq
            rcases HND with ⟨HP0, rfl, hkk⟩ | ⟨HP10, hway⟩
            · subst hkk
              go_wp2_with (first
                | (go_at_call 53; refine (hcu _).mono ?_; clear hcu; rintro rr w3 ⟨⟨d, nm, rfl, hd, hnm⟩, hG3⟩; clear hnm; replace hX := Below.onto hX hG3.below; clear hG3)
                | (go_at_call 26; refine (hge _ d hd (Below.onto hBw hX)).mono ?_; clear hge; rintro rr w4 ⟨rfl, hN⟩; replace hX := Below.onto hX hN; clear hN; replace hX := hX.alloc hX.size (.cells #[.string xp, .int .i64 2, .string xt, .bool xo] 28); have HO : Aside (Below (w.heap.size + 1) (w.alloc (.cells #[.int .i64 0, .int .i64 0] 33)) _) := up1 BW.out hX; obtain ⟨⟨r0, r1⟩, ⟨f0, f1⟩⟩ := new2 (Nat.lt_succ_self _) HO.out))
              go_roundg (n - (0 + 1))
              case measure => omega
              case rel => exact ⟨0 + 1, by omega, by omega, by go_num, HO.out, by have := HE.out; rw [HSTEP.out, if_pos (HZERO.out HP0)] at this; exact this⟩
            · rcases hway with rfl | ⟨rfl, hkk⟩
              · go_wp2_with (first
                  | (go_at_call 53; refine (hcu _).mono ?_; clear hcu; rintro rr w3 ⟨⟨d, nm, rfl, hd, hnm⟩, hG3⟩; clear hnm; replace hX := Below.onto hX hG3.below; clear hG3)
                  | (go_at_call 26; refine (hge _ d hd (Below.onto hBw hX)).mono ?_; clear hge; rintro rr w4 ⟨rfl, hN⟩; replace hX := Below.onto hX hN; clear hN; replace hX := hX.alloc hX.size (.cells #[.string xp, .int .i64 xk, .string xt, .bool xo] 28); have HO : Aside (Below (w.heap.size + 1) (w.alloc (.cells #[.int .i64 0, .int .i64 0] 33)) _) := up1 BW.out hX; obtain ⟨⟨r0, r1⟩, ⟨f0, f1⟩⟩ := new2 (Nat.lt_succ_self _) HO.out))
                refine bodyPost_ret (v := .agg #[.int .i64 10, .int .i64 ((0 : Nat) : Int)]) (by simp [results, Tryz.results21, go_sem, r0, r1]) rfl ?_
                exact ⟨by rw [← HE.out, HSTEP.out, if_neg (by rw [HTEN.out HP10]; decide), HTEN.out HP10], own_store2 HO.out _ _⟩
              · go_wp2_with (first
                  | (go_at_call 53; refine (hcu _).mono ?_; clear hcu; rintro rr w3 ⟨⟨d, nm, rfl, hd, hnm⟩, hG3⟩; clear hnm; replace hX := Below.onto hX hG3.below; clear hG3)
                  | (go_at_call 26; refine (hge _ d hd (Below.onto hBw hX)).mono ?_; clear hge; rintro rr w4 ⟨rfl, hN⟩; replace hX := Below.onto hX hN; clear hN; replace hX := hX.alloc hX.size (.cells #[.string xp, .int .i64 xk, .string xt, .bool xo] 28); have HO : Aside (Below (w.heap.size + 1) (w.alloc (.cells #[.int .i64 0, .int .i64 0] 33)) _) := up1 BW.out hX; obtain ⟨⟨r0, r1⟩, ⟨f0, f1⟩⟩ := new2 (Nat.lt_succ_self _) HO.out))
                refine bodyPost_ret (v := .agg #[.int .i64 10, .int .i64 ((0 : Nat) : Int)]) (by simp [results, Tryz.results21, go_sem, r0, r1]) rfl ?_
                exact ⟨by rw [← HE.out, HSTEP.out, if_neg (by rw [HTEN.out HP10]; decide), HTEN.out HP10], own_store2 HO.out _ _⟩
          · obtain ⟨j, hjk⟩ : ∃ j, k = j + 1 := ⟨k - 1, by omega⟩
            have HJ : Aside (k = j + 1) := hjk
            have hk1 : (0 : Int) < (k : Int) := by omega
            have hk1n : 0 < k := by omega
            have hk1d : decide (0 < k) = true := decide_eq_true hk1n
            have hk1e : decide ((0 : Int) < (k : Int)) = true := decide_eq_true hk1
            obtain ⟨z, hz⟩ : ∃ z, t[j]? = some z := ⟨_, List.getElem?_eq_getElem (by have := HN.out; omega)⟩
            have hfz := HF.out z (List.mem_of_getElem? hz)
            obtain ⟨z0, _, _, _⟩ := Lies.cells HC.out hb hBw hz
            have HPL : Aside (notAhead (t.take k) y.p = decide (0 ≤ cmp z.p y.p)) := placeL_ahead (by omega) (by rw [hjk, Nat.add_sub_cancel]; exact hz)
            have hle := fun W => refLess_any z.path y.path W (by omega) (by omega)
            have hzb := block_lt_of_cell z0
            have hidx : ((k : Int) - 1) = j := by omega
            have hj0 : (0 : Int) ≤ (j : Int) := by omega
            have hjn : (j : Int) < (n : Int) := by omega
            have hjn0 : j < n := by omega
            have hwj : IntKind.i64.wrap (j : Int) = (j : Int) := by rw [IntKind.wrap_i64]; omega
            have hkn1 : (k : Int) - 1 < (n : Int) := by omega
            have hkp1 : (0 : Int) ≤ (k : Int) - 1 := by omega
            have hktn : ((k : Int) - 1).toNat = j := by omega
            have hkm : k - 1 = j := by omega
            have hwrap : IntKind.i64.wrap ((k : Int) - 1) = (j : Int) := by rw [IntKind.wrap_i64]; omega
            clear hz hjk hk0
            by_cases hlz : cmp z.p y.p < 0
            · have hdl : decide (cmp z.path.data.toList y.path.data.toList < 0) = true := decide_eq_true hlz
              rw [hdl] at hle
              have HPF : Aside (notAhead (t.take k) y.p = false) := by show _ = _; rw [HPL.out]; simpa using hlz
              have HZERO : Aside (noDirL (t.take k) (dirOf y.p) = 0 → faultE layer (t.take k) y = 0) := fun h => by rw [HFE'.out, placeL, HPF.out, h]; rfl
              have HTEN : Aside (noDirL (t.take k) (dirOf y.p) ≠ 0 → faultE layer (t.take k) y = 10) := fun h => by rw [HFE'.out, placeL, HPF.out]; simp [h]
              clear hlz hdl
              go_wp2_with (go_at_call 51; refine (hwe _).mono ?_; clear hwe; rintro rr w1 ⟨rfl, hB1⟩; obtain ⟨⟨d0, d1, d2, d3⟩, _⟩ := new4 (by simp) hB1; have hX := base2 hB1; have y0 := (hX.cell (p := ⟨b, off + j * 4, none⟩) hzb).trans z0)
              go_region_held3 (fun w' => w'.cell? ⟨wr.heap.size, 0, none⟩ = some (.string y.path) ∧ w'.cell? ⟨b, off + j * 4, none⟩ = some (.string z.path)) (go_keep) (first | (go_at_call 52; refine (hle _).mono ?_; rintro rr w2 ⟨rfl, hB2⟩; have e0 := kept_cell hB1 hB2; have e1 := (hB2.cell (p := ⟨b, off + j * 4, none⟩) (Nat.lt_of_lt_of_le hzb hX.size)).trans y0; replace hX := Below.onto hX.drew hB2))
              rcases HND with ⟨HP0, rfl, hkk⟩ | ⟨HP10, hway⟩
              · subst hkk
                go_wp2_with (first
                  | (go_at_call 53; refine (hcu _).mono ?_; clear hcu; rintro rr w3 ⟨⟨d, nm, rfl, hd, hnm⟩, hG3⟩; clear hnm; replace hX := Below.onto hX hG3.below; clear hG3)
                  | (go_at_call 26; refine (hge _ d hd (Below.onto hBw hX)).mono ?_; clear hge; rintro rr w4 ⟨rfl, hN⟩; replace hX := Below.onto hX hN; clear hN; replace hX := hX.alloc hX.size (.cells #[.string xp, .int .i64 2, .string xt, .bool xo] 28); have HO : Aside (Below (w.heap.size + 1) (w.alloc (.cells #[.int .i64 0, .int .i64 0] 33)) _) := up1 BW.out hX; obtain ⟨⟨r0, r1⟩, ⟨f0, f1⟩⟩ := new2 (Nat.lt_succ_self _) HO.out))
                go_roundg (n - (k + 1))
                case measure => omega
                case rel => exact ⟨k + 1, by omega, by omega, by go_num, HO.out, by have := HE.out; rw [HSTEP.out, if_pos (HZERO.out HP0)] at this; exact this⟩
              · rcases hway with rfl | ⟨rfl, hkk⟩
                · go_wp2_with (first
                    | (go_at_call 53; refine (hcu _).mono ?_; clear hcu; rintro rr w3 ⟨⟨d, nm, rfl, hd, hnm⟩, hG3⟩; clear hnm; replace hX := Below.onto hX hG3.below; clear hG3)
                    | (go_at_call 26; refine (hge _ d hd (Below.onto hBw hX)).mono ?_; clear hge; rintro rr w4 ⟨rfl, hN⟩; replace hX := Below.onto hX hN; clear hN; replace hX := hX.alloc hX.size (.cells #[.string xp, .int .i64 xk, .string xt, .bool xo] 28); have HO : Aside (Below (w.heap.size + 1) (w.alloc (.cells #[.int .i64 0, .int .i64 0] 33)) _) := up1 BW.out hX; obtain ⟨⟨r0, r1⟩, ⟨f0, f1⟩⟩ := new2 (Nat.lt_succ_self _) HO.out))
                  refine bodyPost_ret (v := .agg #[.int .i64 10, .int .i64 (k : Int)]) (by simp [results, Tryz.results21, go_sem, r0, r1]) rfl ?_
                  exact ⟨by rw [← HE.out, HSTEP.out, if_neg (by rw [HTEN.out HP10]; decide), HTEN.out HP10], own_store2 HO.out _ _⟩
                · go_wp2_with (first
                    | (go_at_call 53; refine (hcu _).mono ?_; clear hcu; rintro rr w3 ⟨⟨d, nm, rfl, hd, hnm⟩, hG3⟩; clear hnm; replace hX := Below.onto hX hG3.below; clear hG3)
                    | (go_at_call 26; refine (hge _ d hd (Below.onto hBw hX)).mono ?_; clear hge; rintro rr w4 ⟨rfl, hN⟩; replace hX := Below.onto hX hN; clear hN; replace hX := hX.alloc hX.size (.cells #[.string xp, .int .i64 xk, .string xt, .bool xo] 28); have HO : Aside (Below (w.heap.size + 1) (w.alloc (.cells #[.int .i64 0, .int .i64 0] 33)) _) := up1 BW.out hX; obtain ⟨⟨r0, r1⟩, ⟨f0, f1⟩⟩ := new2 (Nat.lt_succ_self _) HO.out))
                  refine bodyPost_ret (v := .agg #[.int .i64 10, .int .i64 (k : Int)]) (by simp [results, Tryz.results21, go_sem, r0, r1]) rfl ?_
                  exact ⟨by rw [← HE.out, HSTEP.out, if_neg (by rw [HTEN.out HP10]; decide), HTEN.out HP10], own_store2 HO.out _ _⟩
            · have hdl : decide (cmp z.path.data.toList y.path.data.toList < 0) = false := decide_eq_false hlz
              rw [hdl] at hle
              have HTWO : Aside (faultE layer (t.take k) y = 2) := by show _ = _; rw [HFE'.out, placeL, HPL.out, if_pos (by simpa using hlz)]
              clear hlz hdl HND hge hcu
              go_wp2_with (go_at_call 51; refine (hwe _).mono ?_; clear hwe; rintro rr w1 ⟨rfl, hB1⟩; obtain ⟨⟨d0, d1, d2, d3⟩, _⟩ := new4 (by simp) hB1; have hX := base2 hB1; have y0 := (hX.cell (p := ⟨b, off + j * 4, none⟩) hzb).trans z0)
              go_region_held3 (fun w' => w'.cell? ⟨wr.heap.size, 0, none⟩ = some (.string y.path) ∧ w'.cell? ⟨b, off + j * 4, none⟩ = some (.string z.path)) (go_keep) (first | (go_at_call 52; refine (hle _).mono ?_; rintro rr w2 ⟨rfl, hB2⟩; have e0 := kept_cell hB1 hB2; have e1 := (hB2.cell (p := ⟨b, off + j * 4, none⟩) (Nat.lt_of_lt_of_le hzb hX.size)).trans y0; replace hX := Below.onto hX.drew hB2))
              have HO : Aside (Below (w.heap.size + 1) (w.alloc (.cells #[.int .i64 0, .int .i64 0] 33)) w2) := up1 BW.out hX
              obtain ⟨⟨r0, r1⟩, ⟨f0, f1⟩⟩ := new2 (Nat.lt_succ_self _) HO.out
              go_wp2
              refine bodyPost_ret (v := .agg #[.int .i64 2, .int .i64 (k : Int)]) (by simp [results, Tryz.results21, go_sem, r0, r1]) rfl ?_
              exact ⟨by rw [← HE.out, HSTEP.out, if_neg (by rw [HTWO.out]; decide), HTWO.out], own_store2 HO.out _ _⟩
        · have HFE' : Aside (faultE layer (t.take k) y = r1) := by show _ = _; rw [HFE.out, if_neg hr1]
          clear HFE
          go_wp2_with (go_at_call 51; refine (hwe _).mono ?_; clear hwe; rintro rr w1 ⟨rfl, hB1⟩; obtain ⟨⟨r0, r1'⟩, ⟨f0, f1⟩⟩ := new2 (Nat.lt_succ_self _) (up1 BW.out (base2 hB1)); have HO : Aside (Below (w.heap.size + 1) (w.alloc (.cells #[.int .i64 0, .int .i64 0] 33)) w1) := up1 BW.out (base2 hB1))
          refine bodyPost_ret (v := .agg #[.int .i64 r1, .int .i64 k]) (by simp [results, Tryz.results21, go_sem, r0, r1']) rfl ?_
          exact ⟨by rw [← HE.out, HSTEP.out, if_neg (by rw [HFE'.out]; exact hr1), HFE'.out], own_store2 HO.out _ _⟩
      · have hltz : ¬ (k : Int) < (n : Int) := by omega
        have HZ : Aside (faultL layer t = (0, 0)) := by
          have := HE.out
          rw [List.drop_of_length_le (by have := HN.out; omega), faultFrom] at this; exact this.symm
        obtain ⟨⟨r0, r1⟩, ⟨f0, f1⟩⟩ := new2 (Nat.lt_succ_self _) BW.out
        go_wp2
        refine bodyPost_ret (v := .agg #[.int .i64 0, .int .i64 0]) (by simp [results, Tryz.results21, go_sem, r0, r1]) rfl ?_
        exact ⟨by rw [HZ.out]; rfl, own_store2 BW.out _ _⟩
end Go.Proofs.YtampldoimpfjgaaGreatDoor
namespace Go.Proofs.YtampldoimpfjgaaGreatDoor
open Go.RowKit PM Go.Sort
set_option linter.unusedVariables false

set_option maxHeartbeats 4000000 in
set_option maxRecDepth 100000 in
theorem refNames_any (t : List Ent) (q : ByteArray) (p : Option Addr) (cap : Nat) (w : World) (hL : Lies w p t) (hF : ∀ e ∈ t, e.path.size ≤ 1048576) (hn80 : t.length ≤ 80) :
    Calls Tryz.prog 80 #[.slice p t.length cap, .string q] w (ListPost w (namesL t q.data.toList)) := by
  have HF : Aside (∀ e ∈ t, e.path.size ≤ 1048576) := hF
  have HL : Aside (Lies w p t) := hL
  obtain ⟨i0, hi, hz0, hz1, hz2⟩ := info9
  obtain ⟨n, hnl⟩ : ∃ n, n = t.length := ⟨_, rfl⟩
  have HN : Aside (n = t.length) := hnl
  rw [← hnl] at hn80 ⊢
  clear hnl hL hF
  go_enter Tryz.func80, Tryz.ntmps80
  go_wp2
  go_loopg [5, 12] n (fun gg v i wr => ∃ (k : Nat) (bs : List ByteArray), k ≤ n ∧ n - k ≤ gg ∧ i = .int .i64 k ∧ bs.length ≤ k ∧ Aside (Strs wr w.heap.size v bs) ∧ Aside (Below w.heap.size w wr) ∧ Aside (bs.map (·.data.toList) = namesL (t.take k) q.data.toList))
  case atStart => exact ⟨0, [], Nat.zero_le _, by omega, rfl, Nat.le_refl _, Strs.nil _ _, Below.refl _ _, by simp [namesL, Aside]⟩
  case round =>
    obtain ⟨k, bs, hk, hgg, rfl, hbl, ST, BW, NM⟩ := hrel
    by_cases hlt : k < n
    · have hltz : (k : Int) < (n : Int) := by omega
      obtain ⟨y, hy⟩ : ∃ y, t[k]? = some y := ⟨_, List.getElem?_eq_getElem (by have := HN.out; omega)⟩
      have HY : Aside (t[k]? = some y) := hy
      have hyf := HF.out y (List.mem_of_getElem? hy)
      rcases HL.out with h0 | ⟨b, off, rfl, hb, hc⟩
      · rw [h0] at hy; simp at hy
      obtain ⟨c0, c1, c2, c3⟩ := Lies.cells hc hb BW.out hy
      clear hc hy
      have hcu := fun W => refCut_grown y.path W (by omega)
      go_wp2_with (first
        | (go_at_call 53; refine (hcu _).mono ?_; clear hcu; rintro e w3 ⟨⟨d, nm, rfl, hd, hnm⟩, hG⟩; have HDN : Aside (d.data.toList = dirOf y.p ∧ nm.data.toList = (cutL y.p).2) := ⟨hd, hnm⟩; clear hd hnm; have hS3 : w3.ownsRow w.heap.size 9 1 u5 bs.length (bs.map Value.string) := ST.out.below (((Grown.refl wr).alloc _).trans hG).below; rcases eq_cases d q with ⟨hdq, HDQ⟩ | ⟨hdq, HDQ⟩)
        | (at_builtin; refine wpList_append_own _ rfl _ _ 72 rfl w.heap.size 9 i0 (.string ByteArray.empty) 1 16 Tryz.underlying72 hi hz0 hz1 hz2 rfl (by decide) _ _ _ rfl (hS3.alloc _) ⟨w3.heap.size, 0, none⟩ 1 1 [.string nm] rfl rfl ?c1 ?c2 ?c3 ?c4 ?c5 ?_))
      case c1 => exact cell_one_new _ _ _
      case c2 => intro u hu; simp at hu; subst hu; rfl
      case c3 => unfold maxLen; omega
      case c4 => omega
      case c5 => have := hG.size; have := BW.out.size; simp at *; omega
      · intro v' w4 hown hgrow _
        have HB4 : Aside (Below w.heap.size w w4) := below_build BW.out BW.out.size hG _ hgrow (fun j hj => (hS3.lt j hj).1)
        have HS4 : Aside (Strs w4 w.heap.size v' (bs ++ [nm])) := by simpa [Strs, Aside] using hown
        clear hown hgrow
        go_wp2
        go_roundg (n - (k + 1))
        case measure => omega
        case rel => exact ⟨k + 1, bs ++ [nm], by omega, by omega, by go_num, by simp; omega, HS4.out, HB4.out, by
            show _ = _
            rw [names_step HY.out, if_pos (HDN.out.1.symm.trans HDQ.out), ← NM.out, ← HDN.out.2]; simp⟩
      · go_roundg (n - (k + 1))
        case measure => omega
        case rel => exact ⟨k + 1, bs, by omega, by omega, by go_num, by omega, hS3, (BW.out.alloc BW.out.size _).trans (hG.below.mono (by have := BW.out.size; simp; omega)), by
            show _ = _
            rw [names_step HY.out, if_neg (fun h => HDQ.out (HDN.out.1.trans h)), NM.out]; simp⟩
    · have hltz : ¬ (k : Int) < (n : Int) := by omega
      have HE : Aside (namesL t q.data.toList = bs.map (·.data.toList)) := by
        show _ = _
        rw [NM.out, List.take_of_length_le (by have := HN.out; omega)]
      go_wp2
      go_ret
      exact ⟨⟨_, bs, rfl, ST.out, HE.out.symm⟩, BW.out⟩

end Go.Proofs.YtampldoimpfjgaaGreatDoor
namespace Go.Proofs.YtampldoimpfjgaaGreatDoor
open Go.RowKit PM Go.Sort
set_option linter.unusedVariables false

def remUnder (t : List Ent) (q : List UInt8) : List Ent := t.filter fun x => !decide (x.p = q) && !under x.p q
theorem remUnder_step {t : List Ent} {k : Nat} {y : Ent} {q : List UInt8} (hy : t[k]? = some y) : remUnder (t.take (k + 1)) q = remUnder (t.take k) q ++ (if y.p = q then [] else if under y.p q then [] else [y]) := by
  unfold remUnder
  rw [take_step hy, List.filter_append]
  by_cases h1 : y.p = q <;> by_cases h2 : under y.p q = true <;> simp [h1, h2]
set_option maxHeartbeats 4000000 in
set_option maxRecDepth 100000 in
theorem refWithout_wide (t : List Ent) (q : ByteArray) (p : Option Addr) (cap : Nat) (w : World) (hL : Lies w p t) (hF : ∀ e ∈ t, e.path.size ≤ 1048576) (hq : q.size ≤ maxLen) (hn80 : t.length ≤ 10000) :
    Calls Tryz.prog 81 #[.slice p t.length cap, .string q] w (RowsPost (remUnder t q.data.toList) w) := by
  have HF : Aside (∀ e ∈ t, e.path.size ≤ 1048576) := hF
  have HL : Aside (Lies w p t) := hL
  obtain ⟨i0, hi, hz0, hz1, hz2⟩ := info38
  obtain ⟨n, hnl⟩ : ∃ n, n = t.length := ⟨_, rfl⟩
  have HN : Aside (n = t.length) := hnl
  rw [← hnl] at hn80 ⊢
  clear hnl hL hF
  go_enter Tryz.func81, Tryz.ntmps81
  go_wp2
  go_loopg [5, 10] n (fun gg v i wr => ∃ (k : Nat) (l : List Ent), k ≤ n ∧ n - k ≤ gg ∧ i = .int .i64 k ∧ l.length ≤ k ∧ Aside (Rows wr w.heap.size v l) ∧ Aside (Below w.heap.size w wr) ∧ Aside (l = remUnder (t.take k) q.data.toList))
  case atStart => exact ⟨0, [], Nat.zero_le _, by omega, rfl, Nat.le_refl _, Rows.nil _ _, Below.refl _ _, by simp [remUnder, Aside]⟩
  case round =>
    obtain ⟨k, l, hk, hgg, rfl, hbl, ST, BW, NM⟩ := hrel
    by_cases hlt : k < n
    · have hltz : (k : Int) < (n : Int) := by omega
      obtain ⟨y, hy⟩ : ∃ y, t[k]? = some y := ⟨_, List.getElem?_eq_getElem (by have := HN.out; omega)⟩
      have HY : Aside (t[k]? = some y) := hy
      have hyf := HF.out y (List.mem_of_getElem? hy)
      rcases HL.out with h0 | ⟨b, off, rfl, hb, hc⟩
      · rw [h0] at hy; simp at hy
      obtain ⟨c0, c1, c2, c3⟩ := Lies.cells hc hb BW.out hy
      clear hc hy
      have hun := fun W => refUnder_any y.path q W (by unfold maxLen; omega) hq
      by_cases hpq : y.path.data.toList = q.data.toList
      · obtain ⟨he1, he2⟩ := eq_parts hpq
        have HP : Aside (y.p = q.data.toList) := hpq
        clear hpq hun
        go_wp2
        go_roundg (n - (k + 1))
        case measure => omega
        case rel => exact ⟨k + 1, l, by omega, by omega, by go_num, by omega, ST.out.below ((Grown.refl wr).alloc _).below, BW.out.alloc BW.out.size _, by
            show _ = _
            rw [remUnder_step HY.out, if_pos HP.out, List.append_nil, NM.out]⟩
      · obtain ⟨he1, he2⟩ := ne_parts hpq
        have HP : Aside (¬ y.p = q.data.toList) := hpq
        clear hpq
        have HU : Aside (∀ b, under y.path.data.toList q.data.toList = b → under y.p q.data.toList = b) := fun b h => h
        generalize hub : under y.path.data.toList q.data.toList = u at hun
        have HUB : Aside (under y.p q.data.toList = u) := hub
        clear hub HU
        have hS3 : (wr.alloc (.cells #[.string y.path, .int .i64 y.kind, .string y.text, .bool y.opq] 28)).ownsRow w.heap.size 28 4 u5 l.length (l.flatMap encE) := ST.out.below ((Grown.refl wr).alloc _).below
        cases u with
        | true =>
          clear hS3
          go_wp2_with (go_at_call 46; refine (hun _).mono ?_; clear hun; rintro rr w2 ⟨rfl, hw2⟩; subst w2)
          go_roundg (n - (k + 1))
          case measure => omega
          case rel => exact ⟨k + 1, l, by omega, by omega, by go_num, by omega, ST.out.below ((Grown.refl wr).alloc _).below, BW.out.alloc BW.out.size _, by
              show _ = _
              rw [remUnder_step HY.out, if_neg HP.out, if_pos HUB.out, List.append_nil, NM.out]⟩
        | false =>
          go_wp2_with (first
            | (go_at_call 46; refine (hun _).mono ?_; clear hun; rintro rr w2 ⟨rfl, hw2⟩; subst w2)
            | (at_builtin; refine wpList_append_own _ rfl _ _ 23 rfl w.heap.size 28 i0 _ 4 48 Tryz.underlying23 hi hz0 hz1 hz2 rfl (by decide) _ _ _ rfl (hS3.alloc _) ⟨wr.heap.size + 1, 0, none⟩ 1 1 (encE y) rfl rfl ?c1 ?c2 ?c3 ?c4 ?c5 ?_))
          case c1 => exact row_one_new _ _ _ (by simp)
          case c2 => exact fun u hu => flat_one (t := [y]) (by simpa using hu)
          case c3 => unfold maxLen; omega
          case c4 => omega
          case c5 => have := BW.out.size; simp; omega
          · intro v' w4 hown hgrow _
            have HB4 : Aside (Below w.heap.size w w4) := below_build BW.out BW.out.size (Grown.refl _) _ hgrow (fun j hj => (hS3.lt j hj).1)
            have HS4 : Aside (Rows w4 w.heap.size v' (l ++ [y])) := by simpa [Rows, Aside] using hown
            clear hown hgrow
            go_wp2
            go_roundg (n - (k + 1))
            case measure => omega
            case rel => exact ⟨k + 1, l ++ [y], by omega, by omega, by go_num, by simp; omega, HS4.out, HB4.out, by
                show _ = _
                rw [remUnder_step HY.out, if_neg HP.out, if_neg (by rw [HUB.out]; decide), NM.out]⟩
    · have hltz : ¬ (k : Int) < (n : Int) := by omega
      have HE : Aside (remUnder t q.data.toList = l) := by
        show _ = _
        rw [NM.out, List.take_of_length_le (by have := HN.out; omega)]
      go_wp2
      go_ret
      exact ⟨⟨_, rfl, by rw [HE.out]; exact ST.out⟩, BW.out⟩
end Go.Proofs.YtampldoimpfjgaaGreatDoor
namespace Go.Proofs.YtampldoimpfjgaaGreatDoor
open Go.RowKit PM Go.Sort
set_option linter.unusedVariables false
theorem refWithout_any (t : List Ent) (q : ByteArray) (p : Option Addr) (cap : Nat) (w : World) (hL : Lies w p t) (hF : ∀ e ∈ t, e.path.size ≤ 1048576) (hq : q.size ≤ maxLen) (hn80 : t.length ≤ 80) :
    Calls Tryz.prog 81 #[.slice p t.length cap, .string q] w (RowsPost (remUnder t q.data.toList) w) :=
  refWithout_wide t q p cap w hL hF hq (by omega)
def withF (e : Ent) (s : List Ent × Bool) (x : Ent) : List Ent × Bool :=
  if s.2 = false ∧ ¬ cmp x.p e.p < 0 then (s.1 ++ [e] ++ (if x.p = e.p then [] else [x]), true)
  else (s.1 ++ (if x.p = e.p then [] else [x]), s.2)
def withS (t : List Ent) (e : Ent) : List Ent × Bool := t.foldl (withF e) ([], false)
def withL (t : List Ent) (e : Ent) : List Ent := if (withS t e).2 then (withS t e).1 else (withS t e).1 ++ [e]
theorem withS_step {t : List Ent} {k : Nat} {y e : Ent} (hy : t[k]? = some y) : withS (t.take (k + 1)) e = withF e (withS (t.take k) e) y := by
  unfold withS
  rw [take_step hy, List.foldl_append]; rfl

set_option maxHeartbeats 4000000 in
set_option maxRecDepth 100000 in
theorem refWith_wide (t : List Ent) (e : Ent) (p : Option Addr) (cap : Nat) (w : World) (hL : Lies w p t) (hF : ∀ e ∈ t, e.path.size ≤ 1048576) (he : e.path.size ≤ 1048576) (hn80 : t.length ≤ 10000) :
    Calls Tryz.prog 72 #[.slice p t.length cap, .agg #[.string e.path, .int .i64 e.kind, .string e.text, .bool e.opq]] w (RowsPost (withL t e) w) := by
  have HF : Aside (∀ e ∈ t, e.path.size ≤ 1048576) := hF
  have HL : Aside (Lies w p t) := hL
  obtain ⟨i0, hi, hz0, hz1, hz2⟩ := info38
  obtain ⟨n, hnl⟩ : ∃ n, n = t.length := ⟨_, rfl⟩
  have HN : Aside (n = t.length) := hnl
  rw [← hnl] at hn80 ⊢
  clear hnl hL hF
  go_enter Tryz.func72, Tryz.ntmps72
  go_wp2
  go_loopg [5, 6, 11] n (fun gg v d i wr => ∃ (k : Nat) (l : List Ent) (db : Bool), k ≤ n ∧ n - k ≤ gg ∧ i = .int .i64 k ∧ d = .bool db ∧ l.length ≤ 2 * k ∧ Aside (Rows wr (w.heap.size + 1) v l) ∧ Aside (Below (w.heap.size + 1) (w.alloc (.cells #[.string e.path, .int .i64 e.kind, .string e.text, .bool e.opq] 28)) wr) ∧ Aside ((l, db) = withS (t.take k) e))
  case atStart => exact ⟨0, [], false, Nat.zero_le _, by omega, rfl, rfl, Nat.zero_le _, Rows.nil _ _, Below.refl _ _, rfl⟩
  case round =>
    obtain ⟨k, l, db, hk, hgg, rfl, rfl, hbl, ST, BW, NM⟩ := hrel
    by_cases hlt : k < n
    · have hltz : (k : Int) < (n : Int) := by omega
      obtain ⟨y, hy⟩ : ∃ y, t[k]? = some y := ⟨_, List.getElem?_eq_getElem (by have := HN.out; omega)⟩
      have HSTEP : Aside (withS (t.take (k + 1)) e = withF e (l, db) y) := by show _ = _; rw [withS_step hy, NM.out]
      have hyf := HF.out y (List.mem_of_getElem? hy)
      have hBw := base1 BW.out
      rcases HL.out with h0 | ⟨b, off, rfl, hb, hc⟩
      · rw [h0] at hy; simp at hy
      obtain ⟨c0, c1, c2, c3⟩ := Lies.cells hc hb hBw hy
      clear hc hy
      have hws : w.heap.size + 1 ≤ wr.heap.size := by have := BW.out.size; simpa using this
      have HOB : Aside (∀ g, u5.ownBlock = some g → w.heap.size + 1 ≤ g ∧ g < wr.heap.size) := fun g hg => World.ownsRow.lt ST.out g hg
      have hle := fun W => refLess_any y.path e.path W (by omega) (by omega)
      obtain ⟨⟨f0, f1, f2, f3⟩, _⟩ := new4 (Nat.lt_succ_self _) BW.out
      have hne : w.heap.size ≠ wr.heap.size := by omega
      have hwlt : w.heap.size < wr.heap.size := by omega
      have HA : Aside (Below wr.heap.size wr (wr.alloc (.cells #[.string y.path, .int .i64 y.kind, .string y.text, .bool y.opq] 28))) := ((Grown.refl wr).alloc _).below
      have hX : (wr.alloc (.cells #[.string y.path, .int .i64 y.kind, .string y.text, .bool y.opq] 28)).heap.size = wr.heap.size + 1 := by simp
      cases db with
      | true =>
        have HT : Aside (withF e (l, true) y = (l ++ (if y.p = e.p then [] else [y]), true)) := by show _ = _; rw [withF, if_neg (by simp)]
        clear hle
        by_cases hpq : y.path.data.toList = e.path.data.toList
        · obtain ⟨he1, he2⟩ := eq_parts hpq
          have HP : Aside (y.p = e.p) := hpq
          clear hpq
          go_wp2
          go_roundg (n - (k + 1))
          case measure => omega
          case rel => exact ⟨k + 1, l, true, by omega, by omega, by go_num, rfl, by omega, ST.out.below HA.out, up1 BW.out HA.out, by show _ = _; rw [HSTEP.out, HT.out, if_pos HP.out, List.append_nil]⟩
        · obtain ⟨he1, he2⟩ := ne_parts hpq
          have HP : Aside (¬ y.p = e.p) := hpq
          clear hpq
          have hR1 := ST.out.below HA.out
          go_wp2_with (at_builtin; refine append_row (wr.alloc (.cells #[.string y.path, .int .i64 y.kind, .string y.text, .bool y.opq] 28)) y rfl _ _ rfl (w.heap.size + 1) _ l rfl hR1 (by omega) (by omega) _ (by simp) rfl ?_; clear hR1; intro v4 w4 hR4 hB4 hC4 hs4; have HR4 : Aside (Rows w4 (w.heap.size + 1) v4 (l ++ [y])) := hR4; have HB4 : Aside (Below (w.heap.size + 1) (w.alloc (.cells #[.string e.path, .int .i64 e.kind, .string e.text, .bool e.opq] 28)) w4) := (up1 BW.out HA.out).trans hB4; clear hR4 hB4 hC4)
          go_roundg (n - (k + 1))
          case measure => omega
          case rel => exact ⟨k + 1, l ++ [y], true, by omega, by omega, by go_num, rfl, by simp; omega, HR4.out, HB4.out, by show _ = _; rw [HSTEP.out, HT.out, if_neg HP.out]⟩
      | false =>
        by_cases hlz : cmp y.p e.p < 0
        · have hdl : decide (cmp y.path.data.toList e.path.data.toList < 0) = true := decide_eq_true hlz
          rw [hdl] at hle
          have hpq : ¬ y.path.data.toList = e.path.data.toList := fun h => by have h2 : y.p = e.p := h; rw [h2, cmp_self] at hlz; exact absurd hlz (by decide)
          have HT : Aside (withF e (l, false) y = (l ++ [y], false)) := by show _ = _; rw [withF, if_neg (fun h => h.2 hlz), if_neg (show ¬ y.p = e.p from hpq)]
          obtain ⟨he1, he2⟩ := ne_parts hpq
          clear hpq hlz hdl
          go_wp2_with (first
            | (go_at_call 52; refine (hle _).mono ?_; clear hle; rintro rr w2 ⟨rfl, hB2⟩; obtain ⟨⟨d0, d1, d2, d3⟩, _⟩ := new4 (by simp) hB2; have hX2 := base2 hB2; have hR1 := ST.out.below hX2; have hs2 := hX2.size; obtain ⟨⟨e0, _, _, _⟩, _⟩ := new4 (Nat.lt_succ_self _) (up1 BW.out hX2))
            | (at_builtin; refine append_row w2 y rfl _ _ rfl (w.heap.size + 1) _ l rfl hR1 (by omega) (by omega) _ (by simp) rfl ?_; clear hR1; intro v4 w4 hR4 hB4 hC4 hs4; have HR4 : Aside (Rows w4 (w.heap.size + 1) v4 (l ++ [y])) := hR4; have HB4 : Aside (Below (w.heap.size + 1) (w.alloc (.cells #[.string e.path, .int .i64 e.kind, .string e.text, .bool e.opq] 28)) w4) := (up1 BW.out hX2).trans hB4; clear hR4 hB4 hC4))
          go_roundg (n - (k + 1))
          case measure => omega
          case rel => exact ⟨k + 1, l ++ [y], false, by omega, by omega, by go_num, rfl, by simp; omega, HR4.out, HB4.out, by show _ = _; rw [HSTEP.out, HT.out]⟩
        · have hdl : decide (cmp y.path.data.toList e.path.data.toList < 0) = false := decide_eq_false hlz
          rw [hdl] at hle
          have HT : Aside (withF e (l, false) y = (l ++ [e] ++ (if y.p = e.p then [] else [y]), true)) := by show _ = _; rw [withF, if_pos ⟨rfl, hlz⟩]
          clear hlz hdl
          by_cases hpq : y.path.data.toList = e.path.data.toList
          · obtain ⟨he1, he2⟩ := eq_parts hpq
            have HP : Aside (y.p = e.p) := hpq
            clear hpq
            go_wp2_with (first
              | (go_at_call 52; refine (hle _).mono ?_; clear hle; rintro rr w2 ⟨rfl, hB2⟩; obtain ⟨⟨d0, d1, d2, d3⟩, _⟩ := new4 (by simp) hB2; have hX2 := base2 hB2; have hR1 := ST.out.below hX2; have hs2 := hX2.size; have hss2 := hB2.size; obtain ⟨⟨e0, e1, e2, e3⟩, _⟩ := new4 (Nat.lt_succ_self _) (up1 BW.out hX2))
              | (at_builtin; refine append_row w2 e rfl _ _ rfl (w.heap.size + 1) _ l rfl hR1 (by omega) (by omega) _ (by simp) rfl ?_; clear hR1; intro v4 w4 hR4 hB4 hC4 hs4; have HR4 : Aside (Rows w4 (w.heap.size + 1) v4 (l ++ [e])) := hR4; have HB4 : Aside (Below (w.heap.size + 1) (w.alloc (.cells #[.string e.path, .int .i64 e.kind, .string e.text, .bool e.opq] 28)) w4) := (up1 BW.out hX2).trans hB4; have g0 := (hC4 ⟨w.heap.size, 0, none⟩ (by simp only; omega) (fun g hg => by have := HOB.out g hg; simp only; omega)).trans e0; have x0 := (hC4 ⟨wr.heap.size, 0, none⟩ (by simp only; simp at hss2; omega) (fun g hg => by have := HOB.out g hg; simp only; omega)).trans d0; clear hR4 hB4 hC4))
            go_roundg (n - (k + 1))
            case measure => omega
            case rel => exact ⟨k + 1, l ++ [e], true, by omega, by omega, by go_num, rfl, by simp; omega, HR4.out, HB4.out, by show _ = _; rw [HSTEP.out, HT.out, if_pos HP.out, List.append_nil]⟩
          · obtain ⟨he1, he2⟩ := ne_parts hpq
            have HP : Aside (¬ y.p = e.p) := hpq
            clear hpq
            go_wp2_with (first
              | (go_at_call 52; refine (hle _).mono ?_; clear hle; rintro rr w2 ⟨rfl, hB2⟩; obtain ⟨⟨d0, d1, d2, d3⟩, _⟩ := new4 (by simp) hB2; have hX2 := base2 hB2; have hR1 := ST.out.below hX2; have hs2 := hX2.size; have hss2 := hB2.size; obtain ⟨⟨e0, e1, e2, e3⟩, _⟩ := new4 (Nat.lt_succ_self _) (up1 BW.out hX2))
              | (at_builtin; refine append_row w2 e rfl _ _ rfl (w.heap.size + 1) _ l rfl hR1 (by omega) (by omega) _ (by simp) rfl ?_; clear hR1; intro v4 w4 hR4 hB4 hC4 hs4; have HB4 : Aside (Below (w.heap.size + 1) (w.alloc (.cells #[.string e.path, .int .i64 e.kind, .string e.text, .bool e.opq] 28)) w4) := (up1 BW.out hX2).trans hB4; have g0 := (hC4 ⟨w.heap.size, 0, none⟩ (by simp only; omega) (fun g hg => by have := HOB.out g hg; simp only; omega)).trans e0; have hxc := fun i => hC4 ⟨wr.heap.size, i, none⟩ (by simp only; simp at hss2; omega) (fun g hg => by have := HOB.out g hg; simp only; omega); have x0 := (hxc 0).trans d0; have x1 := (hxc 1).trans d1; have x2 := (hxc 2).trans d2; have x3 := (hxc 3).trans d3; clear hB4 hC4 hxc)
              | (at_builtin; refine append_row w4 y rfl _ _ rfl (w.heap.size + 1) _ (l ++ [e]) rfl hR4 (by simp; omega) (by omega) _ (by simp) rfl ?_; clear hR4; intro v6 w6 hR6 hB6 hC6 hs6; have HR6 : Aside (Rows w6 (w.heap.size + 1) v6 (l ++ [e] ++ [y])) := hR6; have HB6 : Aside (Below (w.heap.size + 1) (w.alloc (.cells #[.string e.path, .int .i64 e.kind, .string e.text, .bool e.opq] 28)) w6) := HB4.out.trans hB6; clear hR6 hB6 hC6))
            go_roundg (n - (k + 1))
            case measure => omega
            case rel => exact ⟨k + 1, l ++ [e] ++ [y], true, by omega, by omega, by go_num, rfl, by simp; omega, HR6.out, HB6.out, by show _ = _; rw [HSTEP.out, HT.out, if_neg HP.out]⟩
    · have hltz : ¬ (k : Int) < (n : Int) := by omega
      have HE : Aside (withL t e = if db then l else l ++ [e]) := by
        show _ = _
        have := NM.out
        rw [List.take_of_length_le (by have := HN.out; omega)] at this
        rw [withL, ← this]
      obtain ⟨⟨f0, f1, f2, f3⟩, _⟩ := new4 (Nat.lt_succ_self _) BW.out
      have hws : w.heap.size + 1 ≤ wr.heap.size := by have := BW.out.size; simpa using this
      have ST' := ST.out
      cases db with
      | true =>
        have HE1 : Aside (withL t e = l) := HE.out
        go_wp2
        go_ret
        exact ⟨⟨_, rfl, by rw [HE1.out]; exact ST.out.mono (Nat.le_succ _)⟩, base1 BW.out⟩
      | false =>
        have HE1 : Aside (withL t e = l ++ [e]) := HE.out
        go_wp2_with (at_builtin; refine append_row wr e rfl _ _ rfl (w.heap.size + 1) _ l rfl ST' (by omega) hws _ (by simp) rfl ?_; clear ST'; intro v4 w4 hR4 hB4 hC4 hs4; have HR4 : Aside (Rows w4 (w.heap.size + 1) v4 (l ++ [e])) := hR4; have HB4 : Aside (Below w.heap.size w w4) := base1 (BW.out.trans hB4); clear hR4 hB4 hC4)
        go_ret
        exact ⟨⟨_, rfl, by rw [HE1.out]; exact HR4.out.mono (Nat.le_succ _)⟩, HB4.out⟩
theorem refWith_any (t : List Ent) (e : Ent) (p : Option Addr) (cap : Nat) (w : World) (hL : Lies w p t) (hF : ∀ e ∈ t, e.path.size ≤ 1048576) (he : e.path.size ≤ 1048576) (hn80 : t.length ≤ 80) :
    Calls Tryz.prog 72 #[.slice p t.length cap, .agg #[.string e.path, .int .i64 e.kind, .string e.text, .bool e.opq]] w (RowsPost (withL t e) w) :=
  refWith_wide t e p cap w hL hF he (by omega)
end Go.Proofs.YtampldoimpfjgaaGreatDoor
namespace Go.Proofs.YtampldoimpfjgaaGreatDoor
open Go.RowKit PM Go.Sort
set_option linter.unusedVariables false

theorem with_done {e : Ent} : ∀ (t o : List Ent), (∀ x ∈ t, 0 < cmp x.p e.p) → t.foldl (withF e) (o, true) = (o ++ t, true)
  | [], o, _ => by simp
  | x :: r, o, h => by
    have hx := h x (by simp)
    have hne : ¬ x.p = e.p := fun he => by rw [he, cmp_self] at hx; exact absurd hx (by decide)
    rw [List.foldl_cons, show withF e (o, true) x = (o ++ [x], true) by rw [withF, if_neg (by simp), if_neg hne], with_done r _ fun y hy => h y (by simp [hy])]
    simp
theorem above_all {e x : Ent} {r : List Ent} (hs : Sorted (x :: r)) (h : ¬ cmp x.p e.p < 0) : ∀ y ∈ r, 0 < cmp y.p e.p := by
  intro y hy
  have h1 : cmp x.p y.p < 0 := (List.pairwise_cons.1 hs).1 y hy
  rw [cmp_flip]
  by_cases hxe : x.p = e.p
  · rw [← hxe]; exact h1
  · exact cmp_trans _ _ _ (cmp_ge h hxe) h1
theorem with_going {e : Ent} : ∀ (t o : List Ent), Sorted t → (if (t.foldl (withF e) (o, false)).2 = true then (t.foldl (withF e) (o, false)).1 else (t.foldl (withF e) (o, false)).1 ++ [e]) = o ++ putL t e
  | [], o, _ => by simp [putL]
  | x :: r, o, hs => by
    have hr : Sorted r := (List.pairwise_cons.1 hs).2
    by_cases h : cmp x.p e.p < 0
    · have hne : ¬ x.p = e.p := fun he => by rw [he, cmp_self] at h; exact absurd h (by decide)
      rw [List.foldl_cons, show withF e (o, false) x = (o ++ [x], false) by rw [withF, if_neg (fun c => c.2 h), if_neg hne], with_going r _ hr]
      have h2 : ¬ 0 < cmp x.p e.p := by omega
      simp [putL, h, h2]
    · have hab := above_all hs h
      have hf1 : r.filter (fun x => decide (cmp x.p e.p < 0)) = [] := by
        rw [List.filter_eq_nil_iff]; intro y hy; have := hab y hy; simp; omega
      have hf2 : r.filter (fun x => decide (0 < cmp x.p e.p)) = r := by
        rw [List.filter_eq_self]; intro y hy; simpa using hab y hy
      rw [List.foldl_cons, show withF e (o, false) x = (o ++ [e] ++ (if x.p = e.p then [] else [x]), true) by rw [withF, if_pos ⟨rfl, h⟩], with_done r _ hab]
      have hn : decide (cmp x.p e.p < 0) = false := decide_eq_false h
      have hp : putL (x :: r) e = e :: ((if x.p = e.p then [] else [x]) ++ r) := by
        rw [putL, List.filter_cons_of_neg (by rw [hn]; decide), hf1]
        by_cases he : x.p = e.p
        · rw [List.filter_cons_of_neg (by rw [he, cmp_self]; decide), hf2, if_pos he]; rfl
        · rw [List.filter_cons_of_pos (by simpa using cmp_flip.2 (cmp_ge h he)), hf2, if_neg he]; rfl
      rw [hp]; simp
theorem withL_put {t : List Ent} (hs : Sorted t) (e : Ent) : withL t e = putL t e := by
  have := with_going (e := e) t [] hs
  rw [List.nil_append] at this
  exact this
theorem remUnder_rem {t : List Ent} {q : List UInt8} (h : ∀ x ∈ t, under x.p q = false) : remUnder t q = remL t q := by
  unfold remUnder remL
  apply List.filter_congr
  intro x hx
  simp [h x hx]
theorem names_none {t : List Ent} {q : List UInt8} (hr : Right false t) (hq : q ≠ []) : (namesL t q).length = 0 ↔ ∀ x ∈ t, under x.p q = false := by
  unfold namesL
  rw [List.length_map, List.length_eq_zero_iff, List.filter_eq_nil_iff]
  constructor
  · intro h x hx
    have key : ∀ (n : Nat) {e : Ent}, e.p.length ≤ n → e ∈ t → under e.p q = true → False := by
      intro n
      induction n with
      | zero => intro e hl he hu; exact hr.ne he (List.eq_nil_of_length_eq_zero (by omega))
      | succ n ih =>
        intro e hl he hu
        rcases under_dir hq hu with h1 | h1
        · exact h e he (by simp [h1])
        · rcases hr.dir e he with hd | ⟨d, hdt, hdp, _⟩
          · obtain ⟨r, e'⟩ := (under_iff _ _ hq).1 h1
            rw [hd] at e'; simp at e'
          · have hsh := dirOf_short (hr.ne he)
            exact ih (e := d) (by rw [hdp]; omega) hdt (by rw [hdp]; exact h1)
    cases hc : under x.p q with
    | false => rfl
    | true => exact (key _ (Nat.le_refl _) hx hc).elim
  · intro h x hx
    simp
    intro he
    have := dir_under (hr.ne hx) (by rw [he]; exact hq)
    rw [he] at this
    rw [h x hx] at this
    cases this
end Go.Proofs.YtampldoimpfjgaaGreatDoor
