/-
  What the document's own answer traceref1.Wrong answers: what tree.Wrong does.
-/
import Derived.Test.YtampldoimpfjgaaDoorRTWalks2
namespace Go.Proofs.YtampldoimpfjgaaDoor
open Go.RowKit PM Go.Sort
set_option linter.unusedVariables false

theorem placeL_ahead {t : List Ent} {k : Nat} {y z : Ent} (hk : 0 < k) (hz : t[k - 1]? = some z) : notAhead (t.take k) y.p = decide (0 ≤ cmp z.p y.p) := by
  obtain ⟨k, rfl⟩ : ∃ j, k = j + 1 := ⟨k - 1, by omega⟩
  rw [Nat.add_sub_cancel] at hz
  unfold notAhead
  rw [take_step hz]
  simp
theorem placeL_first {y : Ent} : notAhead [] y.p = false := rfl
theorem faultE_of {layer : Bool} {a : List Ent} {y : Ent} {r1 : Int} (h1 : wrongE y layer = r1) : faultE layer a y = if r1 = 0 then placeL a y.p else r1 := by subst h1; rfl

theorem refCut_grown (s : ByteArray) (w : World) (hs : s.size < 4611686018427387904) : Calls Tryd.prog 21 #[.string s] w fun e w' => (∃ d n : ByteArray, e = .returned (.tuple #[.string d, .string n]) ∧ d.data.toList = (cutL s.data.toList).1 ∧ n.data.toList = (cutL s.data.toList).2) ∧ Grown w w' :=
  (refCut_any s w hs).mono fun e w' ⟨h, n, hw⟩ => ⟨h, by rw [hw]; exact (Grown.refl w).drewN n⟩
set_option maxHeartbeats 8000000 in
set_option maxRecDepth 100000 in
theorem refWrong_any (t : List Ent) (layer : Bool) (p : Option Addr) (cap : Nat) (w : World) (hL : Lies w p t) (hF : ∀ e ∈ t, e.path.size ≤ 1048576 ∧ e.text.size ≤ 1048576) (hn : t.length < 4611686018427387904) (hcap : t.length ≤ cap) :
    Calls Tryd.prog 30 #[.slice p t.length cap, .bool layer] w fun r w' => r = .returned (.agg #[.int .i64 (faultL layer t).1, .int .i64 ((faultL layer t).2 : Nat)]) ∧ Below w.heap.size w w' := by
  have HF : Aside (∀ e ∈ t, e.path.size ≤ 1048576 ∧ e.text.size ≤ 1048576) := hF
  have HL : Aside (Lies w p t) := hL
  clear hF hL
  obtain ⟨n, hnl⟩ : ∃ n, n = t.length := ⟨_, rfl⟩
  have HN : Aside (n = t.length) := hnl
  rw [← hnl] at hn hcap ⊢
  by_cases h80 : 80 < n
  · have g : (80 : Int) < (n : Int) := by omega
    have HR : Aside (faultL layer t = (5, 0)) := by show _ = _; rw [faultL, if_pos (by omega)]
    clear hnl
    go_enter Tryd.func30, Tryd.ntmps30
    go_wp2
    refine bodyPost_ret (v := .agg #[.int .i64 5, .int .i64 0]) (by simp [results, Tryd.results30, go_sem]) rfl ?_
    exact ⟨by rw [HR.out]; rfl, (Below.refl _ _).alloc (Nat.le_refl _) _⟩
  · have g : ¬ (80 : Int) < (n : Int) := by omega
    have HR : Aside (faultL layer t = faultFrom layer [] t) := by show _ = _; rw [faultL, if_neg (by omega)]
    clear hnl
    go_enter Tryd.func30, Tryd.ntmps30
    go_wp2
    go_loopg [18] n (fun gg s18 wr => ∃ k : Nat, k ≤ n ∧ n - k ≤ gg ∧ s18 = .int .i64 k ∧ Aside (Below (w.heap.size + 1) (w.alloc (.cells #[.int .i64 0, .int .i64 0] 40)) wr) ∧ Aside (faultFrom layer (t.take k) (t.drop k) = faultL layer t))
    case atStart => exact ⟨0, Nat.zero_le _, by omega, rfl, Below.refl _ _, HR.out.symm⟩
    case round =>
      obtain ⟨k, hk, hg, rfl, BW, HE⟩ := hrel
      by_cases hlt : k < n
      · have hltz : (k : Int) < (n : Int) := by omega
        obtain ⟨y, hy⟩ : ∃ y, t[k]? = some y := ⟨_, List.getElem?_eq_getElem (by have := HN.out; omega)⟩
        have HY : Aside (t[k]? = some y) := hy
        have hf := HF.out y (List.mem_of_getElem? hy)
        have hBw := base1 BW.out
        rcases HL.out with h0 | ⟨b, off, rfl, hb, hc⟩
        · rw [h0] at hy; simp at hy
        obtain ⟨c0, c1, c2, c3⟩ := Lies.cells hc hb hBw hy
        have HC : Aside (∀ j e, t[j]? = some e → ∀ i v, (encE e)[i]? = some v → w.cell? ⟨b, off + j * 4 + i, none⟩ = some v) := hc
        have hb' : b < wr.heap.size := Nat.lt_of_lt_of_le hb hBw.size
        have hne : b ≠ wr.heap.size := by omega
        clear hc hy
        have hwe := fun W => refWrongEntry_any y layer W (by omega) (by unfold maxLen; omega)
        have HFE : Aside (faultE layer (t.take k) y = if wrongE y layer = 0 then placeL (t.take k) y.p else wrongE y layer) := rfl
        have HSTEP : Aside (faultFrom layer (t.take k) (t.drop k) = if faultE layer (t.take k) y = 0 then faultFrom layer (t.take (k + 1)) (t.drop (k + 1)) else (faultE layer (t.take k) y, k)) := faultFrom_step HY.out
        generalize wrongE y layer = r1 at hwe HFE
        by_cases hr1 : r1 = 0
        · have HFE' : Aside (faultE layer (t.take k) y = placeL (t.take k) y.p) := by show _ = _; rw [HFE.out, if_pos hr1]
          subst hr1
          have hcu := fun W => refCut_grown y.path W (by omega)
          obtain ⟨⟨xp, xk, xt, xo⟩, hxx⟩ : ∃ x, (getL (t.take k) (dirOf y.p)).getD zeroE = x := ⟨_, rfl⟩
          obtain ⟨bb, hbb⟩ : ∃ bb, (getL (t.take k) (dirOf y.p)).isSome = bb := ⟨_, rfl⟩
          have hge : ∀ W (d : ByteArray), d.data.toList = (cutL y.path.data.toList).1 → Below w.heap.size w W → Calls Tryd.prog 32 #[.slice (some ⟨b, off, none⟩) k cap, .string d] W fun r w' => r = .returned (.tuple #[.agg #[.string xp, .int .i64 xk, .string xt, .bool xo], .bool bb]) ∧ Below W.heap.size W w' := fun W d hd hB => by
            have hd' : d.data.toList = dirOf y.p := hd
            have h := refGet_any (t.take k) d (some ⟨b, off, none⟩) cap W (Lies.take (Lies.kept (Or.inr ⟨b, off, rfl, hb, HC.out⟩) hB) k) (by rw [List.length_take]; have := HN.out; omega) ⟨xp, xk, xt, xo⟩ bb (by rw [hd']; exact hxx) (by rw [hd']; exact hbb)
            rw [List.length_take, Nat.min_eq_left (by have := HN.out; omega)] at h
            exact h
          have HND : (noDirL (t.take k) (dirOf y.p) = 0 ∧ bb = true ∧ xk = 2) ∨ (noDirL (t.take k) (dirOf y.p) ≠ 0 ∧ (bb = false ∨ (bb = true ∧ ¬ xk = 2))) := by
            unfold noDirL
            cases hgg : getL (t.take k) (dirOf y.p) with
            | none => rw [hgg] at hbb; exact .inr ⟨by decide, .inl hbb.symm⟩
            | some z =>
              rw [hgg] at hbb hxx
              obtain rfl : z = ⟨xp, xk, xt, xo⟩ := hxx
              by_cases hk2 : xk = 2
              · exact .inl ⟨by simp [hk2], hbb.symm, hk2⟩
              · exact .inr ⟨by simp [hk2], .inr ⟨hbb.symm, hk2⟩⟩
          clear hxx hbb
          have hkc : k ≤ cap := by omega
          have hkc' : (k : Int) ≤ (cap : Int) := by omega
          by_cases hk0 : k = 0
          · have HPL : Aside (notAhead (t.take k) y.p = false) := by show _ = _; rw [hk0]; rfl
            have HZERO : Aside (noDirL (t.take k) (dirOf y.p) = 0 → faultE layer (t.take k) y = 0) := fun h => by rw [HFE'.out, placeL, HPL.out, h]; rfl
            have HTEN : Aside (noDirL (t.take k) (dirOf y.p) ≠ 0 → faultE layer (t.take k) y = 10) := fun h => by rw [HFE'.out, placeL, HPL.out]; simp [h]
            subst hk0
            simp only [Nat.zero_mul, Nat.add_zero] at c0 c1 c2 c3
            go_wp2_with (go_at_call 57; refine (hwe _).mono ?_; clear hwe; rintro rr w1 ⟨rfl, hB1⟩; obtain ⟨⟨d0, d1, d2, d3⟩, _⟩ := new4 (by simp) hB1; have hX := base2 hB1)
            go_quiet (fail)
            replace hX := below_drewN hX nq
            rcases HND with ⟨HP0, rfl, hkk⟩ | ⟨HP10, hway⟩
            · subst hkk
              go_wp2_with (first
                | (go_at_call 21; refine (hcu _).mono ?_; clear hcu; rintro rr w3 ⟨⟨d, nm, rfl, hd, hnm⟩, hG3⟩; clear hnm; replace hX := Below.onto hX hG3.below; clear hG3)
                | (go_at_call 32; refine (hge _ d hd (Below.onto hBw hX)).mono ?_; clear hge; rintro rr w4 ⟨rfl, hN⟩; replace hX := Below.onto hX hN; clear hN; replace hX := hX.alloc hX.size (.cells #[.string xp, .int .i64 2, .string xt, .bool xo] 38); have HO : Aside (Below (w.heap.size + 1) (w.alloc (.cells #[.int .i64 0, .int .i64 0] 40)) _) := up1 BW.out hX; obtain ⟨⟨r0, r1⟩, ⟨f0, f1⟩⟩ := new2 (Nat.lt_succ_self _) HO.out))
              go_roundg (n - (0 + 1))
              case measure => omega
              case rel => exact ⟨0 + 1, by omega, by omega, by go_num, HO.out, by have := HE.out; rw [HSTEP.out, if_pos (HZERO.out HP0)] at this; exact this⟩
            · rcases hway with rfl | ⟨rfl, hkk⟩
              · go_wp2_with (first
                  | (go_at_call 21; refine (hcu _).mono ?_; clear hcu; rintro rr w3 ⟨⟨d, nm, rfl, hd, hnm⟩, hG3⟩; clear hnm; replace hX := Below.onto hX hG3.below; clear hG3)
                  | (go_at_call 32; refine (hge _ d hd (Below.onto hBw hX)).mono ?_; clear hge; rintro rr w4 ⟨rfl, hN⟩; replace hX := Below.onto hX hN; clear hN; replace hX := hX.alloc hX.size (.cells #[.string xp, .int .i64 xk, .string xt, .bool xo] 38); have HO : Aside (Below (w.heap.size + 1) (w.alloc (.cells #[.int .i64 0, .int .i64 0] 40)) _) := up1 BW.out hX; obtain ⟨⟨r0, r1⟩, ⟨f0, f1⟩⟩ := new2 (Nat.lt_succ_self _) HO.out))
                refine bodyPost_ret (v := .agg #[.int .i64 10, .int .i64 ((0 : Nat) : Int)]) (by simp [results, Tryd.results30, go_sem, r0, r1]) rfl ?_
                exact ⟨by rw [← HE.out, HSTEP.out, if_neg (by rw [HTEN.out HP10]; decide), HTEN.out HP10], own_store2 HO.out _ _⟩
              · go_wp2_with (first
                  | (go_at_call 21; refine (hcu _).mono ?_; clear hcu; rintro rr w3 ⟨⟨d, nm, rfl, hd, hnm⟩, hG3⟩; clear hnm; replace hX := Below.onto hX hG3.below; clear hG3)
                  | (go_at_call 32; refine (hge _ d hd (Below.onto hBw hX)).mono ?_; clear hge; rintro rr w4 ⟨rfl, hN⟩; replace hX := Below.onto hX hN; clear hN; replace hX := hX.alloc hX.size (.cells #[.string xp, .int .i64 xk, .string xt, .bool xo] 38); have HO : Aside (Below (w.heap.size + 1) (w.alloc (.cells #[.int .i64 0, .int .i64 0] 40)) _) := up1 BW.out hX; obtain ⟨⟨r0, r1⟩, ⟨f0, f1⟩⟩ := new2 (Nat.lt_succ_self _) HO.out))
                refine bodyPost_ret (v := .agg #[.int .i64 10, .int .i64 ((0 : Nat) : Int)]) (by simp [results, Tryd.results30, go_sem, r0, r1]) rfl ?_
                exact ⟨by rw [← HE.out, HSTEP.out, if_neg (by rw [HTEN.out HP10]; decide), HTEN.out HP10], own_store2 HO.out _ _⟩
          · obtain ⟨j, hjk⟩ : ∃ j, k = j + 1 := ⟨k - 1, by omega⟩
            have HJ : Aside (k = j + 1) := hjk
            have hk1 : (0 : Int) < (k : Int) := by omega
            have hk1n : 0 < k := by omega
            have hk1d : decide (0 < k) = true := decide_eq_true hk1n
            have hk1e : decide ((0 : Int) < (k : Int)) = true := decide_eq_true hk1
            obtain ⟨z, hz⟩ : ∃ z, t[j]? = some z := ⟨_, List.getElem?_eq_getElem (by have := HN.out; omega)⟩
            have hfz := HF.out z (List.mem_of_getElem? hz)
            obtain ⟨z0, _, _, _⟩ := Lies.cells HC.out hb hBw hz
            have HPL : Aside (notAhead (t.take k) y.p = decide (0 ≤ cmp z.p y.p)) := placeL_ahead (by omega) (by rw [hjk, Nat.add_sub_cancel]; exact hz)
            have hle := fun W => refLess_any z.path y.path W (by omega) (by omega)
            have hzb := block_lt_of_cell z0
            have hidx : ((k : Int) - 1) = j := by omega
            have hj0 : (0 : Int) ≤ (j : Int) := by omega
            have hjn : (j : Int) < (n : Int) := by omega
            have hjn0 : j < n := by omega
            have hwj : IntKind.i64.wrap (j : Int) = (j : Int) := by rw [IntKind.wrap_i64]; omega
            have hkn1 : (k : Int) - 1 < (n : Int) := by omega
            have hkp1 : (0 : Int) ≤ (k : Int) - 1 := by omega
            have hktn : ((k : Int) - 1).toNat = j := by omega
            have hkm : k - 1 = j := by omega
            have hwrap : IntKind.i64.wrap ((k : Int) - 1) = (j : Int) := by rw [IntKind.wrap_i64]; omega
            clear hz hjk hk0
            by_cases hlz : cmp z.p y.p < 0
            · have hdl : decide (cmp z.path.data.toList y.path.data.toList < 0) = true := decide_eq_true hlz
              rw [hdl] at hle
              have HPF : Aside (notAhead (t.take k) y.p = false) := by show _ = _; rw [HPL.out]; simpa using hlz
              have HZERO : Aside (noDirL (t.take k) (dirOf y.p) = 0 → faultE layer (t.take k) y = 0) := fun h => by rw [HFE'.out, placeL, HPF.out, h]; rfl
              have HTEN : Aside (noDirL (t.take k) (dirOf y.p) ≠ 0 → faultE layer (t.take k) y = 10) := fun h => by rw [HFE'.out, placeL, HPF.out]; simp [h]
              clear hlz hdl
              go_wp2_with (go_at_call 57; refine (hwe _).mono ?_; clear hwe; rintro rr w1 ⟨rfl, hB1⟩; obtain ⟨⟨d0, d1, d2, d3⟩, _⟩ := new4 (by simp) hB1; have hX := base2 hB1; have y0 := (hX.cell (p := ⟨b, off + j * 4, none⟩) hzb).trans z0)
              go_region_held3 (fun w' => w'.cell? ⟨wr.heap.size, 0, none⟩ = some (.string y.path) ∧ w'.cell? ⟨b, off + j * 4, none⟩ = some (.string z.path)) (go_keep) (first | (go_at_call 24; refine (hle _).mono ?_; rintro rr w2 ⟨rfl, hB2⟩; have e0 := kept_cell hB1 hB2; have e1 := (hB2.cell (p := ⟨b, off + j * 4, none⟩) (Nat.lt_of_lt_of_le hzb hX.size)).trans y0; replace hX := Below.onto hX.drew hB2))
              rcases HND with ⟨HP0, rfl, hkk⟩ | ⟨HP10, hway⟩
              · subst hkk
                go_wp2_with (first
                  | (go_at_call 21; refine (hcu _).mono ?_; clear hcu; rintro rr w3 ⟨⟨d, nm, rfl, hd, hnm⟩, hG3⟩; clear hnm; replace hX := Below.onto hX hG3.below; clear hG3)
                  | (go_at_call 32; refine (hge _ d hd (Below.onto hBw hX)).mono ?_; clear hge; rintro rr w4 ⟨rfl, hN⟩; replace hX := Below.onto hX hN; clear hN; replace hX := hX.alloc hX.size (.cells #[.string xp, .int .i64 2, .string xt, .bool xo] 38); have HO : Aside (Below (w.heap.size + 1) (w.alloc (.cells #[.int .i64 0, .int .i64 0] 40)) _) := up1 BW.out hX; obtain ⟨⟨r0, r1⟩, ⟨f0, f1⟩⟩ := new2 (Nat.lt_succ_self _) HO.out))
                go_roundg (n - (k + 1))
                case measure => omega
                case rel => exact ⟨k + 1, by omega, by omega, by go_num, HO.out, by have := HE.out; rw [HSTEP.out, if_pos (HZERO.out HP0)] at this; exact this⟩
              · rcases hway with rfl | ⟨rfl, hkk⟩
                · go_wp2_with (first
                    | (go_at_call 21; refine (hcu _).mono ?_; clear hcu; rintro rr w3 ⟨⟨d, nm, rfl, hd, hnm⟩, hG3⟩; clear hnm; replace hX := Below.onto hX hG3.below; clear hG3)
                    | (go_at_call 32; refine (hge _ d hd (Below.onto hBw hX)).mono ?_; clear hge; rintro rr w4 ⟨rfl, hN⟩; replace hX := Below.onto hX hN; clear hN; replace hX := hX.alloc hX.size (.cells #[.string xp, .int .i64 xk, .string xt, .bool xo] 38); have HO : Aside (Below (w.heap.size + 1) (w.alloc (.cells #[.int .i64 0, .int .i64 0] 40)) _) := up1 BW.out hX; obtain ⟨⟨r0, r1⟩, ⟨f0, f1⟩⟩ := new2 (Nat.lt_succ_self _) HO.out))
                  refine bodyPost_ret (v := .agg #[.int .i64 10, .int .i64 (k : Int)]) (by simp [results, Tryd.results30, go_sem, r0, r1]) rfl ?_
                  exact ⟨by rw [← HE.out, HSTEP.out, if_neg (by rw [HTEN.out HP10]; decide), HTEN.out HP10], own_store2 HO.out _ _⟩
                · go_wp2_with (first
                    | (go_at_call 21; refine (hcu _).mono ?_; clear hcu; rintro rr w3 ⟨⟨d, nm, rfl, hd, hnm⟩, hG3⟩; clear hnm; replace hX := Below.onto hX hG3.below; clear hG3)
                    | (go_at_call 32; refine (hge _ d hd (Below.onto hBw hX)).mono ?_; clear hge; rintro rr w4 ⟨rfl, hN⟩; replace hX := Below.onto hX hN; clear hN; replace hX := hX.alloc hX.size (.cells #[.string xp, .int .i64 xk, .string xt, .bool xo] 38); have HO : Aside (Below (w.heap.size + 1) (w.alloc (.cells #[.int .i64 0, .int .i64 0] 40)) _) := up1 BW.out hX; obtain ⟨⟨r0, r1⟩, ⟨f0, f1⟩⟩ := new2 (Nat.lt_succ_self _) HO.out))
                  refine bodyPost_ret (v := .agg #[.int .i64 10, .int .i64 (k : Int)]) (by simp [results, Tryd.results30, go_sem, r0, r1]) rfl ?_
                  exact ⟨by rw [← HE.out, HSTEP.out, if_neg (by rw [HTEN.out HP10]; decide), HTEN.out HP10], own_store2 HO.out _ _⟩
            · have hdl : decide (cmp z.path.data.toList y.path.data.toList < 0) = false := decide_eq_false hlz
              rw [hdl] at hle
              have HTWO : Aside (faultE layer (t.take k) y = 2) := by show _ = _; rw [HFE'.out, placeL, HPL.out, if_pos (by simpa using hlz)]
              clear hlz hdl HND hge hcu
              go_wp2_with (go_at_call 57; refine (hwe _).mono ?_; clear hwe; rintro rr w1 ⟨rfl, hB1⟩; obtain ⟨⟨d0, d1, d2, d3⟩, _⟩ := new4 (by simp) hB1; have hX := base2 hB1; have y0 := (hX.cell (p := ⟨b, off + j * 4, none⟩) hzb).trans z0)
              go_region_held3 (fun w' => w'.cell? ⟨wr.heap.size, 0, none⟩ = some (.string y.path) ∧ w'.cell? ⟨b, off + j * 4, none⟩ = some (.string z.path)) (go_keep) (first | (go_at_call 24; refine (hle _).mono ?_; rintro rr w2 ⟨rfl, hB2⟩; have e0 := kept_cell hB1 hB2; have e1 := (hB2.cell (p := ⟨b, off + j * 4, none⟩) (Nat.lt_of_lt_of_le hzb hX.size)).trans y0; replace hX := Below.onto hX.drew hB2))
              have HO : Aside (Below (w.heap.size + 1) (w.alloc (.cells #[.int .i64 0, .int .i64 0] 40)) w2) := up1 BW.out hX
              obtain ⟨⟨r0, r1⟩, ⟨f0, f1⟩⟩ := new2 (Nat.lt_succ_self _) HO.out
              go_wp2
              refine bodyPost_ret (v := .agg #[.int .i64 2, .int .i64 (k : Int)]) (by simp [results, Tryd.results30, go_sem, r0, r1]) rfl ?_
              exact ⟨by rw [← HE.out, HSTEP.out, if_neg (by rw [HTWO.out]; decide), HTWO.out], own_store2 HO.out _ _⟩
        · have HFE' : Aside (faultE layer (t.take k) y = r1) := by show _ = _; rw [HFE.out, if_neg hr1]
          clear HFE
          go_wp2_with (go_at_call 57; refine (hwe _).mono ?_; clear hwe; rintro rr w1 ⟨rfl, hB1⟩; obtain ⟨⟨r0, r1'⟩, ⟨f0, f1⟩⟩ := new2 (Nat.lt_succ_self _) (up1 BW.out (base2 hB1)); have HO : Aside (Below (w.heap.size + 1) (w.alloc (.cells #[.int .i64 0, .int .i64 0] 40)) w1) := up1 BW.out (base2 hB1))
          refine bodyPost_ret (v := .agg #[.int .i64 r1, .int .i64 k]) (by simp [results, Tryd.results30, go_sem, r0, r1']) rfl ?_
          exact ⟨by rw [← HE.out, HSTEP.out, if_neg (by rw [HFE'.out]; exact hr1), HFE'.out], own_store2 HO.out _ _⟩
      · have hltz : ¬ (k : Int) < (n : Int) := by omega
        have HZ : Aside (faultL layer t = (0, 0)) := by
          have := HE.out
          rw [List.drop_of_length_le (by have := HN.out; omega), faultFrom] at this; exact this.symm
        obtain ⟨⟨r0, r1⟩, ⟨f0, f1⟩⟩ := new2 (Nat.lt_succ_self _) BW.out
        go_wp2
        refine bodyPost_ret (v := .agg #[.int .i64 0, .int .i64 0]) (by simp [results, Tryd.results30, go_sem, r0, r1]) rfl ?_
        exact ⟨by rw [HZ.out]; rfl, own_store2 BW.out _ _⟩
end Go.Proofs.YtampldoimpfjgaaDoor
