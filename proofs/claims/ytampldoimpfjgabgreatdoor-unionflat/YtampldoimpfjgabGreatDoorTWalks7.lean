/-
  What tree.firstFault and tree.Wrong answer.
-/
import Derived.Test.YtampldoimpfjgabGreatDoorTWalks6
namespace Go.Proofs.YtampldoimpfjgabGreatDoor
open Go.RowKit PM Go.Sort
set_option linter.unusedVariables false

theorem own_store2 {w W : World} {o : Obj} (hB : Below (w.heap.size + 1) (w.alloc o) W) (a b : Value) : Below w.heap.size w ((W.setCell ⟨w.heap.size, 0, none⟩ a).setCell ⟨w.heap.size, 1, none⟩ b) :=
  ((base1 hB).setCell (Nat.le_refl _) _).setCell (Nat.le_refl _) _
theorem base2 {w W : World} {o : Obj} (h : Below (w.alloc o).heap.size (w.alloc o) W) : Below w.heap.size w W := base1 (h.mono (by simp))
theorem kept_cell {w W W2 : World} {a b c d : Value} {t : TypeId} (h : Below (w.alloc (.cells #[a, b, c, d] t)).heap.size (w.alloc (.cells #[a, b, c, d] t)) W) (g : Below W.drew.heap.size W.drew W2) : W2.cell? ⟨w.heap.size, 0, none⟩ = some a :=
  (new4 (Nat.lt_succ_self _) (up1 (h.drew.mono (by simp)) g)).1.1
theorem faultFrom_step {layer : Bool} {t : List Ent} {k : Nat} {y : Ent} (hy : t[k]? = some y) : faultFrom layer (t.take k) (t.drop k) = if faultE layer (t.take k) y = 0 then faultFrom layer (t.take (k + 1)) (t.drop (k + 1)) else (faultE layer (t.take k) y, k) := by
  obtain ⟨h1, h2⟩ := List.getElem?_eq_some_iff.1 hy
  rw [List.drop_eq_getElem_cons h1, faultFrom, h2, List.take_succ_eq_append_getElem h1, h2, List.length_take, Nat.min_eq_left (by omega)]
theorem good_step {layer : Bool} {t : List Ent} {k : Nat} {y : Ent} (hy : t[k]? = some y) (hg : PM.Good layer (t.take k)) (h : faultE layer (t.take k) y = 0) : PM.Good layer (t.take (k + 1)) := by
  obtain ⟨h1, h2⟩ := List.getElem?_eq_some_iff.1 hy
  rw [List.take_succ_eq_append_getElem h1, h2]; exact hg.snoc h
theorem clean_size {p : ByteArray} (h : clean p.data.toList = true) : p.size ≤ 80 := by
  have := ((clean_iff _).1 h).1; rwa [szl] at this

set_option maxHeartbeats 4000000 in
theorem firstFault_any (t : List Ent) (layer : Bool) (m : Int) (p : Option Addr) (cap : Nat) (w : World) (hL : Lies w p t) (hF : Fits t) (hn : t.length < 4611686018427387904) (hcap : t.length ≤ cap) (hm : w.cell? ⟨0, 0, none⟩ = some (.int .i64 m)) :
    Calls Tryz.prog 67 #[.slice p t.length cap, .bool layer] w fun r w' => r = .returned (.agg #[.int .i64 (faultL layer t).1, .int .i64 ((faultL layer t).2 : Nat)]) ∧ Below w.heap.size w w' := by
  have HF : Aside (Fits t) := hF
  have HL : Aside (Lies w p t) := hL
  clear hF hL
  obtain ⟨n, hnl⟩ : ∃ n, n = t.length := ⟨_, rfl⟩
  have HN : Aside (n = t.length) := hnl
  rw [← hnl] at hn hcap ⊢
  by_cases h80 : 80 < n
  · have g : (80 : Int) < (n : Int) := by omega
    have HR : Aside (faultL layer t = (5, 0)) := by show _ = _; rw [faultL, if_pos (by omega)]
    clear hnl
    go_enter Tryz.func67, Tryz.ntmps67
    go_wp2
    refine bodyPost_ret (v := .agg #[.int .i64 5, .int .i64 0]) (by simp [results, Tryz.results67, go_sem]) rfl ?_
    exact ⟨by rw [HR.out]; rfl, (Below.refl _ _).alloc (Nat.le_refl _) _⟩
  · have g : ¬ (80 : Int) < (n : Int) := by omega
    have HR : Aside (faultL layer t = faultFrom layer [] t) := by show _ = _; rw [faultL, if_neg (by omega)]
    clear hnl
    go_enter Tryz.func67, Tryz.ntmps67
    go_wp2
    go_loopg [14] n (fun gg s14 wr => ∃ k : Nat, k ≤ n ∧ n - k ≤ gg ∧ s14 = .int .i64 k ∧ Aside (Below (w.heap.size + 1) (w.alloc (.cells #[.int .i64 0, .int .i64 0] 44)) wr) ∧ Aside (PM.Good layer (t.take k)) ∧ Aside (faultFrom layer (t.take k) (t.drop k) = faultL layer t))
    case atStart => exact ⟨0, Nat.zero_le _, by omega, rfl, Below.refl _ _, good_nil _, HR.out.symm⟩
    case round =>
      obtain ⟨k, hk, hg, rfl, BW, HG, HE⟩ := hrel
      by_cases hlt : k < n
      · have hltz : (k : Int) < (n : Int) := by omega
        obtain ⟨y, hy⟩ : ∃ y, t[k]? = some y := ⟨_, List.getElem?_eq_getElem (by have := HN.out; omega)⟩
        have HY : Aside (t[k]? = some y) := hy
        have hf := HF.out.at hy
        have hBw := base1 BW.out
        rcases HL.out with h0 | ⟨b, off, rfl, hb, hc⟩
        · rw [h0] at hy; simp at hy
        obtain ⟨c0, c1, c2, c3⟩ := Lies.cells hc hb hBw hy
        have HC : Aside (∀ j e, t[j]? = some e → ∀ i v, (encE e)[i]? = some v → w.cell? ⟨b, off + j * 4 + i, none⟩ = some v) := hc
        have hb' : b < wr.heap.size := Nat.lt_of_lt_of_le hb hBw.size
        have hne : b ≠ wr.heap.size := by omega
        clear hc hy
        have hwe := fun W (hB : Below wr.heap.size wr W) => wrongEntry_any y layer m W hf.1 hf.2 (held (Below.onto hBw hB) hm)
        have HFE : Aside (faultE layer (t.take k) y = if wrongE y layer = 0 then placeL (t.take k) y.p else wrongE y layer) := rfl
        have HW : Aside (wrongE y layer = 0 → y.path.size ≤ 80) := fun h => clean_size (wrongE_clean h)
        generalize wrongE y layer = r1 at hwe HFE HW
        by_cases hr1 : r1 = 0
        · have hy80 := HW.out hr1
          have hwp : ∀ W, Below w.heap.size w W → Calls Tryz.prog 111 #[.slice (some ⟨b, off, none⟩) k cap, .string y.path] W (fun r w' => r = .returned (.int .i64 (placeL (t.take k) y.p)) ∧ Below W.heap.size W w') := fun W hB => by
            have h := wrongPlace_any (t.take k) y.path (some ⟨b, off, none⟩) cap W (Lies.take (Lies.kept (Or.inr ⟨b, off, rfl, hb, HC.out⟩) hB) k) (fun e he => HF.out e (List.mem_of_mem_take he)) (by rw [List.length_take]; have := HN.out; omega) hf.1 (by omega)
            rw [List.length_take, Nat.min_eq_left (by have := HN.out; omega)] at h
            refine h.mono ?_
            rintro r w' ⟨x, rfl, hx, hB'⟩
            exact ⟨ret_int (hx HG.out.sorted), hB'⟩
          have HFE' : Aside (faultE layer (t.take k) y = placeL (t.take k) y.p) := by show _ = _; rw [HFE.out, if_pos hr1]
          subst hr1
          generalize placeL (t.take k) y.p = r2 at hwp HFE'
          have hkc : k ≤ cap := by omega
          have hkc' : (k : Int) ≤ (cap : Int) := by omega
          clear HFE HW
          by_cases hr2 : r2 = 0
          · subst hr2
            go_wp2_with (go_at_call 39; refine (hwe _ ((Below.refl _ _).alloc (Nat.le_refl _) _)).mono ?_; clear hwe; rintro rr w1 ⟨rfl, hB1⟩; obtain ⟨⟨d0, d1, d2, d3⟩, _⟩ := new4 (by simp) hB1; have hX := base2 hB1)
            go_region_held3 (fun w' => w'.cell? ⟨wr.heap.size, 0, none⟩ = some (.string y.path)) (go_keep) (first | (go_at_call 111; refine (hwp _ (Below.drew (Below.onto hBw hX))).mono ?_; rintro rr w2 ⟨rfl, hB2⟩; have hY := Below.onto hX.drew hB2; have e0 := kept_cell hB1 hB2))
            go_wp2
            go_roundg (n - (k + 1))
            case measure => omega
            case rel => exact ⟨k + 1, by omega, by omega, by go_num, up1 BW.out hY, good_step HY.out HG.out HFE'.out, by have := HE.out; rw [faultFrom_step HY.out, if_pos HFE'.out] at this; exact this⟩
          · go_wp2_with (go_at_call 39; refine (hwe _ ((Below.refl _ _).alloc (Nat.le_refl _) _)).mono ?_; clear hwe; rintro rr w1 ⟨rfl, hB1⟩; obtain ⟨⟨d0, d1, d2, d3⟩, _⟩ := new4 (by simp) hB1; have hX := base2 hB1)
            go_region_held3 (fun w' => w'.cell? ⟨wr.heap.size, 0, none⟩ = some (.string y.path)) (go_keep) (first | (go_at_call 111; refine (hwp _ (Below.drew (Below.onto hBw hX))).mono ?_; rintro rr w2 ⟨rfl, hB2⟩; have hY := Below.onto hX.drew hB2; have e0 := kept_cell hB1 hB2))
            obtain ⟨⟨r0, r1⟩, ⟨f0, f1⟩⟩ := new2 (Nat.lt_succ_self _) (up1 BW.out hY)
            have HO : Aside (Below (w.heap.size + 1) (w.alloc (.cells #[.int .i64 0, .int .i64 0] 44)) w2) := up1 BW.out hY
            go_wp2
            refine bodyPost_ret (v := .agg #[.int .i64 r2, .int .i64 k]) (by simp [results, Tryz.results67, go_sem, r0, r1]) rfl ?_
            exact ⟨by rw [← HE.out, faultFrom_step HY.out, if_neg (by rw [HFE'.out]; exact hr2), HFE'.out], own_store2 HO.out _ _⟩
        · have HFE' : Aside (faultE layer (t.take k) y = r1) := by show _ = _; rw [HFE.out, if_neg hr1]
          clear HFE HW
          go_wp2_with (go_at_call 39; refine (hwe _ ((Below.refl _ _).alloc (Nat.le_refl _) _)).mono ?_; clear hwe; rintro rr w1 ⟨rfl, hB1⟩; obtain ⟨⟨r0, r1'⟩, ⟨f0, f1⟩⟩ := new2 (Nat.lt_succ_self _) (up1 BW.out (base2 hB1)); have HO : Aside (Below (w.heap.size + 1) (w.alloc (.cells #[.int .i64 0, .int .i64 0] 44)) w1) := up1 BW.out (base2 hB1))
          refine bodyPost_ret (v := .agg #[.int .i64 r1, .int .i64 k]) (by simp [results, Tryz.results67, go_sem, r0, r1']) rfl ?_
          exact ⟨by rw [← HE.out, faultFrom_step HY.out, if_neg (by rw [HFE'.out]; exact hr1), HFE'.out], own_store2 HO.out _ _⟩
      · have hltz : ¬ (k : Int) < (n : Int) := by omega
        have HZ : Aside (faultL layer t = (0, 0)) := by
          have := HE.out
          rw [List.drop_of_length_le (by have := HN.out; omega), faultFrom] at this; exact this.symm
        obtain ⟨⟨r0, r1⟩, ⟨f0, f1⟩⟩ := new2 (Nat.lt_succ_self _) BW.out
        go_wp2
        refine bodyPost_ret (v := .agg #[.int .i64 0, .int .i64 0]) (by simp [results, Tryz.results67, go_sem, r0, r1]) rfl ?_
        exact ⟨by rw [HZ.out]; rfl, own_store2 BW.out _ _⟩
theorem wrong_any (t : List Ent) (m : Int) (p : Option Addr) (cap : Nat) (w : World) (hL : Lies w p t) (hF : Fits t) (hn : t.length < 4611686018427387904) (hcap : t.length ≤ cap) (hm : w.cell? ⟨0, 0, none⟩ = some (.int .i64 m)) :
    Calls Tryz.prog 31 #[.slice p t.length cap] w fun r w' => r = .returned (.agg #[.int .i64 (faultL false t).1, .int .i64 ((faultL false t).2 : Nat)]) ∧ Below w.heap.size w w' := by
  have hs := fun W (hB : Below w.heap.size w W) => firstFault_any t false m p cap W (hL.kept hB) hF hn hcap (held hB hm)
  generalize (faultL false t).1 = a at hs ⊢
  generalize ((faultL false t).2 : Int) = b at hs ⊢
  go_enter Tryz.func31, Tryz.ntmps31
  go_wp2_with (go_at_call 67; refine (hs _ ((Below.refl _ _).alloc (Nat.le_refl _) _)).mono ?_; clear hs; rintro rr w1 ⟨rfl, hB1⟩; obtain ⟨⟨r0, r1⟩, ⟨f0, f1⟩⟩ := new2 (by simp) hB1)
  refine bodyPost_ret (v := .agg #[.int .i64 a, .int .i64 b]) (by simp [results, Tryz.results31, go_sem, r0, r1]) rfl ?_
  exact ⟨rfl, own_store2 (hB1.mono (by simp)) _ _⟩
end Go.Proofs.YtampldoimpfjgabGreatDoor
