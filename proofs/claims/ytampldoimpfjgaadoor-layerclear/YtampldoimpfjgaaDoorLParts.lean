/-
  The walk of the statement LayerParts: it answers true, and writes nothing that was there.
-/
import Derived.Test.YtampldoimpfjgaaDoorLLays
import Derived.Test.YtampldoimpfjgaaDoorLAlive
namespace Go.Proofs.YtampldoimpfjgaaDoor
open Go.RowKit PM Go.Sort
set_option linter.unusedVariables false

abbrev MgC (w : World) (p : Option Addr) (n cap : Nat) (er : Int) (l : List Ent) : Prop := ∀ W, Below w.heap.size w W → Calls Tryd.prog 48 #[.slice p n cap] W (TreePost er l W)
/-- Merge of the upper layers with what the lower ones come to. -/
abbrev MgT (w : World) (up : List Lay) (lw : List Ent) (er : Int) (l : List Ent) : Prop := ∀ W v p c base, Below w.heap.size w W → Lies W p lw → lw.length ≤ c → RowsT W base v (up ++ [⟨p, c, lw⟩]) → Calls Tryd.prog 48 #[v] W (TreePost er l W)

theorem lays_at {w W : World} {t : List Lay} {ad : Addr} (h : t = [] ∨ ∀ j y, t[j]? = some y → w.cell? (ad.add j) = some y.v ∧ (ad.add j).block < w.heap.size) (hB : Below w.heap.size w W) : t = [] ∨ ∃ ad', some ad = some ad' ∧ ∀ j y, t[j]? = some y → W.cell? (ad'.add j) = some y.v := by
  rcases h with h | h
  · exact .inl h
  · exact .inr ⟨ad, rfl, fun j y hy => (hB.cell (p := ad.add j) (h j y hy).2).trans (h j y hy).1⟩
theorem one_lay (W : World) (y : Lay) (H : Nat) (hH : H = W.heap.size) : [y] = [] ∨ ∃ ad, some (⟨H, 0, none⟩ : Addr) = some ad ∧ ∀ j z, [y][j]? = some z → (W.alloc (.cells #[.slice y.ad y.es.length y.cap] 36)).cell? (ad.add j) = some z.v := by
  subst hH
  refine .inr ⟨_, rfl, fun j z hz => ?_⟩
  cases j with
  | zero => simp at hz; subst hz; rw [Addr.add_lit]; simp [Lay.v]
  | succ j => simp at hz
set_option maxHeartbeats 2000000 in
set_option maxRecDepth 100000 in
theorem parts_A (ls : List Lay) (k : Nat) (ad : Addr) (n cap : Nat) (w : World) (hal : Calls Tryd.prog 50 #[] w fun e w' => e = .returned (.bool true) ∧ Below w.heap.size w w') (allL lowL topL : List Ent) (er : Int)
    (hmg : MgC w (some ad) n cap 0 allL) (hml : MgC w (some (ad.add k)) (n - k) (cap - k) 0 lowL) (hmt : MgT w (ls.take k) lowL er topL)
    (hT : ls.take k = [] ∨ ∀ j y, (ls.take k)[j]? = some y → w.cell? (ad.add j) = some y.v ∧ (ad.add j).block < w.heap.size)
    (hkn : k = (ls.take k).length) (hk : k ≤ n) (hcap : n ≤ cap) (hck : ¬ cap = k) (h5 : n ≤ 5) (hlw : lowL.length ≤ 80) (hal80 : allL.length ≤ 80)
    (hr : (k = 5 ∧ er = 5) ∨ (¬ k = 5 ∧ er = 0 ∧ topL = allL)) :
    Calls Tryd.prog 13 #[.slice (some ad) n cap, .int .i64 (k : Int)] w fun r w' => r = .returned (.bool true) ∧ Below w.heap.size w w' := by
  have HT : Aside (ls.take k = [] ∨ ∀ j y, (ls.take k)[j]? = some y → w.cell? (ad.add j) = some y.v ∧ (ad.add j).block < w.heap.size) := hT
  have HKN : Aside (k = (ls.take k).length) := hkn
  clear hT hkn
  have hk0 : ¬ (k : Int) < 0 := by omega
  have hk1 : (0 : Int) ≤ (k : Int) := by omega
  have hkn' : ¬ (n : Int) < (k : Int) := by omega
  have hkz : (k : Int) ≤ (n : Int) := by omega
  have hcz : (k : Int) ≤ (cap : Int) := by omega
  have hgo4 : True := trivial
  have hgo5 : True := trivial
  rcases hr with ⟨hk5, rfl⟩ | ⟨hk5, rfl, rfl⟩
  · have HK5 : Aside ((k : Int) = 5) := by show _ = _; omega
    clear hk5
    go_enter Tryd.func13, Tryd.ntmps13
    go_wp2_with (first
      | (go_at_call 50; refine hal.mono ?_; clear hal; rintro e w1 ⟨rfl, hB⟩)
      | (go_at_call 48; refine (hmg _ hB).mono ?_; clear hmg; rintro e w2 ⟨pa, ca, rfl, hLa, hca, hna, hN⟩; replace hB := Below.onto hB hN; clear hN hca hna)
      | (go_at_call 48; refine (hml _ hB).mono ?_; clear hml; rintro e w3 ⟨pl, cl, rfl, hLl, hcl, hnl, hN⟩; replace hB := Below.onto hB hN; replace hLa := hLa.kept hN; clear hN hnl)
      | (at_builtin; clear hgo4; refine append_lays (w3.alloc (.cells #[] 36)) rfl _ _ rfl w3.heap.size _ [] rfl (RowsT.new w3 _ rfl) (by simp) (by simp) (some ad) k cap (ls.take k) rfl HKN.out (lays_at HT.out (hB.alloc hB.size _)) nofun (by omega) ?_; intro v4 w4 hR4 hB4; rw [List.nil_append] at hR4; have HX4 : Aside (Below w3.heap.size w3 w4) := ((Below.refl _ _).alloc (Nat.le_refl _) _).trans hB4; have hs4 := HX4.out.size; clear hB4)
      | (at_builtin; clear hgo5; refine append_lays (w4.alloc (.cells #[.slice pl lowL.length cl] 36)) rfl _ _ rfl w3.heap.size _ (ls.take k) rfl (hR4.alloc _) (by have := HKN.out; omega) (by simp; omega) (some ⟨w4.heap.size, 0, none⟩) 1 1 [⟨pl, cl, lowL⟩] rfl rfl (one_lay w4 _ _ rfl) nofun (by omega) ?_; intro v5 w5 hR5 hB5; clear hR4; have hX5 : Below w3.heap.size w3 w5 := (HX4.out.alloc HX4.out.size _).trans hB5; clear hB5 HX4; replace hB := Below.onto hB hX5; replace hLa := hLa.kept hX5; replace hLl := hLl.kept hX5; clear hX5)
      | (go_at_call 48; refine (hmt _ v5 pl cl _ hB hLl hcl hR5).mono ?_; clear hmt hR5 hLl; rintro e w6 ⟨pt, ct, rfl, hLt, hct, hnt, hN⟩; replace hB := Below.onto hB hN; replace hLa := hLa.kept hN; clear hN hct hnt; have hk5z := HK5.out)
      | (go_at_call 37; refine (same_any _ pa pt ca ct _ hLa hLt (by omega)).mono ?_; clear hLa hLt; rintro e w7 ⟨rfl, hN⟩; replace hB := Below.onto hB hN; clear hN))
    go_ret
    exact ⟨rfl, hB⟩
  · have hk5z : ¬ (k : Int) = 5 := by omega
    go_enter Tryd.func13, Tryd.ntmps13
    go_wp2_with (first
      | (go_at_call 50; refine hal.mono ?_; clear hal; rintro e w1 ⟨rfl, hB⟩)
      | (go_at_call 48; refine (hmg _ hB).mono ?_; clear hmg; rintro e w2 ⟨pa, ca, rfl, hLa, hca, hna, hN⟩; replace hB := Below.onto hB hN; clear hN hca hna)
      | (go_at_call 48; refine (hml _ hB).mono ?_; clear hml; rintro e w3 ⟨pl, cl, rfl, hLl, hcl, hnl, hN⟩; replace hB := Below.onto hB hN; replace hLa := hLa.kept hN; clear hN hnl)
      | (at_builtin; clear hgo4; refine append_lays (w3.alloc (.cells #[] 36)) rfl _ _ rfl w3.heap.size _ [] rfl (RowsT.new w3 _ rfl) (by simp) (by simp) (some ad) k cap (ls.take k) rfl HKN.out (lays_at HT.out (hB.alloc hB.size _)) nofun (by omega) ?_; intro v4 w4 hR4 hB4; rw [List.nil_append] at hR4; have HX4 : Aside (Below w3.heap.size w3 w4) := ((Below.refl _ _).alloc (Nat.le_refl _) _).trans hB4; have hs4 := HX4.out.size; clear hB4)
      | (at_builtin; clear hgo5; refine append_lays (w4.alloc (.cells #[.slice pl lowL.length cl] 36)) rfl _ _ rfl w3.heap.size _ (ls.take k) rfl (hR4.alloc _) (by have := HKN.out; omega) (by simp; omega) (some ⟨w4.heap.size, 0, none⟩) 1 1 [⟨pl, cl, lowL⟩] rfl rfl (one_lay w4 _ _ rfl) nofun (by omega) ?_; intro v5 w5 hR5 hB5; clear hR4; have hX5 : Below w3.heap.size w3 w5 := (HX4.out.alloc HX4.out.size _).trans hB5; clear hB5 HX4; replace hB := Below.onto hB hX5; replace hLa := hLa.kept hX5; replace hLl := hLl.kept hX5; clear hX5)
      | (go_at_call 48; refine (hmt _ v5 pl cl _ hB hLl hcl hR5).mono ?_; clear hmt hR5 hLl; rintro e w6 ⟨pt, ct, rfl, hLt, hct, hnt, hN⟩; replace hB := Below.onto hB hN; replace hLa := hLa.kept hN; clear hN hct hnt)
      | (go_at_call 37; refine (same_any _ pa pt ca ct _ hLa hLt (by omega)).mono ?_; clear hLa hLt; rintro e w7 ⟨rfl, hN⟩; replace hB := Below.onto hB hN; clear hN))
    go_ret
    exact ⟨rfl, hB⟩
theorem lays_atO {w W : World} {t : List Lay} {p : Option Addr} (h : t = [] ∨ ∃ ad, p = some ad ∧ ∀ j y, t[j]? = some y → w.cell? (ad.add j) = some y.v ∧ (ad.add j).block < w.heap.size) (hB : Below w.heap.size w W) : t = [] ∨ ∃ ad', p = some ad' ∧ ∀ j y, t[j]? = some y → W.cell? (ad'.add j) = some y.v := by
  rcases h with h | ⟨ad, hp, h⟩
  · exact .inl h
  · exact .inr ⟨ad, hp, fun j y hy => (hB.cell (p := ad.add j) (h j y hy).2).trans (h j y hy).1⟩
set_option maxHeartbeats 2000000 in
set_option maxRecDepth 100000 in
theorem parts_B (ls : List Lay) (p : Option Addr) (n : Nat) (w : World) (hal : Calls Tryd.prog 50 #[] w fun e w' => e = .returned (.bool true) ∧ Below w.heap.size w w') (allL lowL topL : List Ent) (er : Int)
    (hmg : MgC w p n n 0 allL) (hml : MgC w p 0 0 0 lowL) (hmt : MgT w ls lowL er topL)
    (hT : ls = [] ∨ ∃ ad, p = some ad ∧ ∀ j y, ls[j]? = some y → w.cell? (ad.add j) = some y.v ∧ (ad.add j).block < w.heap.size)
    (hkn : n = ls.length) (hnil : p = none → n = 0) (h5 : n ≤ 5) (hlw : lowL.length ≤ 80) (hal80 : allL.length ≤ 80)
    (hr : (n = 5 ∧ er = 5) ∨ (¬ n = 5 ∧ er = 0 ∧ topL = allL)) :
    Calls Tryd.prog 13 #[.slice p n n, .int .i64 (n : Int)] w fun r w' => r = .returned (.bool true) ∧ Below w.heap.size w w' := by
  have HT : Aside (ls = [] ∨ ∃ ad, p = some ad ∧ ∀ j y, ls[j]? = some y → w.cell? (ad.add j) = some y.v ∧ (ad.add j).block < w.heap.size) := hT
  have HKN : Aside (n = ls.length) := hkn
  clear hT hkn
  have hk0 : ¬ (n : Int) < 0 := by omega
  have hk1 : (0 : Int) ≤ (n : Int) := by omega
  have hgo4 : True := trivial
  have hgo5 : True := trivial
  rcases hr with ⟨hk5, rfl⟩ | ⟨hk5, rfl, rfl⟩
  · have HK5 : Aside ((n : Int) = 5) := by show _ = _; omega
    clear hk5
    go_enter Tryd.func13, Tryd.ntmps13
    go_wp2_with (first
      | (go_at_call 50; refine hal.mono ?_; clear hal; rintro e w1 ⟨rfl, hB⟩)
      | (go_at_call 48; refine (hmg _ hB).mono ?_; clear hmg; rintro e w2 ⟨pa, ca, rfl, hLa, hca, hna, hN⟩; replace hB := Below.onto hB hN; clear hN hca hna)
      | (go_at_call 48; refine (hml _ hB).mono ?_; clear hml; rintro e w3 ⟨pl, cl, rfl, hLl, hcl, hnl, hN⟩; replace hB := Below.onto hB hN; replace hLa := hLa.kept hN; clear hN hnl)
      | (at_builtin; clear hgo4; refine append_lays (w3.alloc (.cells #[] 36)) rfl _ _ rfl w3.heap.size _ [] rfl (RowsT.new w3 _ rfl) (by simp) (by simp) p n n ls rfl HKN.out (lays_atO HT.out (hB.alloc hB.size _)) hnil (by omega) ?_; intro v4 w4 hR4 hB4; rw [List.nil_append] at hR4; have HX4 : Aside (Below w3.heap.size w3 w4) := ((Below.refl _ _).alloc (Nat.le_refl _) _).trans hB4; have hs4 := HX4.out.size; clear hB4)
      | (at_builtin; clear hgo5; refine append_lays (w4.alloc (.cells #[.slice pl lowL.length cl] 36)) rfl _ _ rfl w3.heap.size _ ls rfl (hR4.alloc _) (by have := HKN.out; omega) (by simp; omega) (some ⟨w4.heap.size, 0, none⟩) 1 1 [⟨pl, cl, lowL⟩] rfl rfl (one_lay w4 _ _ rfl) nofun (by omega) ?_; intro v5 w5 hR5 hB5; clear hR4; have hX5 : Below w3.heap.size w3 w5 := (HX4.out.alloc HX4.out.size _).trans hB5; clear hB5 HX4; replace hB := Below.onto hB hX5; replace hLa := hLa.kept hX5; replace hLl := hLl.kept hX5; clear hX5)
      | (go_at_call 48; refine (hmt _ v5 pl cl _ hB hLl hcl hR5).mono ?_; clear hmt hR5 hLl; rintro e w6 ⟨pt, ct, rfl, hLt, hct, hnt, hN⟩; replace hB := Below.onto hB hN; replace hLa := hLa.kept hN; clear hN hct hnt; have hk5z := HK5.out)
      | (go_at_call 37; refine (same_any _ pa pt ca ct _ hLa hLt (by omega)).mono ?_; clear hLa hLt; rintro e w7 ⟨rfl, hN⟩; replace hB := Below.onto hB hN; clear hN))
    go_ret
    exact ⟨rfl, hB⟩
  · have hk5z : ¬ (n : Int) = 5 := by omega
    go_enter Tryd.func13, Tryd.ntmps13
    go_wp2_with (first
      | (go_at_call 50; refine hal.mono ?_; clear hal; rintro e w1 ⟨rfl, hB⟩)
      | (go_at_call 48; refine (hmg _ hB).mono ?_; clear hmg; rintro e w2 ⟨pa, ca, rfl, hLa, hca, hna, hN⟩; replace hB := Below.onto hB hN; clear hN hca hna)
      | (go_at_call 48; refine (hml _ hB).mono ?_; clear hml; rintro e w3 ⟨pl, cl, rfl, hLl, hcl, hnl, hN⟩; replace hB := Below.onto hB hN; replace hLa := hLa.kept hN; clear hN hnl)
      | (at_builtin; clear hgo4; refine append_lays (w3.alloc (.cells #[] 36)) rfl _ _ rfl w3.heap.size _ [] rfl (RowsT.new w3 _ rfl) (by simp) (by simp) p n n ls rfl HKN.out (lays_atO HT.out (hB.alloc hB.size _)) hnil (by omega) ?_; intro v4 w4 hR4 hB4; rw [List.nil_append] at hR4; have HX4 : Aside (Below w3.heap.size w3 w4) := ((Below.refl _ _).alloc (Nat.le_refl _) _).trans hB4; have hs4 := HX4.out.size; clear hB4)
      | (at_builtin; clear hgo5; refine append_lays (w4.alloc (.cells #[.slice pl lowL.length cl] 36)) rfl _ _ rfl w3.heap.size _ ls rfl (hR4.alloc _) (by have := HKN.out; omega) (by simp; omega) (some ⟨w4.heap.size, 0, none⟩) 1 1 [⟨pl, cl, lowL⟩] rfl rfl (one_lay w4 _ _ rfl) nofun (by omega) ?_; intro v5 w5 hR5 hB5; clear hR4; have hX5 : Below w3.heap.size w3 w5 := (HX4.out.alloc HX4.out.size _).trans hB5; clear hB5 HX4; replace hB := Below.onto hB hX5; replace hLa := hLa.kept hX5; replace hLl := hLl.kept hX5; clear hX5)
      | (go_at_call 48; refine (hmt _ v5 pl cl _ hB hLl hcl hR5).mono ?_; clear hmt hR5 hLl; rintro e w6 ⟨pt, ct, rfl, hLt, hct, hnt, hN⟩; replace hB := Below.onto hB hN; replace hLa := hLa.kept hN; clear hN hct hnt)
      | (go_at_call 37; refine (same_any _ pa pt ca ct _ hLa hLt (by omega)).mono ?_; clear hLa hLt; rintro e w7 ⟨rfl, hN⟩; replace hB := Below.onto hB hN; clear hN))
    go_ret
    exact ⟨rfl, hB⟩
set_option maxHeartbeats 1000000 in
set_option maxRecDepth 100000 in
theorem parts_E (p : Option Addr) (n cap : Nat) (at' : Int) (w : World) (hal : Calls Tryd.prog 50 #[] w fun e w' => e = .returned (.bool true) ∧ Below w.heap.size w w') (er : Int) (allL : List Ent) (hmg : MgC w p n cap er allL) (h0 : ¬ er = 0) :
    Calls Tryd.prog 13 #[.slice p n cap, .int .i64 at'] w fun r w' => r = .returned (.bool true) ∧ Below w.heap.size w w' := by
  go_enter Tryd.func13, Tryd.ntmps13
  go_wp2_with (first
    | (go_at_call 50; refine hal.mono ?_; clear hal; rintro e w1 ⟨rfl, hB⟩)
    | (go_at_call 48; refine (hmg _ hB).mono ?_; clear hmg; rintro e w2 ⟨pa, ca, rfl, hLa, hca, hna, hN⟩; replace hB := Below.onto hB hN; clear hN hca hna))
  go_ret
  exact ⟨rfl, hB⟩
set_option maxHeartbeats 1000000 in
set_option maxRecDepth 100000 in
theorem parts_N (p : Option Addr) (n cap : Nat) (at' : Int) (w : World) (hal : Calls Tryd.prog 50 #[] w fun e w' => e = .returned (.bool true) ∧ Below w.heap.size w w') (allL : List Ent) (hmg : MgC w p n cap 0 allL) (h0 : at' < 0) :
    Calls Tryd.prog 13 #[.slice p n cap, .int .i64 at'] w fun r w' => r = .returned (.bool true) ∧ Below w.heap.size w w' := by
  go_enter Tryd.func13, Tryd.ntmps13
  go_wp2_with (first
    | (go_at_call 50; refine hal.mono ?_; clear hal; rintro e w1 ⟨rfl, hB⟩)
    | (go_at_call 48; refine (hmg _ hB).mono ?_; clear hmg; rintro e w2 ⟨pa, ca, rfl, hLa, hca, hna, hN⟩; replace hB := Below.onto hB hN; clear hN hca hna))
  go_ret
  exact ⟨rfl, hB⟩
set_option maxHeartbeats 1000000 in
set_option maxRecDepth 100000 in
theorem parts_G (p : Option Addr) (n cap : Nat) (at' : Int) (w : World) (hal : Calls Tryd.prog 50 #[] w fun e w' => e = .returned (.bool true) ∧ Below w.heap.size w w') (allL : List Ent) (hmg : MgC w p n cap 0 allL) (h0 : ¬ at' < 0) (h1 : (n : Int) < at') :
    Calls Tryd.prog 13 #[.slice p n cap, .int .i64 at'] w fun r w' => r = .returned (.bool true) ∧ Below w.heap.size w w' := by
  go_enter Tryd.func13, Tryd.ntmps13
  go_wp2_with (first
    | (go_at_call 50; refine hal.mono ?_; clear hal; rintro e w1 ⟨rfl, hB⟩)
    | (go_at_call 48; refine (hmg _ hB).mono ?_; clear hmg; rintro e w2 ⟨pa, ca, rfl, hLa, hca, hna, hN⟩; replace hB := Below.onto hB hN; clear hN hca hna))
  go_ret
  exact ⟨rfl, hB⟩
theorem lay_cells {w : World} {p : Option Addr} {ls : List Lay} (hT : LiesT w p ls) {ad : Addr} (hp : p = some ad) (k : Nat) : ls.take k = [] ∨ ∀ j y, (ls.take k)[j]? = some y → w.cell? (ad.add j) = some y.v ∧ (ad.add j).block < w.heap.size := by
  rcases hT with rfl | ⟨b, off, h, hb, hc⟩
  · exact .inl (by simp)
  · rw [hp] at h
    cases h
    refine .inr fun j y hy => ?_
    rw [List.getElem?_take] at hy
    split at hy
    · rw [Addr.add_lit]
      exact ⟨hc j y hy, hb⟩
    · cases hy
theorem lies_drop {w : World} {ad : Addr} {ls : List Lay} (hT : LiesT w (some ad) ls) (k : Nat) : LiesT w (some (ad.add k)) (ls.drop k) := by
  rcases hT with rfl | ⟨b, off, h, hb, hc⟩
  · exact .inl (by simp)
  · cases h
    refine .inr ⟨b, off + k, by rw [Addr.add_lit], hb, fun j x hx => ?_⟩
    rw [List.getElem?_drop] at hx
    rw [Nat.add_assoc]
    exact hc _ _ hx
theorem merge_len5 {ls : List (List Ent)} (h : (mergeL ls).1 = 0) : ls.length ≤ 5 ∧ mergeL ls = mergeF ls := by
  unfold mergeL at h ⊢
  by_cases h5 : 5 < ls.length
  · rw [if_pos h5] at h; cases h
  · exact ⟨by omega, by rw [if_neg h5]⟩
theorem parts_walk (ls : List Lay) (at' : Int) (m : Int) (p : Option Addr) (cap : Nat) (w : World) (hT : LiesT w p ls) (hOK : ∀ x ∈ ls, LayOK w x) (hcap : ls.length ≤ cap) (hnil : p = none → cap = 0)
    (hm : w.cell? ⟨0, 0, none⟩ = some (.int .i64 m)) :
    Calls Tryd.prog 13 #[.slice p ls.length cap, .int .i64 at'] w fun r w' => r = .returned (.bool true) ∧ Below w.heap.size w w' := by
  have hal := layerAlive_any m w hm
  have hmg : MgC w p ls.length cap (mergeL (ls.map (·.es))).1 (mergeL (ls.map (·.es))).2 := fun W hB => merge_any ls m p cap W (hT.kept hB) (fun x hx => (hOK x hx).kept hB) (held hB hm)
  by_cases e0 : ¬ (mergeL (ls.map (·.es))).1 = 0
  · exact parts_E p ls.length cap at' w hal _ _ hmg e0
  replace e0 := Decidable.not_not.1 e0
  rw [e0] at hmg
  by_cases ha : at' < 0
  · exact parts_N p ls.length cap at' w hal _ hmg ha
  by_cases hb : (ls.length : Int) < at'
  · exact parts_G p ls.length cap at' w hal _ hmg ha hb
  obtain ⟨k, rfl⟩ : ∃ k : Nat, at' = (k : Int) := ⟨at'.toNat, by omega⟩
  have hk : k ≤ ls.length := by omega
  obtain ⟨h5, hF⟩ := merge_len5 e0
  rw [List.length_map] at h5
  rw [hF] at e0 hmg
  have hsp : ls.map (·.es) = (ls.take k).map (·.es) ++ (ls.drop k).map (·.es) := by rw [← List.map_append, List.take_append_drop]
  have e1 := e0
  rw [hsp] at e1
  obtain ⟨l0, ltop⟩ := mergeF_parts e1
  rw [← hsp] at ltop
  have hrl := mergeF_right l0
  have hra := mergeF_right e0
  have hmt : MgT w (ls.take k) (mergeF ((ls.drop k).map (·.es))).2 (mergeL ((ls.take k).map (·.es) ++ [(mergeF ((ls.drop k).map (·.es))).2])).1 (mergeL ((ls.take k).map (·.es) ++ [(mergeF ((ls.drop k).map (·.es))).2])).2 := fun W v p' c' base hB hLl hcl hR => by
    obtain ⟨pp, cc, rfl, hTT⟩ := hR.form
    have := merge_any (ls.take k ++ [⟨p', c', (mergeF ((ls.drop k).map (·.es))).2⟩]) m pp cc W hTT (fun x hx => by
      rcases List.mem_append.1 hx with hx | hx
      · exact (hOK x (List.mem_of_mem_take hx)).kept hB
      · rw [List.mem_singleton] at hx
        subst hx
        exact ⟨hLl, right_fitsL hrl, hcl, Nat.lt_of_le_of_lt hrl.len (by decide)⟩) (held hB hm)
    rw [List.map_append] at this
    exact this
  have hlt : (ls.take k).length = k := by rw [List.length_take]; omega
  have hr : (k = 5 ∧ (mergeL ((ls.take k).map (·.es) ++ [(mergeF ((ls.drop k).map (·.es))).2])).1 = 5) ∨ (¬ k = 5 ∧ (mergeL ((ls.take k).map (·.es) ++ [(mergeF ((ls.drop k).map (·.es))).2])).1 = 0 ∧ (mergeL ((ls.take k).map (·.es) ++ [(mergeF ((ls.drop k).map (·.es))).2])).2 = (mergeF (ls.map (·.es))).2) := by
    have hl : ((ls.take k).map (·.es) ++ [(mergeF ((ls.drop k).map (·.es))).2]).length = k + 1 := by rw [List.length_append, List.length_map, hlt]; rfl
    unfold mergeL
    rw [hl]
    by_cases h : k = 5
    · exact .inl ⟨h, by rw [if_pos (by omega)]⟩
    · exact .inr ⟨h, by rw [if_neg (by omega), ltop]; exact e0, by rw [if_neg (by omega), ltop]⟩
  have hal80 := hra.len
  have hlw := hrl.len
  generalize (mergeL ((ls.take k).map (·.es) ++ [(mergeF ((ls.drop k).map (·.es))).2])).1 = er at hmt hr
  generalize (mergeL ((ls.take k).map (·.es) ++ [(mergeF ((ls.drop k).map (·.es))).2])).2 = topL at hmt hr
  by_cases hck : cap = k
  · have hkl : k = ls.length := by omega
    have hcl : cap = ls.length := by omega
    subst hcl
    have hdr : ls.drop k = [] := by rw [hkl]; simp
    have htk : ls.take k = ls := by rw [hkl]; simp
    rw [htk] at hmt
    have hml : MgC w p 0 0 0 (mergeF ((ls.drop k).map (·.es))).2 := fun W hB => by
      rw [hdr]
      exact merge_any [] m p 0 W (.inl rfl) (by intro x hx; simp at hx) (held hB hm)
    rw [hkl] at hr
    rw [show ((k : Nat) : Int) = (ls.length : Int) by omega]
    refine parts_B ls p ls.length w hal _ _ _ er hmg hml hmt ?_ rfl hnil h5 hlw hal80 hr
    cases p with
    | none => exact .inl (List.eq_nil_of_length_eq_zero (hnil rfl))
    | some ad =>
      rcases lay_cells hT rfl ls.length with h | h
      · exact .inl (by simpa using h)
      · exact .inr ⟨ad, rfl, by simpa using h⟩
  · cases p with
    | none => exact absurd (by have := hnil rfl; omega) hck
    | some ad =>
      have hml : MgC w (some (ad.add k)) (ls.length - k) (cap - k) 0 (mergeF ((ls.drop k).map (·.es))).2 := fun W hB => by
        have := merge_any (ls.drop k) m (some (ad.add k)) (cap - k) W (lies_drop (hT.kept hB) k) (fun x hx => (hOK x (List.mem_of_mem_drop hx)).kept hB) (held hB hm)
        rw [List.length_drop] at this
        have hl5 : mergeL ((ls.drop k).map (·.es)) = mergeF ((ls.drop k).map (·.es)) := by rw [mergeL, if_neg (by rw [List.length_map, List.length_drop]; omega)]
        rw [hl5, l0] at this
        exact this
      exact parts_A ls k ad ls.length cap w hal _ _ _ er hmg hml hmt (lay_cells hT rfl k) hlt.symm hk hcap hck h5 hlw hal80 hr
end Go.Proofs.YtampldoimpfjgaaDoor
