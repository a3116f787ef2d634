/-
  cmp.Or and cmp.Compare over numbers; slices.SortFunc over a row of locks of the call's own.
-/
import Derived.Test.YtampldoimpfjgabKBase
import Derived.Test.YtampldoimpfjgabSortLay
namespace Go.Proofs.Ytampldoimpfjgab
open Go.RowKit Go.Sort KM
set_option linter.unusedVariables false

def orL : List Int → Int
  | [] => 0
  | x :: r => if x = 0 then orL r else x
theorem or_any (xs : List Int) (B cap : Nat) (w : World) (hn : xs.length ≤ 100) (hc : ∀ j x, xs[j]? = some x → w.cell? ⟨B, j, none⟩ = some (.int .i64 x)) :
    Calls Try.prog 33 #[.slice (some ⟨B, 0, none⟩) xs.length cap] w fun e w' => e = .returned (.int .i64 (orL xs)) ∧ w' = w := by
  have HC : Aside (∀ j x, xs[j]? = some x → w.cell? ⟨B, j, none⟩ = some (.int .i64 x)) := hc
  obtain ⟨n, hnl⟩ : ∃ n, n = xs.length := ⟨_, rfl⟩
  have HN : Aside (n = xs.length) := hnl
  rw [← hnl] at hn ⊢
  clear hnl hc
  go_enter Try.func33, Try.ntmps33
  go_wp2
  go_loop [8] (fun i => ∃ k : Nat, k ≤ n ∧ i = .int .i64 k ∧ Aside (orL (xs.drop k) = orL xs)) (fun i => n - (intOf i).toNat)
  case atStart => exact ⟨0, Nat.zero_le _, rfl, by show _ = _; rfl⟩
  case round =>
    obtain ⟨k, hk, rfl, HA⟩ := hrel
    by_cases hlt : k < n
    · have hltz : (k : Int) < (n : Int) := by omega
      obtain ⟨y, hy⟩ : ∃ y, xs[k]? = some y := ⟨_, List.getElem?_eq_getElem (by have := HN.out; omega)⟩
      have hcell := HC.out k y hy
      have HD : Aside (orL (xs.drop k) = if y = 0 then orL (xs.drop (k + 1)) else y) := by
        obtain ⟨h1, h2⟩ := List.getElem?_eq_some_iff.1 hy
        show _ = _
        rw [List.drop_eq_getElem_cons h1, orL, h2]
      clear hy
      by_cases h0 : y = 0
      · have HE : Aside (orL (xs.drop (k + 1)) = orL xs) := by show _ = _; rw [← HA.out, HD.out, if_pos h0]
        clear HD HA
        go_wp2
        exact ⟨⟨k + 1, by omega, by go_num, HE⟩, by simp [intOf]; omega⟩
      · have HE : Aside (orL xs = y) := by show _ = _; rw [← HA.out, HD.out, if_neg h0]
        clear HD HA
        go_wp2
        go_ret
        exact ⟨ret_int HE.out.symm, rfl⟩
    · have hltz : ¬ (k : Int) < (n : Int) := by omega
      have HE : Aside (orL xs = 0) := by show _ = _; rw [← HA.out, List.drop_of_length_le (by have := HN.out; omega)]; rfl
      clear HA
      go_wp2
      go_ret
      exact ⟨ret_int HE.out.symm, rfl⟩

theorem orInt_any (xs : List Int) (B cap : Nat) (w : World) (hn : xs.length ≤ 100) (hc : ∀ j x, xs[j]? = some x → w.cell? ⟨B, j, none⟩ = some (.int .i64 x)) :
    Calls Try.prog 36 #[.slice (some ⟨B, 0, none⟩) xs.length cap] w fun e w' => e = .returned (.int .i64 (orL xs)) ∧ w' = w := by
  have HC : Aside (∀ j x, xs[j]? = some x → w.cell? ⟨B, j, none⟩ = some (.int .i64 x)) := hc
  obtain ⟨n, hnl⟩ : ∃ n, n = xs.length := ⟨_, rfl⟩
  have HN : Aside (n = xs.length) := hnl
  rw [← hnl] at hn ⊢
  clear hnl hc
  go_enter Try.func36, Try.ntmps36
  go_wp2
  go_loop [8] (fun i => ∃ k : Nat, k ≤ n ∧ i = .int .i64 k ∧ Aside (orL (xs.drop k) = orL xs)) (fun i => n - (intOf i).toNat)
  case atStart => exact ⟨0, Nat.zero_le _, rfl, by show _ = _; rfl⟩
  case round =>
    obtain ⟨k, hk, rfl, HA⟩ := hrel
    by_cases hlt : k < n
    · have hltz : (k : Int) < (n : Int) := by omega
      obtain ⟨y, hy⟩ : ∃ y, xs[k]? = some y := ⟨_, List.getElem?_eq_getElem (by have := HN.out; omega)⟩
      have hcell := HC.out k y hy
      have HD : Aside (orL (xs.drop k) = if y = 0 then orL (xs.drop (k + 1)) else y) := by
        obtain ⟨h1, h2⟩ := List.getElem?_eq_some_iff.1 hy
        show _ = _
        rw [List.drop_eq_getElem_cons h1, orL, h2]
      clear hy
      by_cases h0 : y = 0
      · have HE : Aside (orL (xs.drop (k + 1)) = orL xs) := by show _ = _; rw [← HA.out, HD.out, if_pos h0]
        clear HD HA
        go_wp2
        exact ⟨⟨k + 1, by omega, by go_num, HE⟩, by simp [intOf]; omega⟩
      · have HE : Aside (orL xs = y) := by show _ = _; rw [← HA.out, HD.out, if_neg h0]
        clear HD HA
        go_wp2
        go_ret
        exact ⟨ret_int HE.out.symm, rfl⟩
    · have hltz : ¬ (k : Int) < (n : Int) := by omega
      have HE : Aside (orL xs = 0) := by show _ = _; rw [← HA.out, List.drop_of_length_le (by have := HN.out; omega)]; rfl
      clear HA
      go_wp2
      go_ret
      exact ⟨ret_int HE.out.symm, rfl⟩


theorem isNaN_any (a : Int) (w : World) : Calls Try.prog 41 #[.int .i64 a] w fun r w' => r = .returned (.bool false) ∧ w' = w := by
  go_enter Try.func41, Try.ntmps41
  go_wp2
  go_ret
  exact ⟨by simp, rfl⟩
theorem cmpI_any (a b : Int) (w : World) : Calls Try.prog 37 #[.int .i64 a, .int .i64 b] w fun r w' => r = .returned (.int .i64 (cmpI a b)) ∧ w' = w := by
  by_cases h1 : a < b
  · have H : Aside (cmpI a b = -1) := by show _ = _; rw [cmpI, if_pos h1]
    go_enter Try.func37, Try.ntmps37
    go_wp2_with (go_at_call 41; refine (isNaN_any _ _).mono ?_; rintro r w' ⟨rfl, hw⟩; subst hw)
    go_ret
    exact ⟨ret_int H.out.symm, rfl⟩
  · by_cases h2 : b < a
    · have H : Aside (cmpI a b = 1) := by show _ = _; rw [cmpI, if_neg h1, if_pos h2]
      go_enter Try.func37, Try.ntmps37
      go_wp2_with (go_at_call 41; refine (isNaN_any _ _).mono ?_; rintro r w' ⟨rfl, hw⟩; subst hw)
      go_ret
      exact ⟨ret_int H.out.symm, rfl⟩
    · have H : Aside (cmpI a b = 0) := by show _ = _; rw [cmpI, if_neg h1, if_neg h2]
      go_enter Try.func37, Try.ntmps37
      go_wp2_with (go_at_call 41; refine (isNaN_any _ _).mono ?_; rintro r w' ⟨rfl, hw⟩; subst hw)
      go_ret
      exact ⟨ret_int H.out.symm, rfl⟩
theorem new2e {X : World} {B : Nat} {a b : Value} {t : TypeId} (hB : B = X.heap.size) : ((X.alloc (.cells #[a, b] t)).drew).cell? ⟨B, 0, none⟩ = some a ∧ ((X.alloc (.cells #[a, b] t)).drew).cell? ⟨B, 1, none⟩ = some b := by
  subst hB
  exact ⟨show (X.alloc (.cells #[a, b] t)).cell? _ = _ by simp, show (X.alloc (.cells #[a, b] t)).cell? _ = _ by simp⟩
theorem orL_cmp (a b : Lk) : orL [cmpI a.o b.o, cmpI a.f b.f] = cmpK a b := by
  simp only [orL, cmpK]
  split
  · split
    · rename_i h; exact h.symm
    · rfl
  · rfl
theorem or2I_any (a b : Int) (B : Nat) (W : World) (h0 : W.cell? ⟨B, 0, none⟩ = some (.int .i64 a)) (h1 : W.cell? ⟨B, 1, none⟩ = some (.int .i64 b)) : Calls Try.prog 36 #[.slice (some ⟨B, 0, none⟩) 2 2] W fun e w' => e = .returned (.int .i64 (orL [a, b])) ∧ w' = W :=
  orInt_any [a, b] B 2 W (by show 2 ≤ 100; decide) (fun j x hj => by
    match j, hj with
    | 0, hj => simp at hj; subst hj; exact h0
    | 1, hj => simp at hj; subst hj; exact h1)
theorem or2E_any (a b : Int) (B : Nat) (W : World) (h0 : W.cell? ⟨B, 0, none⟩ = some (.int .i64 a)) (h1 : W.cell? ⟨B, 1, none⟩ = some (.int .i64 b)) : Calls Try.prog 33 #[.slice (some ⟨B, 0, none⟩) 2 2] W fun e w' => e = .returned (.int .i64 (orL [a, b])) ∧ w' = W :=
  or_any [a, b] B 2 W (by show 2 ≤ 100; decide) (fun j x hj => by
    match j, hj with
    | 0, hj => simp at hj; subst hj; exact h0
    | 1, hj => simp at hj; subst hj; exact h1)
theorem cmpM_any (a b : Lk) (w : World) :
    Calls Try.prog 35 #[.agg #[.int .i64 a.o, .int .i64 a.f, .int .i64 a.t, .bool a.a], .agg #[.int .i64 b.o, .int .i64 b.f, .int .i64 b.t, .bool b.a]] w fun r w' => r = .returned (.int .i64 (cmpK a b)) ∧ Grown w w' := by
  have HK : Aside (orL [cmpI a.o b.o, cmpI a.f b.f] = cmpK a b) := orL_cmp a b
  go_enter Try.func35, Try.ntmps35
  go_wp2
  go_region_held3 (fun w' => w'.cell? ⟨w.heap.size, 0, none⟩ = some (.int .i64 a.o) ∧ w'.cell? ⟨w.heap.size, 1, none⟩ = some (.int .i64 a.f) ∧ w'.cell? ⟨w.heap.size + 1, 0, none⟩ = some (.int .i64 b.o) ∧ w'.cell? ⟨w.heap.size + 1, 1, none⟩ = some (.int .i64 b.f)) (go_keep) (first
    | (go_at_call 37; refine (cmpI_any _ _ _).mono ?_; rintro r w' ⟨rfl, hw⟩; subst hw)
    | (go_at_call 36; refine (or2I_any _ _ _ _ (new2e (by simp)).1 (new2e (by simp)).2).mono ?_; rintro r w' ⟨rfl, hw⟩; subst hw))
  go_wp2
  go_ret
  exact ⟨ret_int HK.out, ((((Grown.refl w).alloc _).alloc _).alloc _).drewN 1⟩

def cfS (x y : Lk) : Int := cmpK x y
theorem ltS (x y : Lk) : ltOf cfS x y = decide (cmpK x y < 0) := rfl
theorem swoS : SWO (ltOf cfS) where
  irrefl x := by rw [ltS]; refine decide_eq_false ?_; rw [cmpK_lt]; omega
  trans x y z h1 h2 := by
    rw [ltS] at *
    have g1 := of_decide_eq_true h1
    have g2 := of_decide_eq_true h2
    refine decide_eq_true ?_
    rw [cmpK_lt] at *; omega
  ntrans x y z h1 h2 := by
    rw [ltS] at *
    have g1 := of_decide_eq_false h1
    have g2 := of_decide_eq_false h2
    refine decide_eq_false ?_
    rw [cmpK_lt] at *; omega
theorem cmpLaysS (blk off size : Nat) (w : World) : CmpLays Try.prog 35 #[] encK 4 cfS blk off size w :=
  fun _ _ _ _ x y => cmpM_any x y _
theorem gby_sort {α : Type} [Inhabited α] (enc : α → List Value) (k : Nat) (w : World) (blk off n : Nat) (d : Array α) (os : Array Obj) : w.grownBy (sortWorldK enc k w blk off n d os) (some blk) := by
  refine ⟨rfl, rfl, rfl, ?_, fun j hj hn => ?_⟩
  · show w.heap.size ≤ ((w.heap.modify blk _) ++ os).size
    simp
  · show ((w.heap.modify blk _) ++ os)[j]? = _
    rw [Array.getElem?_append_left (by simpa using hj), Array.getElem?_modify, if_neg (by intro e; exact hn (by rw [e]))]
theorem ltOf_false {x y : Lk} : ltOf cfS y x = false ↔ ¬ cmpK y x < 0 := by rw [ltS]; exact decide_eq_false_iff_not

/-- What a sort leaves: the same locks, rising; nothing else has turned. -/
theorem sort_any (l : List Lk) (g cap : Nat) (w : World) (hO : Own w g cap l) (hn : l.length ≤ 2000) :
    Calls Try.prog 34 #[.slice (some ⟨g, 0, none⟩) l.length cap, .func (.func 35) #[] #[]] w fun e w' =>
      e = .returned (.tuple #[]) ∧ ∃ l' : List Lk, l'.Perm l ∧ l'.Pairwise (fun a b => ¬ cmpK b a < 0) ∧ Lies w' (some ⟨g, 0, none⟩) l' ∧ w.grownBy w' (some g) := by
  have eg : ∀ args w, (callFunc 35 args).run Try.prog w = .ok (.enter 35 args) w := enters_of Try.func35 (by kernel_rfl) rfl
  have hd : l.toArray.size = l.length := by simp
  have hget : ∀ j : Nat, j < l.length → l[j]? = some (l.toArray[j]!) := fun j hj => by
    rw [getElem!_pos _ j (by rw [hd]; exact hj)]
    simp [hj]
  have hH : HoldsK encK 4 w g 0 l.toArray := by
    intro j hj
    rw [size_flatK, hd] at hj
    rw [get_flatK _ _ _ _ (by rw [hd]; exact hj), Nat.zero_add]
    refine ⟨?_, hO.frozen _⟩
    have hm : j % 4 < 4 := Nat.mod_lt _ (by decide)
    have he := hget (j / 4) (by omega)
    have hv : (encK (l.toArray[j / 4]!))[j % 4]? = some ((encK l.toArray[j / 4]!)[j % 4]!) := by
      rw [List.getElem!_eq_getElem?_getD, List.getElem?_eq_getElem (by rw [encK_len]; exact hm)]
      rfl
    have := hO.cell he hv
    rwa [show j / 4 * 4 + j % 4 = j by omega] at this
  have hlim : Lib.bitLen l.length < 4611686018427387904 := Nat.lt_of_le_of_lt (Lib.bitLen_le l.length 62 (by omega) (by omega)) (by omega)
  have hp0 := AnyQ.pdqsortCmpFunc_all Try.sortE 4 Try.isAgg24 Try.sizeOf24 encK cfS 35 #[] swoS g 0 cap l.toArray w eg (cmpLaysS g 0 _ w) ⟨fun _ => rfl, fun x v hv => flat_one (t := [x]) (by simpa [encK] using hv), hH, hO.lt⟩ (l.toArray.size + 1) 0 l.toArray.size (Lib.bitLen l.length) l.toArray w (by omega) rfl (SWK.start hH) (Nat.zero_le _) (Nat.le_refl _) (by rw [hd]; omega) hlim (Or.inl rfl)
  have hsorts := pdq_sorts (ltOf cfS) swoS l.toArray 0 l.toArray.size (Lib.bitLen l.length) true true (Nat.zero_le _) (Nat.le_refl _) (Or.inl rfl)
  generalize pdq (ltOf cfS) l.toArray 0 l.toArray.size (Lib.bitLen l.length) true true = d' at hp0 hsorts
  change Calls Try.prog 39 _ _ _ at hp0
  have hl : Calls Try.prog 40 #[.int .u64 (l.length : Int)] w fun e w' => e = .returned (.int .i64 (Lib.bitLen l.length : Nat)) ∧ w' = w := by
    have h := Any.bits_Len (SlLaysF0.n15.bits Try.bitsE) (l.length : Int) w (by omega) (by omega)
    rwa [Int.toNat_natCast] at h
  have wr : IntKind.u64.wrap (l.length : Int) = l.length := by simp [IntKind.wrap, IntKind.bits, IntKind.signed]; omega
  obtain ⟨hp, hs⟩ := hsorts
  rw [hd] at hp0 hp hs
  have HO : Aside (Own w g cap l) := hO
  have HP : Aside (PermIn 0 l.length l.toArray d' ∧ SortedIn (ltOf cfS) 0 l.length d') := ⟨hp, hs⟩
  have HH : Aside (HoldsK encK 4 w g 0 l.toArray) := hH
  have HD : Aside (l.toArray.size = l.length) := hd
  have HG : Aside (∀ j : Nat, j < l.length → l[j]? = some (l.toArray[j]!)) := hget
  clear hO hp hs hH hget hd eg
  generalize hbl : Lib.bitLen l.length = bl at *
  clear hbl
  generalize hnl : l.length = n0 at hp0 hl wr hn hlim ⊢
  have HN : Aside (l.length = n0) := hnl
  clear hnl
  go_enter Try.func34, Try.ntmps34
  go_wp2_with (first | (go_at_call 40; refine hl.mono ?_; rintro e wx ⟨rfl, hwx⟩; subst wx) | (go_at_call 39; refine hp0.mono ?_; rintro e w' ⟨rfl, n, os, rfl⟩))
  go_end0
  obtain ⟨hp, hs⟩ := HP.out
  have hd := HD.out
  have hO := HO.out
  have hH := HH.out
  refine ⟨rfl, d'.toList, ?_, ?_, ?_, gby_sort _ _ _ _ _ _ _ _⟩
  · obtain ⟨h1, _, h3⟩ := hp
    rw [hd] at h1
    have e1 : d'.extract 0 l.length = d' := by rw [← h1, Array.extract_size]
    have e2 : l.toArray.extract 0 l.length = l.toArray := by rw [← hd, Array.extract_size]
    rw [e1, e2] at h3
    exact h3
  · rw [List.pairwise_iff_getElem]
    intro i j hi hj hij
    have h1 := hp.1
    rw [hd] at h1
    simp at hi hj
    have := hs i j (Nat.zero_le _) hij (by omega)
    rw [getElem!_pos d' j hj, getElem!_pos d' i hi] at this
    simpa using ltOf_false.1 this
  · have h1 := hp.1
    have hH' := holdsK_sortWorldK encK 4 w g 0 n l.toArray d' os hO.lt hH h1
    have hsz := (gby_sort encK 4 w g 0 n d' os).size
    refine .inr ⟨g, 0, rfl, Nat.lt_of_lt_of_le hO.lt hsz, fun j e he i v hv => ?_⟩
    rw [Array.getElem?_toList] at he
    obtain ⟨hj, rfl⟩ := Array.getElem?_eq_some_iff.1 he
    have hi := encK_lt hv
    have := (HoldsK.cell hH' hj hi).1
    rw [getElem!_pos d' j hj] at this
    rw [this]
    rw [List.getElem!_eq_getElem?_getD, hv]
    rfl
end Go.Proofs.Ytampldoimpfjgab
