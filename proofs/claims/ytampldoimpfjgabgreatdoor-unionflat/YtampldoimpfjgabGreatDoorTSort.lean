/-
  slices.SortFunc over a row of the call's own, by path.Compare.
-/
import Derived.Test.YtampldoimpfjgabGreatDoorTPut
import Derived.Test.YtampldoimpfjgabGreatDoorSortLay
namespace Go.Proofs.YtampldoimpfjgabGreatDoor
open Go.RowKit PM Go.Sort
set_option linter.unusedVariables false

theorem cmpM_any (a b : Ent) (w : World) (ha : a.path.size ≤ maxLen) (hb : b.path.size ≤ maxLen) :
    Calls Tryz.prog 75 #[.agg #[.string a.path, .int .i64 a.kind, .string a.text, .bool a.opq], .agg #[.string b.path, .int .i64 b.kind, .string b.text, .bool b.opq]] w fun r w' => r = .returned (.int .i64 (cmp a.p b.p)) ∧ Grown w w' := by
  go_enter Tryz.func75, Tryz.ntmps75
  go_wp2_with (go_at_call 79; refine (compare_any _ _ _ ha hb).mono ?_; rintro r w' ⟨rfl, n, rfl⟩)
  go_ret
  exact ⟨rfl, (((Grown.refl w).alloc _).alloc _).drewN _⟩

/-- An entry whose path is no longer than a machine's. -/
abbrev EntS : Type := { e : Ent // e.path.size ≤ maxLen }
instance : Inhabited EntS := ⟨⟨default, by decide⟩⟩
def encS (x : EntS) : List Value := encE x.1
def cfS (x y : EntS) : Int := cmp x.1.p y.1.p
theorem ltS (x y : EntS) : ltOf cfS x y = decide (cmp x.1.p y.1.p < 0) := rfl
theorem swoS : SWO (ltOf cfS) where
  irrefl x := by rw [ltS, cmp_self]; rfl
  trans x y z h1 h2 := by
    rw [ltS] at *
    exact decide_eq_true (cmp_trans _ _ _ (of_decide_eq_true h1) (of_decide_eq_true h2))
  ntrans x y z h1 h2 := by
    rw [ltS] at *
    have g1 := of_decide_eq_false h1
    have g2 := of_decide_eq_false h2
    refine decide_eq_false ?_
    have a1 := cmp_anti x.1.p y.1.p
    have a2 := cmp_anti y.1.p z.1.p
    have a3 := cmp_anti x.1.p z.1.p
    by_cases e1 : cmp x.1.p y.1.p = 0
    · rw [(cmp_zero _ _).1 e1]; exact g2
    · by_cases e2 : cmp y.1.p z.1.p = 0
      · rw [← (cmp_zero _ _).1 e2]; exact g1
      · have := cmp_trans z.1.p y.1.p x.1.p (by omega) (by omega)
        omega
theorem cmpLaysS (blk off size : Nat) (w : World) : CmpLays Tryz.prog 75 #[] encS 4 cfS blk off size w :=
  fun _ _ _ _ x y => cmpM_any x.1 y.1 _ x.2 y.2
theorem gby_sort {α : Type} [Inhabited α] (enc : α → List Value) (k : Nat) (w : World) (blk off n : Nat) (d : Array α) (os : Array Obj) : w.grownBy (sortWorldK enc k w blk off n d os) (some blk) := by
  refine ⟨rfl, rfl, rfl, ?_, fun j hj hn => ?_⟩
  · show w.heap.size ≤ ((w.heap.modify blk _) ++ os).size
    simp
  · show ((w.heap.modify blk _) ++ os)[j]? = _
    rw [Array.getElem?_append_left (by simpa using hj), Array.getElem?_modify, if_neg (by intro e; exact hn (by rw [e]))]
theorem ltOf_false {x y : EntS} : ltOf cfS y x = false ↔ ¬ cmp y.1.p x.1.p < 0 := by rw [ltS]; exact decide_eq_false_iff_not

def toS (l : List Ent) (h : ∀ e ∈ l, e.path.size ≤ maxLen) : List EntS := l.attach.map fun x => ⟨x.1, h x.1 x.2⟩
theorem toS_val (l : List Ent) (h : ∀ e ∈ l, e.path.size ≤ maxLen) : (toS l h).map (·.1) = l := by
  unfold toS
  rw [List.map_map]
  exact List.attach_map_subtype_val l
theorem toS_len (l : List Ent) (h : ∀ e ∈ l, e.path.size ≤ maxLen) : (toS l h).length = l.length := by simp [toS]

/-- What a sort leaves: the same entries, rising; nothing else has turned. -/
theorem sort_any (l : List Ent) (g cap : Nat) (w : World) (hO : Own w g cap l) (hF : ∀ e ∈ l, e.path.size ≤ maxLen) (hn : l.length ≤ 80) :
    Calls Tryz.prog 91 #[.slice (some ⟨g, 0, none⟩) l.length cap, .func (.func 75) #[] #[]] w fun e w' =>
      e = .returned (.tuple #[]) ∧ ∃ l' : List Ent, l'.Perm l ∧ l'.Pairwise (fun a b => ¬ cmp b.p a.p < 0) ∧ Lies w' (some ⟨g, 0, none⟩) l' ∧ w.grownBy w' (some g) := by
  have eg : ∀ args w, (callFunc 75 args).run Tryz.prog w = .ok (.enter 75 args) w := enters_of Tryz.func75 (by kernel_rfl) rfl
  have hd : (toS l hF).toArray.size = l.length := by simp [toS_len]
  have hget : ∀ j : Nat, j < l.length → l[j]? = some ((toS l hF).toArray[j]!).1 := fun j hj => by
    have h1 : (toS l hF)[j]? = some ((toS l hF).toArray[j]!) := by
      rw [getElem!_pos _ j (by rw [hd]; exact hj)]
      simp [toS_len, hj]
    have := congrArg (·[j]?) (toS_val l hF)
    simp only [List.getElem?_map, h1] at this
    exact this.symm
  have hH : HoldsK encS 4 w g 0 (toS l hF).toArray := by
    intro j hj
    rw [size_flatK, hd] at hj
    rw [get_flatK _ _ _ _ (by rw [hd]; exact hj), Nat.zero_add]
    refine ⟨?_, hO.frozen _⟩
    have hm : j % 4 < 4 := Nat.mod_lt _ (by decide)
    have he := hget (j / 4) (by omega)
    have hv : (encE ((toS l hF).toArray[j / 4]!).1)[j % 4]? = some ((encS (toS l hF).toArray[j / 4]!)[j % 4]!) := by
      rw [show encS (toS l hF).toArray[j / 4]! = encE ((toS l hF).toArray[j / 4]!).1 from rfl, List.getElem!_eq_getElem?_getD, List.getElem?_eq_getElem (by rw [encE_len]; exact hm)]
      rfl
    have := hO.cell he hv
    rwa [show j / 4 * 4 + j % 4 = j by omega] at this
  have hlim : Lib.bitLen l.length < 4611686018427387904 := Nat.lt_of_le_of_lt (Lib.bitLen_le l.length 62 (by omega) (by omega)) (by omega)
  have hp0 := AnyQ.pdqsortCmpFunc_all Tryz.sortE 4 Tryz.isAgg28 Tryz.sizeOf28 encS cfS 75 #[] swoS g 0 cap (toS l hF).toArray w eg (cmpLaysS g 0 _ w) ⟨fun _ => rfl, fun x v hv => flat_one (t := [x.1]) (by simpa [encS] using hv), hH, hO.lt⟩ ((toS l hF).toArray.size + 1) 0 (toS l hF).toArray.size (Lib.bitLen l.length) (toS l hF).toArray w (by omega) rfl (SWK.start hH) (Nat.zero_le _) (Nat.le_refl _) (by rw [hd]; omega) hlim (Or.inl rfl)
  have hsorts := pdq_sorts (ltOf cfS) swoS (toS l hF).toArray 0 (toS l hF).toArray.size (Lib.bitLen l.length) true true (Nat.zero_le _) (Nat.le_refl _) (Or.inl rfl)
  generalize pdq (ltOf cfS) (toS l hF).toArray 0 (toS l hF).toArray.size (Lib.bitLen l.length) true true = d' at hp0 hsorts
  change Calls Tryz.prog 122 _ _ _ at hp0
  have hl : Calls Tryz.prog 123 #[.int .u64 (l.length : Int)] w fun e w' => e = .returned (.int .i64 (Lib.bitLen l.length : Nat)) ∧ w' = w := by
    have h := Any.bits_Len (SlLaysF0.n15.bits Tryz.bitsE) (l.length : Int) w (by omega) (by omega)
    rwa [Int.toNat_natCast] at h
  have wr : IntKind.u64.wrap (l.length : Int) = l.length := by simp [IntKind.wrap, IntKind.bits, IntKind.signed]; omega
  obtain ⟨hp, hs⟩ := hsorts
  rw [hd] at hp0 hp hs
  have HO : Aside (Own w g cap l) := hO
  have HP : Aside (PermIn 0 l.length (toS l hF).toArray d' ∧ SortedIn (ltOf cfS) 0 l.length d') := ⟨hp, hs⟩
  have HH : Aside (HoldsK encS 4 w g 0 (toS l hF).toArray) := hH
  have HD : Aside ((toS l hF).toArray.size = l.length) := hd
  have HG : Aside (∀ j : Nat, j < l.length → l[j]? = some ((toS l hF).toArray[j]!).1) := hget
  clear hO hp hs hH hget hd eg
  generalize hbl : Lib.bitLen l.length = bl at *
  clear hbl
  generalize hnl : l.length = n0 at hp0 hl wr hn hlim ⊢
  have HN : Aside (l.length = n0) := hnl
  clear hnl
  go_enter Tryz.func91, Tryz.ntmps91
  go_wp2_with (first | (go_at_call 123; refine hl.mono ?_; rintro e wx ⟨rfl, hwx⟩; subst wx) | (go_at_call 122; refine hp0.mono ?_; rintro e w' ⟨rfl, n, os, rfl⟩))
  go_end0
  obtain ⟨hp, hs⟩ := HP.out
  have hd := HD.out
  have hO := HO.out
  have hH := HH.out
  refine ⟨rfl, d'.toList.map (·.1), ?_, ?_, ?_, gby_sort _ _ _ _ _ _ _ _⟩
  · obtain ⟨h1, _, h3⟩ := hp
    rw [hd] at h1
    have e1 : d'.extract 0 l.length = d' := by rw [← h1, Array.extract_size]
    have e2 : (toS l hF).toArray.extract 0 l.length = (toS l hF).toArray := by rw [← hd, Array.extract_size]
    rw [e1, e2] at h3
    have := h3.map (·.1)
    simp only [toS_val] at this
    exact this
  · rw [List.pairwise_map, List.pairwise_iff_getElem]
    intro i j hi hj hij
    have h1 := hp.1
    rw [hd] at h1
    simp at hi hj
    have := hs i j (Nat.zero_le _) hij (by omega)
    rw [getElem!_pos d' j hj, getElem!_pos d' i hi] at this
    simpa using ltOf_false.1 this
  · have h1 := hp.1
    have hH' := holdsK_sortWorldK encS 4 w g 0 n (toS l hF).toArray d' os hO.lt hH h1
    have hsz := (gby_sort encS 4 w g 0 n d' os).size
    refine .inr ⟨g, 0, rfl, Nat.lt_of_lt_of_le hO.lt hsz, fun j e he i v hv => ?_⟩
    rw [List.getElem?_map, Array.getElem?_toList] at he
    obtain ⟨x, hx, rfl⟩ := Option.map_eq_some_iff.1 he
    obtain ⟨hj, rfl⟩ := Array.getElem?_eq_some_iff.1 hx
    have hi := encE_lt hv
    have := (HoldsK.cell hH' hj hi).1
    rw [getElem!_pos d' j hj] at this
    rw [this]
    rw [show encS d'[j] = encE d'[j].1 from rfl, List.getElem!_eq_getElem?_getD, hv]
    rfl
end Go.Proofs.YtampldoimpfjgabGreatDoor
