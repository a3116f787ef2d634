/-
  The document's own MoveUnion, way by way.
-/
import Derived.Test.YtampldoimpfjgaaGreatDoorGO
namespace Go.Proofs.YtampldoimpfjgaaGreatDoor
open Go.RowKit PM Go.Sort
set_option linter.unusedVariables false

abbrev RMv (w : World) (frm to : ByteArray) (sl : List Ent) (ae : Int) : Prop := ∀ W p c n, n = sl.length → Below w.heap.size w W → Lies W p sl → n ≤ c → (p = none → c = 0) → Calls Tryz.prog 45 #[.slice p n c, .string frm, .string to] W fun r w' => (∃ v, r = .returned (.tuple #[v, .int .i64 ae])) ∧ Below W.heap.size W w'
abbrev RGt (w : World) (to : ByteArray) (sl : List Ent) (xp : ByteArray) (xk : Int) (xt : ByteArray) (xo bb : Bool) : Prop := ∀ W p c n, n = sl.length → Below w.heap.size w W → Lies W p sl → Calls Tryz.prog 26 #[.slice p n c, .string to] W fun r w' => r = .returned (.tuple #[.agg #[.string xp, .int .i64 xk, .string xt, .bool xo], .bool bb]) ∧ Below W.heap.size W w'
abbrev RDr2 (w : World) (own1 B : List Ent) (q : ByteArray) (own' : List Ent) : Prop := ∀ W p1 n1 c1 pb nb cb, n1 = own1.length → nb = B.length → Below w.heap.size w W → Lies W p1 own1 → Lies W pb B → Calls Tryz.prog 40 #[.slice p1 n1 c1, .slice pb nb cb, .string q] W (RowsPost own' W)
/-- What the upper layer has come to, so many entries on. -/
def mvK (frm to : ByteArray) (o0 sl : List Ent) (j : Nat) : List Ent := movesL frm to o0 ((sl.take j).filter (inM frm.data.toList))
abbrev RSj (w : World) (frm to : ByteArray) (o0 sl : List Ent) : Prop := ∀ j y, sl[j]? = some y → inM frm.data.toList y = true → ∀ W base v, Rows W base v (mvK frm to o0 sl j) → Calls Tryz.prog 34 #[v, .agg #[.string (to ++ y.path.extract frm.size y.path.size), .int .i64 y.kind, .string y.text, .bool y.opq]] W (RowsPost (mvK frm to o0 sl (j + 1)) W)
theorem mvK_zero (frm to : ByteArray) (o0 sl : List Ent) : mvK frm to o0 sl 0 = o0 := by simp [mvK, movesL]
theorem mvK_step {frm to : ByteArray} {o0 sl : List Ent} {j : Nat} {y : Ent} (hy : sl[j]? = some y) : mvK frm to o0 sl (j + 1) = if inM frm.data.toList y = true then haveL (mvK frm to o0 sl j) (mvE frm to y) else mvK frm to o0 sl j := by
  obtain ⟨h1, h2⟩ := List.getElem?_eq_some_iff.1 hy
  unfold mvK movesL
  rw [List.take_succ_eq_append_getElem h1, h2, List.filter_append]
  by_cases h : inM frm.data.toList y = true
  · rw [if_pos h]; simp [h]
  · rw [if_neg h]; simp [h]
theorem mvK_all {frm to : ByteArray} {o0 sl : List Ent} {j : Nat} (hj : sl.length ≤ j) : mvK frm to o0 sl j = movesL frm to o0 (sl.filter (inM frm.data.toList)) := by
  unfold mvK; rw [List.take_of_length_le hj]
theorem mv_sm {frm to : ByteArray} {o0 sl : List Ent} (h : MvOK sl frm to) (h0 : SM o0) (hl : o0.length ≤ 300) : ∀ j, j ≤ sl.length → SM (mvK frm to o0 sl j) ∧ (mvK frm to o0 sl j).length ≤ 300 + 82 * j := by
  intro j
  induction j with
  | zero => intro _; rw [mvK_zero]; exact ⟨h0, by omega⟩
  | succ j ih =>
    intro hj
    obtain ⟨h1, h2⟩ := ih (by omega)
    obtain ⟨y, hy⟩ : ∃ y, sl[j]? = some y := ⟨_, List.getElem?_eq_getElem (by omega)⟩
    rw [mvK_step hy]
    split
    · rename_i hin
      have hm := List.mem_of_getElem? hy
      have hcl := h.cl y hm (h.notTo hin) hin
      have hcn := clean_len hcl
      have hpl := path_len (mvE frm to y)
      refine ⟨SM.have _ (Nat.le_refl _) h1 (clean_ne hcl) (by omega), ?_⟩
      have := have_len (e := mvE frm to y) h1.sorted
      omega
    · exact ⟨h1, by omega⟩
set_option maxHeartbeats 1000000 in
set_option maxRecDepth 100000 in
theorem mu_1 (h0 : Nat) (a : Option Addr) (k c : Nat) (pl : Option Addr) (n cl : Nat) (frm to : ByteArray) (w : World) (sl : List Ent) (er : Int) (he : ¬ er = 0) (hsn : RSn w (.agg #[.slice a k c, .slice pl n cl]) er sl) :
    Calls Tryz.prog 17 #[.agg #[.slice a k c, .slice pl n cl], .string frm, .string to] w (ErrU er w) := by
  have I : Below (w.heap.size + 2) ((w.alloc (.cells #[.slice a k c, .slice pl n cl] 26)).alloc (.cells #[.slice none 0 0, .slice none 0 0] 26)) ((w.alloc (.cells #[.slice a k c, .slice pl n cl] 26)).alloc (.cells #[.slice none 0 0, .slice none 0 0] 26)) := Below.refl _ _
  go_enter Tryz.func17, Tryz.ntmps17
  go_wp2_with (first
    | (go_at_call 5; refine (hsn _ (down2 I)).mono ?_; clear hsn; rintro rr w1 ⟨p1, c1, rfl, hL1, hc1, hn1, hN1⟩; replace I := up2 I hN1; have HL1 : Aside (Lies w1 p1 sl) := hL1; clear hL1 hN1; obtain ⟨sn, hsn2⟩ : ∃ sn, sn = sl.length := ⟨_, rfl⟩; have HSN : Aside (sn = sl.length) := hsn2; rw [← hsn2] at hc1 ⊢; clear hsn2; obtain ⟨⟨u0, u1⟩, ⟨r0, r1⟩, ⟨g0, g1⟩, hlt⟩ := box2f I))
  refine bodyPost_ret (v := .tuple #[.agg #[.slice none 0 0, .slice none 0 0], .int .i64 er]) (by simp [results, Tryz.results17, go_sem, r0, r1]) rfl ?_
  exact ⟨rfl, store2 I _ _⟩
set_option maxHeartbeats 1000000 in
set_option maxRecDepth 100000 in
theorem mu_2 (h0 : Nat) (a : Option Addr) (k c : Nat) (pl : Option Addr) (n cl : Nat) (frm to : ByteArray) (w : World) (sl : List Ent) (hsn : RSn w (.agg #[.slice a k c, .slice pl n cl]) 0 sl) (ae : Int) (ha : ¬ ae = 0) (hpt : RMv w frm to sl ae) :
    Calls Tryz.prog 17 #[.agg #[.slice a k c, .slice pl n cl], .string frm, .string to] w (ErrU ae w) := by
  have I : Below (w.heap.size + 2) ((w.alloc (.cells #[.slice a k c, .slice pl n cl] 26)).alloc (.cells #[.slice none 0 0, .slice none 0 0] 26)) ((w.alloc (.cells #[.slice a k c, .slice pl n cl] 26)).alloc (.cells #[.slice none 0 0, .slice none 0 0] 26)) := Below.refl _ _
  go_enter Tryz.func17, Tryz.ntmps17
  go_wp2_with (first
    | (go_at_call 5; refine (hsn _ (down2 I)).mono ?_; clear hsn; rintro rr w1 ⟨p1, c1, rfl, hL1, hc1, hn1, hN1⟩; replace I := up2 I hN1; have HL1 : Aside (Lies w1 p1 sl) := hL1; clear hL1 hN1; obtain ⟨sn, hsn2⟩ : ∃ sn, sn = sl.length := ⟨_, rfl⟩; have HSN : Aside (sn = sl.length) := hsn2; rw [← hsn2] at hc1 ⊢; clear hsn2; obtain ⟨⟨u0, u1⟩, ⟨r0, r1⟩, ⟨g0, g1⟩, hlt⟩ := box2f I)
    | (go_at_call 45; refine (hpt _ p1 c1 sn HSN.out (down2 I) HL1.out hc1 hn1).mono ?_; clear hpt; rintro rr w2 ⟨⟨v2, rfl⟩, hN2⟩; have HL2 : Aside (Lies w2 p1 sl) := HL1.out.kept hN2; replace I := up2 I hN2; clear hN2; clear u0 u1 r0 r1 g0 g1 hlt; obtain ⟨⟨u0, u1⟩, ⟨r0, r1⟩, ⟨g0, g1⟩, hlt⟩ := box2f I))
  refine bodyPost_ret (v := .tuple #[.agg #[.slice none 0 0, .slice none 0 0], .int .i64 ae]) (by simp [results, Tryz.results17, go_sem, r0, r1]) rfl ?_
  exact ⟨rfl, store2 I _ _⟩
set_option maxHeartbeats 1000000 in
set_option maxRecDepth 100000 in
theorem mu_3 (h0 : Nat) (a : Option Addr) (k c : Nat) (pl : Option Addr) (n cl : Nat) (frm to : ByteArray) (w : World) (sl : List Ent) (hsn : RSn w (.agg #[.slice a k c, .slice pl n cl]) 0 sl) (hpt : RMv w frm to sl 0) (up : List Ent) (hL : Lies w a up) (hk : k = up.length) (hfa : up = [] ∨ ∀ b off s, a = some ⟨b, off, s⟩ → b < h0) (hft : frm.data.toList = to.data.toList) :
    Calls Tryz.prog 17 #[.agg #[.slice a k c, .slice pl n cl], .string frm, .string to] w (OkU h0 up pl n cl w) := by
  have I : Below (w.heap.size + 2) ((w.alloc (.cells #[.slice a k c, .slice pl n cl] 26)).alloc (.cells #[.slice none 0 0, .slice none 0 0] 26)) ((w.alloc (.cells #[.slice a k c, .slice pl n cl] 26)).alloc (.cells #[.slice none 0 0, .slice none 0 0] 26)) := Below.refl _ _
  obtain ⟨f1, f2⟩ := eq_parts hft
  have HUP : Aside (Lies w a up ∧ k = up.length) := ⟨hL, hk⟩
  clear hL hk hft
  go_enter Tryz.func17, Tryz.ntmps17
  go_wp2_with (first
    | (go_at_call 5; refine (hsn _ (down2 I)).mono ?_; clear hsn; rintro rr w1 ⟨p1, c1, rfl, hL1, hc1, hn1, hN1⟩; replace I := up2 I hN1; have HL1 : Aside (Lies w1 p1 sl) := hL1; clear hL1 hN1; obtain ⟨sn, hsn2⟩ : ∃ sn, sn = sl.length := ⟨_, rfl⟩; have HSN : Aside (sn = sl.length) := hsn2; rw [← hsn2] at hc1 ⊢; clear hsn2; obtain ⟨⟨u0, u1⟩, ⟨r0, r1⟩, ⟨g0, g1⟩, hlt⟩ := box2f I)
    | (go_at_call 45; refine (hpt _ p1 c1 sn HSN.out (down2 I) HL1.out hc1 hn1).mono ?_; clear hpt; rintro rr w2 ⟨⟨v2, rfl⟩, hN2⟩; have HL2 : Aside (Lies w2 p1 sl) := HL1.out.kept hN2; replace I := up2 I hN2; clear hN2; clear u0 u1 r0 r1 g0 g1 hlt; obtain ⟨⟨u0, u1⟩, ⟨r0, r1⟩, ⟨g0, g1⟩, hlt⟩ := box2f I))
  refine bodyPost_ret (v := .tuple #[.agg #[.slice a k c, .slice pl n cl], .int .i64 0]) (by simp [results, Tryz.results17, go_sem, r0, r1]) rfl ?_
  exact ⟨a, c, by rw [HUP.out.2], HUP.out.1.kept (store2 I _ _), hfa.imp id (fun h b off s e => .inl (h b off s e)), store2 I _ _⟩
set_option maxHeartbeats 1000000 in
set_option maxRecDepth 100000 in
theorem mu_t4 (h0 : Nat) (a : Option Addr) (k c : Nat) (pl : Option Addr) (n cl : Nat) (frm to : ByteArray) (w : World) (sl : List Ent) (hsn : RSn w (.agg #[.slice a k c, .slice pl n cl]) 0 sl) (hpt : RMv w frm to sl 0) (B own1 o0 : List Ent) (hft : ¬ frm.data.toList = to.data.toList) (hmg : RMg w pl n cl B) (xp xt : ByteArray) (xk : Int) (xo : Bool) (hgt : RGt w to sl xp xk xt xo true) (hd1 : RDr w a k c B to own1) (hd2 : RDr2 w own1 B frm o0) (hsj : RSj w frm to o0 sl) (hr : Right false sl) (hfs : frm.size ≤ 1048576) (hts : to.size ≤ 1048576) (h80 : 80 < (mvK frm to o0 sl sl.length).length) :
    Calls Tryz.prog 17 #[.agg #[.slice a k c, .slice pl n cl], .string frm, .string to] w (ErrU 5 w) := by
  have I : Below (w.heap.size + 2) ((w.alloc (.cells #[.slice a k c, .slice pl n cl] 26)).alloc (.cells #[.slice none 0 0, .slice none 0 0] 26)) ((w.alloc (.cells #[.slice a k c, .slice pl n cl] 26)).alloc (.cells #[.slice none 0 0, .slice none 0 0] 26)) := Below.refl _ _
  obtain ⟨f1, f2⟩ := ne_parts hft
  have HR : Aside (Right false sl) := hr
  have HP80 : Aside (∀ y ∈ sl, y.path.size ≤ 80) := fun y hy => clean_size (hr.clean hy)
  have HSJ : Aside (RSj w frm to o0 sl) := hsj
  have hsl80 : sl.length ≤ 80 := hr.len
  have H80 : Aside (80 < (mvK frm to o0 sl sl.length).length) := h80
  clear hft hr hsj h80
  obtain ⟨o1n, ho1n⟩ : ∃ o1n, o1n = own1.length := ⟨_, rfl⟩
  have HO1 : Aside (o1n = own1.length) := ho1n
  clear ho1n
  obtain ⟨o0n, ho0n⟩ : ∃ o0n, o0n = o0.length := ⟨_, rfl⟩
  have HO0 : Aside (o0n = o0.length) := ho0n
  clear ho0n
  go_enter Tryz.func17, Tryz.ntmps17
  go_wp2_with (first
    | (go_at_call 5; refine (hsn _ (down2 I)).mono ?_; clear hsn; rintro rr w1 ⟨p1, c1, rfl, hL1, hc1, hn1, hN1⟩; replace I := up2 I hN1; have HL1 : Aside (Lies w1 p1 sl) := hL1; clear hL1 hN1; obtain ⟨sn, hsn2⟩ : ∃ sn, sn = sl.length := ⟨_, rfl⟩; have HSN : Aside (sn = sl.length) := hsn2; rw [← hsn2] at hc1 ⊢; clear hsn2; obtain ⟨⟨u0, u1⟩, ⟨r0, r1⟩, ⟨g0, g1⟩, hlt⟩ := box2f I)
    | (go_at_call 45; refine (hpt _ p1 c1 sn HSN.out (down2 I) HL1.out hc1 hn1).mono ?_; clear hpt; rintro rr w2 ⟨⟨v2, rfl⟩, hN2⟩; have HL2 : Aside (Lies w2 p1 sl) := HL1.out.kept hN2; replace I := up2 I hN2; clear hN2; clear u0 u1 r0 r1 g0 g1 hlt; obtain ⟨⟨u0, u1⟩, ⟨r0, r1⟩, ⟨g0, g1⟩, hlt⟩ := box2f I)
    | (go_at_call 19; obtain ⟨me, hme⟩ := hmg _ (down2 I); refine hme.mono ?_; clear hme hmg; rintro rr w3 ⟨p3, c3, rfl, hL3, hc3, hn3, hN3⟩; have HL23 : Aside (Lies w3 p1 sl) := HL2.out.kept hN3; replace I := up2 I hN3; have HL3 : Aside (Lies w3 p3 B) := hL3; clear hL3 hN3 hn3 hc3; obtain ⟨bn, hbn⟩ : ∃ bn, bn = B.length := ⟨_, rfl⟩; have HBN : Aside (bn = B.length) := hbn; rw [← hbn]; clear hbn; clear u0 u1 r0 r1 g0 g1 hlt; obtain ⟨⟨u0, u1⟩, ⟨r0, r1⟩, ⟨g0, g1⟩, hlt⟩ := box2f I)
    | (go_at_call 26; refine (hgt _ p1 c1 sn HSN.out (down2 I) HL23.out).mono ?_; clear hgt; rintro rr w4 ⟨rfl, hN4⟩; have hA4 : Below w3.heap.size w3 (w4.alloc (.cells #[.string xp, .int .i64 xk, .string xt, .bool xo] 28)) := Below.onto hN4 ((Grown.refl w4).alloc _).below; have HL4 : Aside (Lies (w4.alloc (.cells #[.string xp, .int .i64 xk, .string xt, .bool xo] 28)) p1 sl ∧ Lies (w4.alloc (.cells #[.string xp, .int .i64 xk, .string xt, .bool xo] 28)) p3 B) := ⟨HL23.out.kept hA4, HL3.out.kept hA4⟩; replace I := up2 I hA4; clear hN4 hA4; clear u0 u1 r0 r1 g0 g1 hlt; obtain ⟨⟨u0, u1⟩, ⟨r0, r1⟩, ⟨g0, g1⟩, hlt⟩ := box2f I)
    | (go_at_call 40; refine (hd1 _ p3 bn c3 HBN.out (down2 I) HL4.out.2).mono ?_; clear hd1; intro rr w5 hP5; obtain ⟨p5, c5, rfl, HL5, HB5⟩ := rows_parts HO1.out hP5; clear hP5; have HL55 : Aside (Lies w5 p1 sl ∧ Lies w5 p3 B) := ⟨HL4.out.1.kept HB5.out, HL4.out.2.kept HB5.out⟩; replace I := up2 I HB5.out; clear u0 u1 r0 r1 g0 g1 hlt; obtain ⟨⟨u0, u1⟩, ⟨r0, r1⟩, ⟨g0, g1⟩, hlt⟩ := box2f I)
    | (go_at_call 40; refine (hd2 _ p5 o1n c5 p3 bn c3 HO1.out HBN.out (down2 I) HL5.out.1 HL55.out.2).mono ?_; clear hd2; rintro rr w6 ⟨⟨v6, rfl, hR6⟩, hN6⟩; have HR6 : Aside (Rows w6 (w.heap.size + 2) v6 (mvK frm to o0 sl 0)) := (by show Rows _ _ _ _; rw [mvK_zero]; exact hR6.mono (by omega)); have HL6 : Aside (Lies w6 p1 sl) := HL55.out.1.kept hN6; have HI : Aside (Below (w.heap.size + 2) ((w.alloc (.cells #[.slice a k c, .slice pl n cl] 26)).alloc (.cells #[.slice none 0 0, .slice none 0 0] 26)) w6) := up2 I hN6; clear hN6 hR6 I; clear u0 u1 r0 r1 g0 g1 hlt))
  obtain ⟨W6, rfl⟩ : ∃ W6, W6 = w6 := ⟨_, rfl⟩
  go_loopg [14, 68] sn (fun gg s14 s68 wr => ∃ j : Nat, j ≤ sn ∧ sn - j ≤ gg ∧ s68 = .int .i64 j ∧ Aside (Rows wr (w.heap.size + 2) s14 (mvK frm to o0 sl j)) ∧ Aside (Below (w.heap.size + 2) ((w.alloc (.cells #[.slice a k c, .slice pl n cl] 26)).alloc (.cells #[.slice none 0 0, .slice none 0 0] 26)) wr) ∧ Aside (Below W6.heap.size W6 wr))
  case atStart => exact ⟨0, Nat.zero_le _, by omega, rfl, HR6.out, HI.out, Below.refl _ _⟩
  case round =>
    obtain ⟨j, hj, hgg, rfl, ST, J, BW⟩ := hrel
    have hsn80 : sn ≤ 80 := by have := HSN.out; omega
    obtain ⟨⟨u0, u1⟩, ⟨r0, r1⟩, ⟨g0, g1⟩, hlt2⟩ := box2f J.out
    by_cases hlt : j < sn
    · have hltz : (j : Int) < (sn : Int) := by omega
      obtain ⟨y, hy⟩ : ∃ y, sl[j]? = some y := ⟨_, List.getElem?_eq_getElem (by have := HSN.out; omega)⟩
      have HY : Aside (sl[j]? = some y) := hy
      have hy80 := HP80.out y (List.mem_of_getElem? hy)
      have HST := mvK_step (frm := frm) (to := to) (o0 := o0) hy
      rcases HL6.out with h0 | ⟨b, off, rfl, hb, hc⟩
      · rw [h0] at hy; simp at hy
      obtain ⟨c0, c1, c2, c3⟩ := Lies.cells hc hb BW.out hy
      clear hc hy u0 u1 r0 r1 g0 g1
      have hws : W6.heap.size ≤ wr.heap.size := BW.out.size
      have hbw : b < wr.heap.size := by omega
      have hbn2 : b ≠ wr.heap.size := by omega
      have hun := fun W => refUnder_any y.path frm W (by unfold maxLen; omega) (by unfold maxLen; omega)
      obtain ⟨pv, cv, rfl, _, _, _⟩ := ST.out.form
      generalize hlv : (mvK frm to o0 sl j).length = lv at ST
      have HLV : Aside ((mvK frm to o0 sl j).length = lv) := hlv
      clear hlv
      cases hin : inM frm.data.toList y with
      | false =>
        have hp1 : ¬ y.path.data.toList = frm.data.toList := fun e => by
          unfold inM at hin; rw [show y.p = y.path.data.toList from rfl, e] at hin; simp at hin
        have hp2 : under y.path.data.toList frm.data.toList = false := by
          unfold inM at hin; exact (Bool.or_eq_false_iff.1 hin).2
        obtain ⟨e1, e2⟩ := ne_parts hp1
        rw [hp2] at hun
        clear hp1 hp2
        have HS : Aside (mvK frm to o0 sl (j + 1) = mvK frm to o0 sl j) := by show _ = _; rw [HST, hin]; rfl
        clear HST
        go_wp2_with (go_at_call 46; refine (hun _).mono ?_; rintro rr wx ⟨rfl, hwx⟩; subst wx)
        go_roundg (sn - (j + 1))
        case measure => omega
        case rel => exact ⟨j + 1, by omega, by omega, by go_num, by rw [HS.out]; exact ST.out.below ((Grown.refl wr).alloc _).below, up2 J.out ((Grown.refl wr).alloc _).below, Below.onto BW.out ((Grown.refl wr).alloc _).below⟩
      | true =>
        have hsz := inM_size hin
        have hszz : (frm.size : Int) ≤ (y.path.size : Int) := by omega
        have hways : (y.path.data.toList = frm.data.toList) ∨ (¬ y.path.data.toList = frm.data.toList ∧ under y.path.data.toList frm.data.toList = true) := by
          unfold inM at hin
          by_cases h : y.path.data.toList = frm.data.toList
          · exact .inl h
          · refine .inr ⟨h, ?_⟩
            rcases Bool.or_eq_true_iff.1 hin with g | g
            · exact absurd (of_decide_eq_true g) h
            · exact g
        have hsu := fun W v h => HSJ.out j y HY.out hin W (w.heap.size + 2) v h
        clear HST
        obtain ⟨new, hnew⟩ : ∃ new, to ++ y.path.extract frm.size y.path.size = new := ⟨_, rfl⟩
        rw [hnew] at hsu
        have HX : Aside (Below wr.heap.size wr (wr.alloc (.cells #[.string new, .int .i64 y.kind, .string y.text, .bool y.opq] 28))) := ((Grown.refl wr).alloc _).below
        rcases hways with h1 | ⟨h1, h2⟩
        · obtain ⟨e1, e2⟩ := eq_parts h1
          clear h1 hun
          go_wp2_with (go_at_call 34; refine (hsu _ _ (ST.out.below HX.out)).mono ?_; clear hsu; rintro rr w8 ⟨⟨v8, rfl, hR8⟩, hN8⟩; have HR8 : Aside (Rows w8 (w.heap.size + 2) v8 (mvK frm to o0 sl (j + 1))) := hR8.mono (by have := (Below.onto BW.out HX.out).size; have := J.out.size; simp at *; omega); have HB8 : Aside (Below wr.heap.size wr w8) := Below.onto HX.out hN8; clear hR8 hN8)
          go_roundg (sn - (j + 1))
          case measure => omega
          case rel => exact ⟨j + 1, by omega, by omega, by go_num, HR8.out, up2 J.out HB8.out, Below.onto BW.out HB8.out⟩
        · obtain ⟨e1, e2⟩ := ne_parts h1
          rw [h2] at hun
          clear h1 h2
          go_wp2_with (first
            | (go_at_call 46; refine (hun _).mono ?_; clear hun; rintro rr wx ⟨rfl, hwx⟩; subst wx)
            | (go_at_call 34; refine (hsu _ _ (ST.out.below HX.out)).mono ?_; clear hsu; rintro rr w8 ⟨⟨v8, rfl, hR8⟩, hN8⟩; have HR8 : Aside (Rows w8 (w.heap.size + 2) v8 (mvK frm to o0 sl (j + 1))) := hR8.mono (by have := (Below.onto BW.out HX.out).size; have := J.out.size; simp at *; omega); have HB8 : Aside (Below wr.heap.size wr w8) := Below.onto HX.out hN8; clear hR8 hN8))
          go_roundg (sn - (j + 1))
          case measure => omega
          case rel => exact ⟨j + 1, by omega, by omega, by go_num, HR8.out, up2 J.out HB8.out, Below.onto BW.out HB8.out⟩
    · have hltz : ¬ (j : Int) < (sn : Int) := by omega
      obtain ⟨pv, cv, rfl, hLv, hfar⟩ := rows_from ST.out
      have HLv : Aside (Lies wr pv (mvK frm to o0 sl sl.length) ∧ ∀ b off s, pv = some ⟨b, off, s⟩ → w.heap.size + 2 ≤ b) := by
        rw [show j = sl.length by have := HSN.out; omega] at hLv
        exact ⟨hLv, hfar⟩
      have hj2 : j = sl.length := by have := HSN.out; omega
      generalize hlv : (mvK frm to o0 sl j).length = lv at ST
      have HLV : Aside (lv = (mvK frm to o0 sl sl.length).length) := by show _ = _; rw [← hlv, hj2]
      have h80v : 80 < lv := by rw [HLV.out]; exact H80.out
      clear hlv hLv hfar ST hj2
      go_wp2_with (go_at_call 33; refine (refDone_many a k c pl n cl pv lv cv _ h80v).mono ?_; rintro rr w9 ⟨rfl, hN9⟩; have HL9 : Aside (Lies w9 pv (mvK frm to o0 sl sl.length)) := HLv.out.1.kept hN9; have I := up2 J.out hN9; clear hN9 u0 u1 r0 r1 g0 g1; obtain ⟨⟨u0, u1⟩, ⟨r0, r1⟩, ⟨g0, g1⟩, hlt⟩ := box2f I)
      refine bodyPost_ret (v := .tuple #[.agg #[.slice none 0 0, .slice none 0 0], .int .i64 5]) (by simp [results, Tryz.results17, go_sem, r0, r1]) rfl ?_
      exact ⟨rfl, store2 I _ _⟩
set_option maxHeartbeats 1000000 in
set_option maxRecDepth 100000 in
theorem mu_t5 (h0 : Nat) (a : Option Addr) (k c : Nat) (pl : Option Addr) (n cl : Nat) (frm to : ByteArray) (w : World) (sl : List Ent) (hsn : RSn w (.agg #[.slice a k c, .slice pl n cl]) 0 sl) (hpt : RMv w frm to sl 0) (B own1 o0 : List Ent) (hft : ¬ frm.data.toList = to.data.toList) (hmg : RMg w pl n cl B) (xp xt : ByteArray) (xk : Int) (xo : Bool) (hgt : RGt w to sl xp xk xt xo true) (hd1 : RDr w a k c B to own1) (hd2 : RDr2 w own1 B frm o0) (hsj : RSj w frm to o0 sl) (hr : Right false sl) (hfs : frm.size ≤ 1048576) (hts : to.size ≤ 1048576) (h80 : (mvK frm to o0 sl sl.length).length ≤ 80) :
    Calls Tryz.prog 17 #[.agg #[.slice a k c, .slice pl n cl], .string frm, .string to] w (OkU h0 (mvK frm to o0 sl sl.length) pl n cl w) := by
  have I : Below (w.heap.size + 2) ((w.alloc (.cells #[.slice a k c, .slice pl n cl] 26)).alloc (.cells #[.slice none 0 0, .slice none 0 0] 26)) ((w.alloc (.cells #[.slice a k c, .slice pl n cl] 26)).alloc (.cells #[.slice none 0 0, .slice none 0 0] 26)) := Below.refl _ _
  obtain ⟨f1, f2⟩ := ne_parts hft
  have HR : Aside (Right false sl) := hr
  have HP80 : Aside (∀ y ∈ sl, y.path.size ≤ 80) := fun y hy => clean_size (hr.clean hy)
  have HSJ : Aside (RSj w frm to o0 sl) := hsj
  have hsl80 : sl.length ≤ 80 := hr.len
  have H80 : Aside ((mvK frm to o0 sl sl.length).length ≤ 80) := h80
  clear hft hr hsj h80
  obtain ⟨o1n, ho1n⟩ : ∃ o1n, o1n = own1.length := ⟨_, rfl⟩
  have HO1 : Aside (o1n = own1.length) := ho1n
  clear ho1n
  obtain ⟨o0n, ho0n⟩ : ∃ o0n, o0n = o0.length := ⟨_, rfl⟩
  have HO0 : Aside (o0n = o0.length) := ho0n
  clear ho0n
  go_enter Tryz.func17, Tryz.ntmps17
  go_wp2_with (first
    | (go_at_call 5; refine (hsn _ (down2 I)).mono ?_; clear hsn; rintro rr w1 ⟨p1, c1, rfl, hL1, hc1, hn1, hN1⟩; replace I := up2 I hN1; have HL1 : Aside (Lies w1 p1 sl) := hL1; clear hL1 hN1; obtain ⟨sn, hsn2⟩ : ∃ sn, sn = sl.length := ⟨_, rfl⟩; have HSN : Aside (sn = sl.length) := hsn2; rw [← hsn2] at hc1 ⊢; clear hsn2; obtain ⟨⟨u0, u1⟩, ⟨r0, r1⟩, ⟨g0, g1⟩, hlt⟩ := box2f I)
    | (go_at_call 45; refine (hpt _ p1 c1 sn HSN.out (down2 I) HL1.out hc1 hn1).mono ?_; clear hpt; rintro rr w2 ⟨⟨v2, rfl⟩, hN2⟩; have HL2 : Aside (Lies w2 p1 sl) := HL1.out.kept hN2; replace I := up2 I hN2; clear hN2; clear u0 u1 r0 r1 g0 g1 hlt; obtain ⟨⟨u0, u1⟩, ⟨r0, r1⟩, ⟨g0, g1⟩, hlt⟩ := box2f I)
    | (go_at_call 19; obtain ⟨me, hme⟩ := hmg _ (down2 I); refine hme.mono ?_; clear hme hmg; rintro rr w3 ⟨p3, c3, rfl, hL3, hc3, hn3, hN3⟩; have HL23 : Aside (Lies w3 p1 sl) := HL2.out.kept hN3; replace I := up2 I hN3; have HL3 : Aside (Lies w3 p3 B) := hL3; clear hL3 hN3 hn3 hc3; obtain ⟨bn, hbn⟩ : ∃ bn, bn = B.length := ⟨_, rfl⟩; have HBN : Aside (bn = B.length) := hbn; rw [← hbn]; clear hbn; clear u0 u1 r0 r1 g0 g1 hlt; obtain ⟨⟨u0, u1⟩, ⟨r0, r1⟩, ⟨g0, g1⟩, hlt⟩ := box2f I)
    | (go_at_call 26; refine (hgt _ p1 c1 sn HSN.out (down2 I) HL23.out).mono ?_; clear hgt; rintro rr w4 ⟨rfl, hN4⟩; have hA4 : Below w3.heap.size w3 (w4.alloc (.cells #[.string xp, .int .i64 xk, .string xt, .bool xo] 28)) := Below.onto hN4 ((Grown.refl w4).alloc _).below; have HL4 : Aside (Lies (w4.alloc (.cells #[.string xp, .int .i64 xk, .string xt, .bool xo] 28)) p1 sl ∧ Lies (w4.alloc (.cells #[.string xp, .int .i64 xk, .string xt, .bool xo] 28)) p3 B) := ⟨HL23.out.kept hA4, HL3.out.kept hA4⟩; replace I := up2 I hA4; clear hN4 hA4; clear u0 u1 r0 r1 g0 g1 hlt; obtain ⟨⟨u0, u1⟩, ⟨r0, r1⟩, ⟨g0, g1⟩, hlt⟩ := box2f I)
    | (go_at_call 40; refine (hd1 _ p3 bn c3 HBN.out (down2 I) HL4.out.2).mono ?_; clear hd1; intro rr w5 hP5; obtain ⟨p5, c5, rfl, HL5, HB5⟩ := rows_parts HO1.out hP5; clear hP5; have HL55 : Aside (Lies w5 p1 sl ∧ Lies w5 p3 B) := ⟨HL4.out.1.kept HB5.out, HL4.out.2.kept HB5.out⟩; replace I := up2 I HB5.out; clear u0 u1 r0 r1 g0 g1 hlt; obtain ⟨⟨u0, u1⟩, ⟨r0, r1⟩, ⟨g0, g1⟩, hlt⟩ := box2f I)
    | (go_at_call 40; refine (hd2 _ p5 o1n c5 p3 bn c3 HO1.out HBN.out (down2 I) HL5.out.1 HL55.out.2).mono ?_; clear hd2; rintro rr w6 ⟨⟨v6, rfl, hR6⟩, hN6⟩; have HR6 : Aside (Rows w6 (w.heap.size + 2) v6 (mvK frm to o0 sl 0)) := (by show Rows _ _ _ _; rw [mvK_zero]; exact hR6.mono (by omega)); have HL6 : Aside (Lies w6 p1 sl) := HL55.out.1.kept hN6; have HI : Aside (Below (w.heap.size + 2) ((w.alloc (.cells #[.slice a k c, .slice pl n cl] 26)).alloc (.cells #[.slice none 0 0, .slice none 0 0] 26)) w6) := up2 I hN6; clear hN6 hR6 I; clear u0 u1 r0 r1 g0 g1 hlt))
  obtain ⟨W6, rfl⟩ : ∃ W6, W6 = w6 := ⟨_, rfl⟩
  go_loopg [14, 68] sn (fun gg s14 s68 wr => ∃ j : Nat, j ≤ sn ∧ sn - j ≤ gg ∧ s68 = .int .i64 j ∧ Aside (Rows wr (w.heap.size + 2) s14 (mvK frm to o0 sl j)) ∧ Aside (Below (w.heap.size + 2) ((w.alloc (.cells #[.slice a k c, .slice pl n cl] 26)).alloc (.cells #[.slice none 0 0, .slice none 0 0] 26)) wr) ∧ Aside (Below W6.heap.size W6 wr))
  case atStart => exact ⟨0, Nat.zero_le _, by omega, rfl, HR6.out, HI.out, Below.refl _ _⟩
  case round =>
    obtain ⟨j, hj, hgg, rfl, ST, J, BW⟩ := hrel
    have hsn80 : sn ≤ 80 := by have := HSN.out; omega
    obtain ⟨⟨u0, u1⟩, ⟨r0, r1⟩, ⟨g0, g1⟩, hlt2⟩ := box2f J.out
    by_cases hlt : j < sn
    · have hltz : (j : Int) < (sn : Int) := by omega
      obtain ⟨y, hy⟩ : ∃ y, sl[j]? = some y := ⟨_, List.getElem?_eq_getElem (by have := HSN.out; omega)⟩
      have HY : Aside (sl[j]? = some y) := hy
      have hy80 := HP80.out y (List.mem_of_getElem? hy)
      have HST := mvK_step (frm := frm) (to := to) (o0 := o0) hy
      rcases HL6.out with h0 | ⟨b, off, rfl, hb, hc⟩
      · rw [h0] at hy; simp at hy
      obtain ⟨c0, c1, c2, c3⟩ := Lies.cells hc hb BW.out hy
      clear hc hy u0 u1 r0 r1 g0 g1
      have hws : W6.heap.size ≤ wr.heap.size := BW.out.size
      have hbw : b < wr.heap.size := by omega
      have hbn2 : b ≠ wr.heap.size := by omega
      have hun := fun W => refUnder_any y.path frm W (by unfold maxLen; omega) (by unfold maxLen; omega)
      obtain ⟨pv, cv, rfl, _, _, _⟩ := ST.out.form
      generalize hlv : (mvK frm to o0 sl j).length = lv at ST
      have HLV : Aside ((mvK frm to o0 sl j).length = lv) := hlv
      clear hlv
      cases hin : inM frm.data.toList y with
      | false =>
        have hp1 : ¬ y.path.data.toList = frm.data.toList := fun e => by
          unfold inM at hin; rw [show y.p = y.path.data.toList from rfl, e] at hin; simp at hin
        have hp2 : under y.path.data.toList frm.data.toList = false := by
          unfold inM at hin; exact (Bool.or_eq_false_iff.1 hin).2
        obtain ⟨e1, e2⟩ := ne_parts hp1
        rw [hp2] at hun
        clear hp1 hp2
        have HS : Aside (mvK frm to o0 sl (j + 1) = mvK frm to o0 sl j) := by show _ = _; rw [HST, hin]; rfl
        clear HST
        go_wp2_with (go_at_call 46; refine (hun _).mono ?_; rintro rr wx ⟨rfl, hwx⟩; subst wx)
        go_roundg (sn - (j + 1))
        case measure => omega
        case rel => exact ⟨j + 1, by omega, by omega, by go_num, by rw [HS.out]; exact ST.out.below ((Grown.refl wr).alloc _).below, up2 J.out ((Grown.refl wr).alloc _).below, Below.onto BW.out ((Grown.refl wr).alloc _).below⟩
      | true =>
        have hsz := inM_size hin
        have hszz : (frm.size : Int) ≤ (y.path.size : Int) := by omega
        have hways : (y.path.data.toList = frm.data.toList) ∨ (¬ y.path.data.toList = frm.data.toList ∧ under y.path.data.toList frm.data.toList = true) := by
          unfold inM at hin
          by_cases h : y.path.data.toList = frm.data.toList
          · exact .inl h
          · refine .inr ⟨h, ?_⟩
            rcases Bool.or_eq_true_iff.1 hin with g | g
            · exact absurd (of_decide_eq_true g) h
            · exact g
        have hsu := fun W v h => HSJ.out j y HY.out hin W (w.heap.size + 2) v h
        clear HST
        obtain ⟨new, hnew⟩ : ∃ new, to ++ y.path.extract frm.size y.path.size = new := ⟨_, rfl⟩
        rw [hnew] at hsu
        have HX : Aside (Below wr.heap.size wr (wr.alloc (.cells #[.string new, .int .i64 y.kind, .string y.text, .bool y.opq] 28))) := ((Grown.refl wr).alloc _).below
        rcases hways with h1 | ⟨h1, h2⟩
        · obtain ⟨e1, e2⟩ := eq_parts h1
          clear h1 hun
          go_wp2_with (go_at_call 34; refine (hsu _ _ (ST.out.below HX.out)).mono ?_; clear hsu; rintro rr w8 ⟨⟨v8, rfl, hR8⟩, hN8⟩; have HR8 : Aside (Rows w8 (w.heap.size + 2) v8 (mvK frm to o0 sl (j + 1))) := hR8.mono (by have := (Below.onto BW.out HX.out).size; have := J.out.size; simp at *; omega); have HB8 : Aside (Below wr.heap.size wr w8) := Below.onto HX.out hN8; clear hR8 hN8)
          go_roundg (sn - (j + 1))
          case measure => omega
          case rel => exact ⟨j + 1, by omega, by omega, by go_num, HR8.out, up2 J.out HB8.out, Below.onto BW.out HB8.out⟩
        · obtain ⟨e1, e2⟩ := ne_parts h1
          rw [h2] at hun
          clear h1 h2
          go_wp2_with (first
            | (go_at_call 46; refine (hun _).mono ?_; clear hun; rintro rr wx ⟨rfl, hwx⟩; subst wx)
            | (go_at_call 34; refine (hsu _ _ (ST.out.below HX.out)).mono ?_; clear hsu; rintro rr w8 ⟨⟨v8, rfl, hR8⟩, hN8⟩; have HR8 : Aside (Rows w8 (w.heap.size + 2) v8 (mvK frm to o0 sl (j + 1))) := hR8.mono (by have := (Below.onto BW.out HX.out).size; have := J.out.size; simp at *; omega); have HB8 : Aside (Below wr.heap.size wr w8) := Below.onto HX.out hN8; clear hR8 hN8))
          go_roundg (sn - (j + 1))
          case measure => omega
          case rel => exact ⟨j + 1, by omega, by omega, by go_num, HR8.out, up2 J.out HB8.out, Below.onto BW.out HB8.out⟩
    · have hltz : ¬ (j : Int) < (sn : Int) := by omega
      obtain ⟨pv, cv, rfl, hLv, hfar⟩ := rows_from ST.out
      have HLv : Aside (Lies wr pv (mvK frm to o0 sl sl.length) ∧ ∀ b off s, pv = some ⟨b, off, s⟩ → w.heap.size + 2 ≤ b) := by
        rw [show j = sl.length by have := HSN.out; omega] at hLv
        exact ⟨hLv, hfar⟩
      have hj2 : j = sl.length := by have := HSN.out; omega
      generalize hlv : (mvK frm to o0 sl j).length = lv at ST
      have HLV : Aside (lv = (mvK frm to o0 sl sl.length).length) := by show _ = _; rw [← hlv, hj2]
      have h80v : lv ≤ 80 := by rw [HLV.out]; exact H80.out
      clear hlv hLv hfar ST hj2
      go_wp2_with (go_at_call 33; refine (refDone_few a k c pl n cl pv lv cv _ h80v).mono ?_; rintro rr w9 ⟨rfl, hN9⟩; have HL9 : Aside (Lies w9 pv (mvK frm to o0 sl sl.length)) := HLv.out.1.kept hN9; have I := up2 J.out hN9; clear hN9 u0 u1 r0 r1 g0 g1; obtain ⟨⟨u0, u1⟩, ⟨r0, r1⟩, ⟨g0, g1⟩, hlt⟩ := box2f I)
      refine bodyPost_ret (v := .tuple #[.agg #[.slice pv lv cv, .slice pl n cl], .int .i64 0]) (by simp [results, Tryz.results17, go_sem, r0, r1]) rfl ?_
      exact ⟨pv, cv, by rw [HLV.out], lies_far (lies_far HL9.out _ _ (fun b off s h => by have := HLv.out.2 b off s h; simp only; omega)) _ _ (fun b off s h => by have := HLv.out.2 b off s h; simp only; omega), .inr (fun b off s h => by have := HLv.out.2 b off s h; exact .inr (by omega)), store2 I _ _⟩
set_option maxHeartbeats 1000000 in
set_option maxRecDepth 100000 in
theorem mu_f4 (h0 : Nat) (a : Option Addr) (k c : Nat) (pl : Option Addr) (n cl : Nat) (frm to : ByteArray) (w : World) (sl : List Ent) (hsn : RSn w (.agg #[.slice a k c, .slice pl n cl]) 0 sl) (hpt : RMv w frm to sl 0) (B own1 o0 : List Ent) (hft : ¬ frm.data.toList = to.data.toList) (hmg : RMg w pl n cl B) (xp xt : ByteArray) (xk : Int) (xo : Bool) (hgt : RGt w to sl xp xk xt xo false) (hd2 : RDr w a k c B frm o0) (hsj : RSj w frm to o0 sl) (hr : Right false sl) (hfs : frm.size ≤ 1048576) (hts : to.size ≤ 1048576) (h80 : 80 < (mvK frm to o0 sl sl.length).length) :
    Calls Tryz.prog 17 #[.agg #[.slice a k c, .slice pl n cl], .string frm, .string to] w (ErrU 5 w) := by
  have I : Below (w.heap.size + 2) ((w.alloc (.cells #[.slice a k c, .slice pl n cl] 26)).alloc (.cells #[.slice none 0 0, .slice none 0 0] 26)) ((w.alloc (.cells #[.slice a k c, .slice pl n cl] 26)).alloc (.cells #[.slice none 0 0, .slice none 0 0] 26)) := Below.refl _ _
  obtain ⟨f1, f2⟩ := ne_parts hft
  have HR : Aside (Right false sl) := hr
  have HP80 : Aside (∀ y ∈ sl, y.path.size ≤ 80) := fun y hy => clean_size (hr.clean hy)
  have HSJ : Aside (RSj w frm to o0 sl) := hsj
  have hsl80 : sl.length ≤ 80 := hr.len
  have H80 : Aside (80 < (mvK frm to o0 sl sl.length).length) := h80
  clear hft hr hsj h80
  obtain ⟨o0n, ho0n⟩ : ∃ o0n, o0n = o0.length := ⟨_, rfl⟩
  have HO0 : Aside (o0n = o0.length) := ho0n
  clear ho0n
  go_enter Tryz.func17, Tryz.ntmps17
  go_wp2_with (first
    | (go_at_call 5; refine (hsn _ (down2 I)).mono ?_; clear hsn; rintro rr w1 ⟨p1, c1, rfl, hL1, hc1, hn1, hN1⟩; replace I := up2 I hN1; have HL1 : Aside (Lies w1 p1 sl) := hL1; clear hL1 hN1; obtain ⟨sn, hsn2⟩ : ∃ sn, sn = sl.length := ⟨_, rfl⟩; have HSN : Aside (sn = sl.length) := hsn2; rw [← hsn2] at hc1 ⊢; clear hsn2; obtain ⟨⟨u0, u1⟩, ⟨r0, r1⟩, ⟨g0, g1⟩, hlt⟩ := box2f I)
    | (go_at_call 45; refine (hpt _ p1 c1 sn HSN.out (down2 I) HL1.out hc1 hn1).mono ?_; clear hpt; rintro rr w2 ⟨⟨v2, rfl⟩, hN2⟩; have HL2 : Aside (Lies w2 p1 sl) := HL1.out.kept hN2; replace I := up2 I hN2; clear hN2; clear u0 u1 r0 r1 g0 g1 hlt; obtain ⟨⟨u0, u1⟩, ⟨r0, r1⟩, ⟨g0, g1⟩, hlt⟩ := box2f I)
    | (go_at_call 19; obtain ⟨me, hme⟩ := hmg _ (down2 I); refine hme.mono ?_; clear hme hmg; rintro rr w3 ⟨p3, c3, rfl, hL3, hc3, hn3, hN3⟩; have HL23 : Aside (Lies w3 p1 sl) := HL2.out.kept hN3; replace I := up2 I hN3; have HL3 : Aside (Lies w3 p3 B) := hL3; clear hL3 hN3 hn3 hc3; obtain ⟨bn, hbn⟩ : ∃ bn, bn = B.length := ⟨_, rfl⟩; have HBN : Aside (bn = B.length) := hbn; rw [← hbn]; clear hbn; clear u0 u1 r0 r1 g0 g1 hlt; obtain ⟨⟨u0, u1⟩, ⟨r0, r1⟩, ⟨g0, g1⟩, hlt⟩ := box2f I)
    | (go_at_call 26; refine (hgt _ p1 c1 sn HSN.out (down2 I) HL23.out).mono ?_; clear hgt; rintro rr w4 ⟨rfl, hN4⟩; have hA4 : Below w3.heap.size w3 (w4.alloc (.cells #[.string xp, .int .i64 xk, .string xt, .bool xo] 28)) := Below.onto hN4 ((Grown.refl w4).alloc _).below; have HL4 : Aside (Lies (w4.alloc (.cells #[.string xp, .int .i64 xk, .string xt, .bool xo] 28)) p1 sl ∧ Lies (w4.alloc (.cells #[.string xp, .int .i64 xk, .string xt, .bool xo] 28)) p3 B) := ⟨HL23.out.kept hA4, HL3.out.kept hA4⟩; replace I := up2 I hA4; clear hN4 hA4; clear u0 u1 r0 r1 g0 g1 hlt; obtain ⟨⟨u0, u1⟩, ⟨r0, r1⟩, ⟨g0, g1⟩, hlt⟩ := box2f I)
    | (go_at_call 40; refine (hd2 _ p3 bn c3 HBN.out (down2 I) HL4.out.2).mono ?_; clear hd2; rintro rr w6 ⟨⟨v6, rfl, hR6⟩, hN6⟩; have HR6 : Aside (Rows w6 (w.heap.size + 2) v6 (mvK frm to o0 sl 0)) := (by show Rows _ _ _ _; rw [mvK_zero]; exact hR6.mono (by have : (w4.alloc (.cells #[.string xp, .int .i64 xk, .string xt, .bool xo] 28)).heap.size = w4.heap.size + 1 := (by simp); omega)); have HL6 : Aside (Lies w6 p1 sl) := HL4.out.1.kept hN6; have HI : Aside (Below (w.heap.size + 2) ((w.alloc (.cells #[.slice a k c, .slice pl n cl] 26)).alloc (.cells #[.slice none 0 0, .slice none 0 0] 26)) w6) := up2 I hN6; clear hN6 hR6 I; clear u0 u1 r0 r1 g0 g1 hlt))
  obtain ⟨W6, rfl⟩ : ∃ W6, W6 = w6 := ⟨_, rfl⟩
  go_loopg [14, 68] sn (fun gg s14 s68 wr => ∃ j : Nat, j ≤ sn ∧ sn - j ≤ gg ∧ s68 = .int .i64 j ∧ Aside (Rows wr (w.heap.size + 2) s14 (mvK frm to o0 sl j)) ∧ Aside (Below (w.heap.size + 2) ((w.alloc (.cells #[.slice a k c, .slice pl n cl] 26)).alloc (.cells #[.slice none 0 0, .slice none 0 0] 26)) wr) ∧ Aside (Below W6.heap.size W6 wr))
  case atStart => exact ⟨0, Nat.zero_le _, by omega, rfl, HR6.out, HI.out, Below.refl _ _⟩
  case round =>
    obtain ⟨j, hj, hgg, rfl, ST, J, BW⟩ := hrel
    have hsn80 : sn ≤ 80 := by have := HSN.out; omega
    obtain ⟨⟨u0, u1⟩, ⟨r0, r1⟩, ⟨g0, g1⟩, hlt2⟩ := box2f J.out
    by_cases hlt : j < sn
    · have hltz : (j : Int) < (sn : Int) := by omega
      obtain ⟨y, hy⟩ : ∃ y, sl[j]? = some y := ⟨_, List.getElem?_eq_getElem (by have := HSN.out; omega)⟩
      have HY : Aside (sl[j]? = some y) := hy
      have hy80 := HP80.out y (List.mem_of_getElem? hy)
      have HST := mvK_step (frm := frm) (to := to) (o0 := o0) hy
      rcases HL6.out with h0 | ⟨b, off, rfl, hb, hc⟩
      · rw [h0] at hy; simp at hy
      obtain ⟨c0, c1, c2, c3⟩ := Lies.cells hc hb BW.out hy
      clear hc hy u0 u1 r0 r1 g0 g1
      have hws : W6.heap.size ≤ wr.heap.size := BW.out.size
      have hbw : b < wr.heap.size := by omega
      have hbn2 : b ≠ wr.heap.size := by omega
      have hun := fun W => refUnder_any y.path frm W (by unfold maxLen; omega) (by unfold maxLen; omega)
      obtain ⟨pv, cv, rfl, _, _, _⟩ := ST.out.form
      generalize hlv : (mvK frm to o0 sl j).length = lv at ST
      have HLV : Aside ((mvK frm to o0 sl j).length = lv) := hlv
      clear hlv
      cases hin : inM frm.data.toList y with
      | false =>
        have hp1 : ¬ y.path.data.toList = frm.data.toList := fun e => by
          unfold inM at hin; rw [show y.p = y.path.data.toList from rfl, e] at hin; simp at hin
        have hp2 : under y.path.data.toList frm.data.toList = false := by
          unfold inM at hin; exact (Bool.or_eq_false_iff.1 hin).2
        obtain ⟨e1, e2⟩ := ne_parts hp1
        rw [hp2] at hun
        clear hp1 hp2
        have HS : Aside (mvK frm to o0 sl (j + 1) = mvK frm to o0 sl j) := by show _ = _; rw [HST, hin]; rfl
        clear HST
        go_wp2_with (go_at_call 46; refine (hun _).mono ?_; rintro rr wx ⟨rfl, hwx⟩; subst wx)
        go_roundg (sn - (j + 1))
        case measure => omega
        case rel => exact ⟨j + 1, by omega, by omega, by go_num, by rw [HS.out]; exact ST.out.below ((Grown.refl wr).alloc _).below, up2 J.out ((Grown.refl wr).alloc _).below, Below.onto BW.out ((Grown.refl wr).alloc _).below⟩
      | true =>
        have hsz := inM_size hin
        have hszz : (frm.size : Int) ≤ (y.path.size : Int) := by omega
        have hways : (y.path.data.toList = frm.data.toList) ∨ (¬ y.path.data.toList = frm.data.toList ∧ under y.path.data.toList frm.data.toList = true) := by
          unfold inM at hin
          by_cases h : y.path.data.toList = frm.data.toList
          · exact .inl h
          · refine .inr ⟨h, ?_⟩
            rcases Bool.or_eq_true_iff.1 hin with g | g
            · exact absurd (of_decide_eq_true g) h
            · exact g
        have hsu := fun W v h => HSJ.out j y HY.out hin W (w.heap.size + 2) v h
        clear HST
        obtain ⟨new, hnew⟩ : ∃ new, to ++ y.path.extract frm.size y.path.size = new := ⟨_, rfl⟩
        rw [hnew] at hsu
        have HX : Aside (Below wr.heap.size wr (wr.alloc (.cells #[.string new, .int .i64 y.kind, .string y.text, .bool y.opq] 28))) := ((Grown.refl wr).alloc _).below
        rcases hways with h1 | ⟨h1, h2⟩
        · obtain ⟨e1, e2⟩ := eq_parts h1
          clear h1 hun
          go_wp2_with (go_at_call 34; refine (hsu _ _ (ST.out.below HX.out)).mono ?_; clear hsu; rintro rr w8 ⟨⟨v8, rfl, hR8⟩, hN8⟩; have HR8 : Aside (Rows w8 (w.heap.size + 2) v8 (mvK frm to o0 sl (j + 1))) := hR8.mono (by have := (Below.onto BW.out HX.out).size; have := J.out.size; simp at *; omega); have HB8 : Aside (Below wr.heap.size wr w8) := Below.onto HX.out hN8; clear hR8 hN8)
          go_roundg (sn - (j + 1))
          case measure => omega
          case rel => exact ⟨j + 1, by omega, by omega, by go_num, HR8.out, up2 J.out HB8.out, Below.onto BW.out HB8.out⟩
        · obtain ⟨e1, e2⟩ := ne_parts h1
          rw [h2] at hun
          clear h1 h2
          go_wp2_with (first
            | (go_at_call 46; refine (hun _).mono ?_; clear hun; rintro rr wx ⟨rfl, hwx⟩; subst wx)
            | (go_at_call 34; refine (hsu _ _ (ST.out.below HX.out)).mono ?_; clear hsu; rintro rr w8 ⟨⟨v8, rfl, hR8⟩, hN8⟩; have HR8 : Aside (Rows w8 (w.heap.size + 2) v8 (mvK frm to o0 sl (j + 1))) := hR8.mono (by have := (Below.onto BW.out HX.out).size; have := J.out.size; simp at *; omega); have HB8 : Aside (Below wr.heap.size wr w8) := Below.onto HX.out hN8; clear hR8 hN8))
          go_roundg (sn - (j + 1))
          case measure => omega
          case rel => exact ⟨j + 1, by omega, by omega, by go_num, HR8.out, up2 J.out HB8.out, Below.onto BW.out HB8.out⟩
    · have hltz : ¬ (j : Int) < (sn : Int) := by omega
      obtain ⟨pv, cv, rfl, hLv, hfar⟩ := rows_from ST.out
      have HLv : Aside (Lies wr pv (mvK frm to o0 sl sl.length) ∧ ∀ b off s, pv = some ⟨b, off, s⟩ → w.heap.size + 2 ≤ b) := by
        rw [show j = sl.length by have := HSN.out; omega] at hLv
        exact ⟨hLv, hfar⟩
      have hj2 : j = sl.length := by have := HSN.out; omega
      generalize hlv : (mvK frm to o0 sl j).length = lv at ST
      have HLV : Aside (lv = (mvK frm to o0 sl sl.length).length) := by show _ = _; rw [← hlv, hj2]
      have h80v : 80 < lv := by rw [HLV.out]; exact H80.out
      clear hlv hLv hfar ST hj2
      go_wp2_with (go_at_call 33; refine (refDone_many a k c pl n cl pv lv cv _ h80v).mono ?_; rintro rr w9 ⟨rfl, hN9⟩; have HL9 : Aside (Lies w9 pv (mvK frm to o0 sl sl.length)) := HLv.out.1.kept hN9; have I := up2 J.out hN9; clear hN9 u0 u1 r0 r1 g0 g1; obtain ⟨⟨u0, u1⟩, ⟨r0, r1⟩, ⟨g0, g1⟩, hlt⟩ := box2f I)
      refine bodyPost_ret (v := .tuple #[.agg #[.slice none 0 0, .slice none 0 0], .int .i64 5]) (by simp [results, Tryz.results17, go_sem, r0, r1]) rfl ?_
      exact ⟨rfl, store2 I _ _⟩
set_option maxHeartbeats 1000000 in
set_option maxRecDepth 100000 in
theorem mu_f5 (h0 : Nat) (a : Option Addr) (k c : Nat) (pl : Option Addr) (n cl : Nat) (frm to : ByteArray) (w : World) (sl : List Ent) (hsn : RSn w (.agg #[.slice a k c, .slice pl n cl]) 0 sl) (hpt : RMv w frm to sl 0) (B own1 o0 : List Ent) (hft : ¬ frm.data.toList = to.data.toList) (hmg : RMg w pl n cl B) (xp xt : ByteArray) (xk : Int) (xo : Bool) (hgt : RGt w to sl xp xk xt xo false) (hd2 : RDr w a k c B frm o0) (hsj : RSj w frm to o0 sl) (hr : Right false sl) (hfs : frm.size ≤ 1048576) (hts : to.size ≤ 1048576) (h80 : (mvK frm to o0 sl sl.length).length ≤ 80) :
    Calls Tryz.prog 17 #[.agg #[.slice a k c, .slice pl n cl], .string frm, .string to] w (OkU h0 (mvK frm to o0 sl sl.length) pl n cl w) := by
  have I : Below (w.heap.size + 2) ((w.alloc (.cells #[.slice a k c, .slice pl n cl] 26)).alloc (.cells #[.slice none 0 0, .slice none 0 0] 26)) ((w.alloc (.cells #[.slice a k c, .slice pl n cl] 26)).alloc (.cells #[.slice none 0 0, .slice none 0 0] 26)) := Below.refl _ _
  obtain ⟨f1, f2⟩ := ne_parts hft
  have HR : Aside (Right false sl) := hr
  have HP80 : Aside (∀ y ∈ sl, y.path.size ≤ 80) := fun y hy => clean_size (hr.clean hy)
  have HSJ : Aside (RSj w frm to o0 sl) := hsj
  have hsl80 : sl.length ≤ 80 := hr.len
  have H80 : Aside ((mvK frm to o0 sl sl.length).length ≤ 80) := h80
  clear hft hr hsj h80
  obtain ⟨o0n, ho0n⟩ : ∃ o0n, o0n = o0.length := ⟨_, rfl⟩
  have HO0 : Aside (o0n = o0.length) := ho0n
  clear ho0n
  go_enter Tryz.func17, Tryz.ntmps17
  go_wp2_with (first
    | (go_at_call 5; refine (hsn _ (down2 I)).mono ?_; clear hsn; rintro rr w1 ⟨p1, c1, rfl, hL1, hc1, hn1, hN1⟩; replace I := up2 I hN1; have HL1 : Aside (Lies w1 p1 sl) := hL1; clear hL1 hN1; obtain ⟨sn, hsn2⟩ : ∃ sn, sn = sl.length := ⟨_, rfl⟩; have HSN : Aside (sn = sl.length) := hsn2; rw [← hsn2] at hc1 ⊢; clear hsn2; obtain ⟨⟨u0, u1⟩, ⟨r0, r1⟩, ⟨g0, g1⟩, hlt⟩ := box2f I)
    | (go_at_call 45; refine (hpt _ p1 c1 sn HSN.out (down2 I) HL1.out hc1 hn1).mono ?_; clear hpt; rintro rr w2 ⟨⟨v2, rfl⟩, hN2⟩; have HL2 : Aside (Lies w2 p1 sl) := HL1.out.kept hN2; replace I := up2 I hN2; clear hN2; clear u0 u1 r0 r1 g0 g1 hlt; obtain ⟨⟨u0, u1⟩, ⟨r0, r1⟩, ⟨g0, g1⟩, hlt⟩ := box2f I)
    | (go_at_call 19; obtain ⟨me, hme⟩ := hmg _ (down2 I); refine hme.mono ?_; clear hme hmg; rintro rr w3 ⟨p3, c3, rfl, hL3, hc3, hn3, hN3⟩; have HL23 : Aside (Lies w3 p1 sl) := HL2.out.kept hN3; replace I := up2 I hN3; have HL3 : Aside (Lies w3 p3 B) := hL3; clear hL3 hN3 hn3 hc3; obtain ⟨bn, hbn⟩ : ∃ bn, bn = B.length := ⟨_, rfl⟩; have HBN : Aside (bn = B.length) := hbn; rw [← hbn]; clear hbn; clear u0 u1 r0 r1 g0 g1 hlt; obtain ⟨⟨u0, u1⟩, ⟨r0, r1⟩, ⟨g0, g1⟩, hlt⟩ := box2f I)
    | (go_at_call 26; refine (hgt _ p1 c1 sn HSN.out (down2 I) HL23.out).mono ?_; clear hgt; rintro rr w4 ⟨rfl, hN4⟩; have hA4 : Below w3.heap.size w3 (w4.alloc (.cells #[.string xp, .int .i64 xk, .string xt, .bool xo] 28)) := Below.onto hN4 ((Grown.refl w4).alloc _).below; have HL4 : Aside (Lies (w4.alloc (.cells #[.string xp, .int .i64 xk, .string xt, .bool xo] 28)) p1 sl ∧ Lies (w4.alloc (.cells #[.string xp, .int .i64 xk, .string xt, .bool xo] 28)) p3 B) := ⟨HL23.out.kept hA4, HL3.out.kept hA4⟩; replace I := up2 I hA4; clear hN4 hA4; clear u0 u1 r0 r1 g0 g1 hlt; obtain ⟨⟨u0, u1⟩, ⟨r0, r1⟩, ⟨g0, g1⟩, hlt⟩ := box2f I)
    | (go_at_call 40; refine (hd2 _ p3 bn c3 HBN.out (down2 I) HL4.out.2).mono ?_; clear hd2; rintro rr w6 ⟨⟨v6, rfl, hR6⟩, hN6⟩; have HR6 : Aside (Rows w6 (w.heap.size + 2) v6 (mvK frm to o0 sl 0)) := (by show Rows _ _ _ _; rw [mvK_zero]; exact hR6.mono (by have : (w4.alloc (.cells #[.string xp, .int .i64 xk, .string xt, .bool xo] 28)).heap.size = w4.heap.size + 1 := (by simp); omega)); have HL6 : Aside (Lies w6 p1 sl) := HL4.out.1.kept hN6; have HI : Aside (Below (w.heap.size + 2) ((w.alloc (.cells #[.slice a k c, .slice pl n cl] 26)).alloc (.cells #[.slice none 0 0, .slice none 0 0] 26)) w6) := up2 I hN6; clear hN6 hR6 I; clear u0 u1 r0 r1 g0 g1 hlt))
  obtain ⟨W6, rfl⟩ : ∃ W6, W6 = w6 := ⟨_, rfl⟩
  go_loopg [14, 68] sn (fun gg s14 s68 wr => ∃ j : Nat, j ≤ sn ∧ sn - j ≤ gg ∧ s68 = .int .i64 j ∧ Aside (Rows wr (w.heap.size + 2) s14 (mvK frm to o0 sl j)) ∧ Aside (Below (w.heap.size + 2) ((w.alloc (.cells #[.slice a k c, .slice pl n cl] 26)).alloc (.cells #[.slice none 0 0, .slice none 0 0] 26)) wr) ∧ Aside (Below W6.heap.size W6 wr))
  case atStart => exact ⟨0, Nat.zero_le _, by omega, rfl, HR6.out, HI.out, Below.refl _ _⟩
  case round =>
    obtain ⟨j, hj, hgg, rfl, ST, J, BW⟩ := hrel
    have hsn80 : sn ≤ 80 := by have := HSN.out; omega
    obtain ⟨⟨u0, u1⟩, ⟨r0, r1⟩, ⟨g0, g1⟩, hlt2⟩ := box2f J.out
    by_cases hlt : j < sn
    · have hltz : (j : Int) < (sn : Int) := by omega
      obtain ⟨y, hy⟩ : ∃ y, sl[j]? = some y := ⟨_, List.getElem?_eq_getElem (by have := HSN.out; omega)⟩
      have HY : Aside (sl[j]? = some y) := hy
      have hy80 := HP80.out y (List.mem_of_getElem? hy)
      have HST := mvK_step (frm := frm) (to := to) (o0 := o0) hy
      rcases HL6.out with h0 | ⟨b, off, rfl, hb, hc⟩
      · rw [h0] at hy; simp at hy
      obtain ⟨c0, c1, c2, c3⟩ := Lies.cells hc hb BW.out hy
      clear hc hy u0 u1 r0 r1 g0 g1
      have hws : W6.heap.size ≤ wr.heap.size := BW.out.size
      have hbw : b < wr.heap.size := by omega
      have hbn2 : b ≠ wr.heap.size := by omega
      have hun := fun W => refUnder_any y.path frm W (by unfold maxLen; omega) (by unfold maxLen; omega)
      obtain ⟨pv, cv, rfl, _, _, _⟩ := ST.out.form
      generalize hlv : (mvK frm to o0 sl j).length = lv at ST
      have HLV : Aside ((mvK frm to o0 sl j).length = lv) := hlv
      clear hlv
      cases hin : inM frm.data.toList y with
      | false =>
        have hp1 : ¬ y.path.data.toList = frm.data.toList := fun e => by
          unfold inM at hin; rw [show y.p = y.path.data.toList from rfl, e] at hin; simp at hin
        have hp2 : under y.path.data.toList frm.data.toList = false := by
          unfold inM at hin; exact (Bool.or_eq_false_iff.1 hin).2
        obtain ⟨e1, e2⟩ := ne_parts hp1
        rw [hp2] at hun
        clear hp1 hp2
        have HS : Aside (mvK frm to o0 sl (j + 1) = mvK frm to o0 sl j) := by show _ = _; rw [HST, hin]; rfl
        clear HST
        go_wp2_with (go_at_call 46; refine (hun _).mono ?_; rintro rr wx ⟨rfl, hwx⟩; subst wx)
        go_roundg (sn - (j + 1))
        case measure => omega
        case rel => exact ⟨j + 1, by omega, by omega, by go_num, by rw [HS.out]; exact ST.out.below ((Grown.refl wr).alloc _).below, up2 J.out ((Grown.refl wr).alloc _).below, Below.onto BW.out ((Grown.refl wr).alloc _).below⟩
      | true =>
        have hsz := inM_size hin
        have hszz : (frm.size : Int) ≤ (y.path.size : Int) := by omega
        have hways : (y.path.data.toList = frm.data.toList) ∨ (¬ y.path.data.toList = frm.data.toList ∧ under y.path.data.toList frm.data.toList = true) := by
          unfold inM at hin
          by_cases h : y.path.data.toList = frm.data.toList
          · exact .inl h
          · refine .inr ⟨h, ?_⟩
            rcases Bool.or_eq_true_iff.1 hin with g | g
            · exact absurd (of_decide_eq_true g) h
            · exact g
        have hsu := fun W v h => HSJ.out j y HY.out hin W (w.heap.size + 2) v h
        clear HST
        obtain ⟨new, hnew⟩ : ∃ new, to ++ y.path.extract frm.size y.path.size = new := ⟨_, rfl⟩
        rw [hnew] at hsu
        have HX : Aside (Below wr.heap.size wr (wr.alloc (.cells #[.string new, .int .i64 y.kind, .string y.text, .bool y.opq] 28))) := ((Grown.refl wr).alloc _).below
        rcases hways with h1 | ⟨h1, h2⟩
        · obtain ⟨e1, e2⟩ := eq_parts h1
          clear h1 hun
          go_wp2_with (go_at_call 34; refine (hsu _ _ (ST.out.below HX.out)).mono ?_; clear hsu; rintro rr w8 ⟨⟨v8, rfl, hR8⟩, hN8⟩; have HR8 : Aside (Rows w8 (w.heap.size + 2) v8 (mvK frm to o0 sl (j + 1))) := hR8.mono (by have := (Below.onto BW.out HX.out).size; have := J.out.size; simp at *; omega); have HB8 : Aside (Below wr.heap.size wr w8) := Below.onto HX.out hN8; clear hR8 hN8)
          go_roundg (sn - (j + 1))
          case measure => omega
          case rel => exact ⟨j + 1, by omega, by omega, by go_num, HR8.out, up2 J.out HB8.out, Below.onto BW.out HB8.out⟩
        · obtain ⟨e1, e2⟩ := ne_parts h1
          rw [h2] at hun
          clear h1 h2
          go_wp2_with (first
            | (go_at_call 46; refine (hun _).mono ?_; clear hun; rintro rr wx ⟨rfl, hwx⟩; subst wx)
            | (go_at_call 34; refine (hsu _ _ (ST.out.below HX.out)).mono ?_; clear hsu; rintro rr w8 ⟨⟨v8, rfl, hR8⟩, hN8⟩; have HR8 : Aside (Rows w8 (w.heap.size + 2) v8 (mvK frm to o0 sl (j + 1))) := hR8.mono (by have := (Below.onto BW.out HX.out).size; have := J.out.size; simp at *; omega); have HB8 : Aside (Below wr.heap.size wr w8) := Below.onto HX.out hN8; clear hR8 hN8))
          go_roundg (sn - (j + 1))
          case measure => omega
          case rel => exact ⟨j + 1, by omega, by omega, by go_num, HR8.out, up2 J.out HB8.out, Below.onto BW.out HB8.out⟩
    · have hltz : ¬ (j : Int) < (sn : Int) := by omega
      obtain ⟨pv, cv, rfl, hLv, hfar⟩ := rows_from ST.out
      have HLv : Aside (Lies wr pv (mvK frm to o0 sl sl.length) ∧ ∀ b off s, pv = some ⟨b, off, s⟩ → w.heap.size + 2 ≤ b) := by
        rw [show j = sl.length by have := HSN.out; omega] at hLv
        exact ⟨hLv, hfar⟩
      have hj2 : j = sl.length := by have := HSN.out; omega
      generalize hlv : (mvK frm to o0 sl j).length = lv at ST
      have HLV : Aside (lv = (mvK frm to o0 sl sl.length).length) := by show _ = _; rw [← hlv, hj2]
      have h80v : lv ≤ 80 := by rw [HLV.out]; exact H80.out
      clear hlv hLv hfar ST hj2
      go_wp2_with (go_at_call 33; refine (refDone_few a k c pl n cl pv lv cv _ h80v).mono ?_; rintro rr w9 ⟨rfl, hN9⟩; have HL9 : Aside (Lies w9 pv (mvK frm to o0 sl sl.length)) := HLv.out.1.kept hN9; have I := up2 J.out hN9; clear hN9 u0 u1 r0 r1 g0 g1; obtain ⟨⟨u0, u1⟩, ⟨r0, r1⟩, ⟨g0, g1⟩, hlt⟩ := box2f I)
      refine bodyPost_ret (v := .tuple #[.agg #[.slice pv lv cv, .slice pl n cl], .int .i64 0]) (by simp [results, Tryz.results17, go_sem, r0, r1]) rfl ?_
      exact ⟨pv, cv, by rw [HLV.out], lies_far (lies_far HL9.out _ _ (fun b off s h => by have := HLv.out.2 b off s h; simp only; omega)) _ _ (fun b off s h => by have := HLv.out.2 b off s h; simp only; omega), .inr (fun b off s h => by have := HLv.out.2 b off s h; exact .inr (by omega)), store2 I _ _⟩
theorem drop_len300 {own B : List Ent} {p : ByteArray} (hs : Sorted own) (hp : p.data.toList.length ≤ 80) : (dropL own B p).length ≤ own.length + 81 := by
  have h1 := (drop_len (B := B) (p := p) hs).1
  have h2 : p.size = p.data.toList.length := rfl
  omega
/-- What the document's own MoveUnion answers. -/
theorem refMoveU_any (h0 : Nat) (y : Lay) (pl : Option Addr) (n cl : Nat) (frm to : ByteArray) (w : World) (we : Int) (sl B : List Ent) (hsn : RSn w (.agg #[.slice y.ad y.es.length y.cap, .slice pl n cl]) we sl) (hsl : we = 0 → Right false sl) (hy : Right true y.es) (hL : Lies w y.ad y.es) (hB : Right false B) (hmg : RMg w pl n cl B) (hf : frm.size ≤ 1048576) (ht : to.size ≤ 1048576) (hfa : y.es = [] ∨ ∀ b off s, y.ad = some ⟨b, off, s⟩ → b < h0) :
    Calls Tryz.prog 17 #[.agg #[.slice y.ad y.es.length y.cap, .slice pl n cl], .string frm, .string to] w (RUPost h0 (chgErr we (moveErr sl frm to) (if frm.data.toList = to.data.toList then y.es else moveU y.es B sl frm to).length) (if frm.data.toList = to.data.toList then y.es else moveU y.es B sl frm to) pl n cl w) := by
  have hy80 := hy.len
  by_cases h1 : we = 0
  · subst h1
    have hr := hsl rfl
    have hpt : RMv w frm to sl (moveErr sl frm to) := fun W p c n hn hB' hLs hc hnil => by
      subst hn
      refine (refMove_any sl frm to p c W hLs (fun x hx => wrongE_small (hr.each x hx)) (by have := hr.len; omega) hc hnil hf ht).mono ?_
      rintro r w' ⟨p', c', rfl, _, _, _, hB'⟩
      exact ⟨⟨_, rfl⟩, hB'⟩
    by_cases h2 : moveErr sl frm to = 0
    · rw [h2] at hpt
      by_cases hne : frm.data.toList = to.data.toList
      · rw [if_pos hne, show chgErr 0 (moveErr sl frm to) y.es.length = 0 by unfold chgErr; rw [if_pos rfl, if_pos h2, if_neg (by omega)]]
        exact (mu_3 h0 _ _ _ _ _ _ frm to w sl hsn hpt y.es hL rfl hfa hne).mono fun r w' h => .inr ⟨rfl, h⟩
      · rw [if_neg hne]
        have hok := mvOK_of h2 hne
        have hB80 := hB.len
        have hfl : frm.data.toList.length ≤ 80 := by
          obtain ⟨x, hx, hxp⟩ := hok.src
          rw [← hxp]; exact clean_len (wrongE_clean (hr.each x hx))
        have htl : to.data.toList.length ≤ 80 := clean_len hok.tocl
        have hfs : frm.size = frm.data.toList.length := rfl
        have hts : to.size = to.data.toList.length := rfl
        have hgt : ∀ (x : Ent) (bb : Bool), (getL sl to.data.toList).getD zeroE = x → (getL sl to.data.toList).isSome = bb → RGt w to sl x.path x.kind x.text x.opq bb := fun x bb hxx hbb W p c n hn hW hLs => by
          subst hn
          exact refGet_any sl to p c W hLs (by have := hr.len; omega) x bb hxx hbb
        have hS1 : SM (clearTo y.es B sl to) ∧ (clearTo y.es B sl to).length ≤ 161 := by
          unfold clearTo
          split
          · exact ⟨(right_sm hy).drop hok.tne (by omega), by have := drop_len300 (B := B) (right_sm hy).sorted htl; omega⟩
          · exact ⟨right_sm hy, by omega⟩
        have hS0 : SM (dropL (clearTo y.es B sl to) B frm) ∧ (dropL (clearTo y.es B sl to) B frm).length ≤ 242 :=
          ⟨hS1.1.drop hok.fne (by omega), by have := drop_len300 (B := B) hS1.1.sorted hfl; omega⟩
        have hsj : RSj w frm to (dropL (clearTo y.es B sl to) B frm) sl := fun j x hx hin W base v hv => by
          obtain ⟨p', c', rfl, hL', _, _⟩ := hv.form
          have hj : j < sl.length := (List.getElem?_eq_some_iff.1 hx).1
          obtain ⟨h3, h4⟩ := mv_sm hok hS0.1 (by omega) j (by omega)
          have hm := List.mem_of_getElem? hx
          have hcl := hok.cl x hm (hok.notTo hin) hin
          have hcn := clean_len hcl
          have hpl := path_len (mvE frm to x)
          have hsl80 := hr.len
          rw [mvK_step hx, if_pos hin]
          exact refSetU_any _ (mvK frm to (dropL (clearTo y.es B sl to) B frm) sl j) (mvE frm to x) p' c' W (Nat.le_refl _) h3 (clean_ne hcl) (by omega) (show x.opq = false from wrongE_opq_false (hr.each x hm)) (by omega) hL'
        have hall : mvK frm to (dropL (clearTo y.es B sl to) B frm) sl sl.length = moveU y.es B sl frm to := mvK_all (Nat.le_refl _)
        rw [← hall]
        have hd2 : RDr2 w (clearTo y.es B sl to) B frm (dropL (clearTo y.es B sl to) B frm) := fun W p1 n1 c1 pb nb cb hn1 hnb hW hL1 hLB => by
          subst hn1 hnb
          exact refDrop_any _ B frm p1 c1 pb cb W hL1 hLB hS1.1 (by omega) hok.fne hf (by omega)
        cases hb : (getL sl to.data.toList).isSome with
        | true =>
          have hc : clearTo y.es B sl to = dropL y.es B to := by unfold clearTo; rw [if_pos hb]
          have hd1 : RDr w y.ad y.es.length y.cap B to (clearTo y.es B sl to) := fun W pb nb cb hnb hW hLB => by
            subst hnb
            rw [hc]
            exact refDrop_any y.es B to y.ad y.cap pb cb W (hL.kept hW) hLB (right_sm hy) (by omega) hok.tne ht (by omega)
          by_cases h80 : 80 < (mvK frm to (dropL (clearTo y.es B sl to) B frm) sl sl.length).length
          · rw [show chgErr 0 (moveErr sl frm to) (mvK frm to (dropL (clearTo y.es B sl to) B frm) sl sl.length).length = 5 by unfold chgErr; rw [if_pos rfl, if_pos h2, if_pos h80]]
            exact (mu_t4 h0 _ _ _ _ _ _ frm to w sl hsn hpt B _ _ hne hmg _ _ _ _ (hgt _ true rfl hb) hd1 hd2 hsj hr hf ht h80).mono fun r w' h => .inl ⟨by decide, h⟩
          · rw [show chgErr 0 (moveErr sl frm to) (mvK frm to (dropL (clearTo y.es B sl to) B frm) sl sl.length).length = 0 by unfold chgErr; rw [if_pos rfl, if_pos h2, if_neg h80]]
            exact (mu_t5 h0 _ _ _ _ _ _ frm to w sl hsn hpt B _ _ hne hmg _ _ _ _ (hgt _ true rfl hb) hd1 hd2 hsj hr hf ht (by omega)).mono fun r w' h => .inr ⟨rfl, h⟩
        | false =>
          have hc : clearTo y.es B sl to = y.es := by unfold clearTo; rw [hb]; rfl
          have hd2' : RDr w y.ad y.es.length y.cap B frm (dropL (clearTo y.es B sl to) B frm) := fun W pb nb cb hnb hW hLB => hd2 W y.ad _ y.cap pb nb cb (by rw [hc]) hnb hW (by rw [hc]; exact hL.kept hW) hLB
          by_cases h80 : 80 < (mvK frm to (dropL (clearTo y.es B sl to) B frm) sl sl.length).length
          · rw [show chgErr 0 (moveErr sl frm to) (mvK frm to (dropL (clearTo y.es B sl to) B frm) sl sl.length).length = 5 by unfold chgErr; rw [if_pos rfl, if_pos h2, if_pos h80]]
            exact (mu_f4 h0 _ _ _ _ _ _ frm to w sl hsn hpt B [] _ hne hmg _ _ _ _ (hgt _ false rfl hb) hd2' hsj hr hf ht h80).mono fun r w' h => .inl ⟨by decide, h⟩
          · rw [show chgErr 0 (moveErr sl frm to) (mvK frm to (dropL (clearTo y.es B sl to) B frm) sl sl.length).length = 0 by unfold chgErr; rw [if_pos rfl, if_pos h2, if_neg h80]]
            exact (mu_f5 h0 _ _ _ _ _ _ frm to w sl hsn hpt B [] _ hne hmg _ _ _ _ (hgt _ false rfl hb) hd2' hsj hr hf ht (by omega)).mono fun r w' h => .inr ⟨rfl, h⟩
    · have e : ∀ m : Nat, chgErr 0 (moveErr sl frm to) m = moveErr sl frm to := fun m => by unfold chgErr; rw [if_pos rfl, if_neg h2]
      rw [e]
      exact (mu_2 h0 _ _ _ _ _ _ frm to w sl hsn _ h2 hpt).mono fun r w' h => .inl ⟨h2, h⟩
  · have e : ∀ m : Nat, chgErr we (moveErr sl frm to) m = we := fun m => by unfold chgErr; rw [if_neg h1]
    rw [e]
    exact (mu_1 h0 _ _ _ _ _ _ frm to w sl _ h1 hsn).mono fun r w' h => .inl ⟨h1, h⟩
end Go.Proofs.YtampldoimpfjgaaGreatDoor
