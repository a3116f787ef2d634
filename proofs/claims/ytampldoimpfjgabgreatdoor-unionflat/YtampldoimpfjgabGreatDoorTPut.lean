/-
  tree.Put: what it answers, and the tree that comes of it.
-/
import Derived.Test.YtampldoimpfjgabGreatDoorTIns2
namespace Go.Proofs.YtampldoimpfjgabGreatDoor
open Go.RowKit PM Go.Sort
set_option linter.unusedVariables false

def putAsk (t : List Ent) (e : Ent) : Int := orL [(faultL false t).1, wrongE e false, noDirL t (dirOf e.p)]
open Classical in
noncomputable def putErr (t : List Ent) (e : Ent) : Int :=
  if putAsk t e = 0 then (if ∃ x ∈ t, x.p = e.p ∧ ¬ ((x.kind == 2) = (e.kind == 2)) then 7 else if (∀ x ∈ t, x.p ≠ e.p) ∧ t.length = 80 then 5 else 0) else putAsk t e
theorem putAsk_of (t : List Ent) (e : Ent) (r : Int) (hr : Sorted t → r = noDirL t (dirOf e.p)) : orL [(faultL false t).1, wrongE e false, r] = putAsk t e := by
  unfold putAsk
  by_cases h : (faultL false t).1 = 0
  · rw [hr (faultL_zero.1 h).sorted]
  · simp [orL, h]
theorem putAsk_zero {t : List Ent} {e : Ent} (h : putAsk t e = 0) : Right false t ∧ wrongE e false = 0 ∧ noDirL t (dirOf e.p) = 0 := by
  unfold putAsk at h
  obtain ⟨h1, h⟩ := orL_zero.1 h
  obtain ⟨h2, h⟩ := orL_zero.1 h
  obtain ⟨h3, _⟩ := orL_zero.1 h
  exact ⟨faultL_zero.1 h1, h2, h3⟩
theorem putErr_asked {t : List Ent} {e : Ent} (h : ¬ putAsk t e = 0) : putErr t e = putAsk t e := by rw [putErr, if_neg h]
theorem putErr_there {t : List Ent} {e y : Ent} (h : putAsk t e = 0) (hy : y ∈ t) (hp : y.p = e.p) : putErr t e = if (y.kind == 2) = (e.kind == 2) then 0 else 7 := by
  have hs := (putAsk_zero h).1.sorted
  rw [putErr, if_pos h]
  by_cases hk : (y.kind == 2) = (e.kind == 2)
  · rw [if_pos hk, if_neg, if_neg]
    · rintro ⟨g, _⟩; exact g y hy hp
    · rintro ⟨x, hx, hxp, hxk⟩
      rw [sorted_inj hs hx hy (hxp.trans hp.symm)] at hxk
      exact hxk hk
  · rw [if_neg hk, if_pos ⟨y, hy, hp, hk⟩]
theorem putErr_not {t : List Ent} {e : Ent} (h : putAsk t e = 0) (hn : ∀ x ∈ t, x.p ≠ e.p) : putErr t e = if t.length = 80 then 5 else 0 := by
  rw [putErr, if_pos h, if_neg]
  · by_cases h80 : t.length = 80
    · rw [if_pos ⟨hn, h80⟩, if_pos h80]
    · rw [if_neg (fun g => h80 g.2), if_neg h80]
  · rintro ⟨x, hx, hxp, _⟩; exact hn x hx hxp

theorem put_set_end {t l : List Ent} {e y : Ent} {i n g c : Nat} {er : Int} {w W : World} (hp : PlaceAt t e.p i) (hs : Sorted t) (hy : t[i]? = some y ∧ y.p = e.path.data.toList) (hn : n = t.length) (h0 : er = 0) (hr : er = putErr t e) (hl : l = if putErr t e = 0 then putL t e else [])
    (hO : Own W g c t) (hB : Below w.heap.size w W) (hg : w.heap.size ≤ g) :
    TreePost er l w (.returned (.tuple #[.slice (some ⟨g, 0, none⟩) n c, .int .i64 0])) ((((W.setCell ⟨g, i * 4, none⟩ (.string e.path)).setCell ⟨g, i * 4 + 1, none⟩ (.int .i64 e.kind)).setCell ⟨g, i * 4 + 2, none⟩ (.string e.text)).setCell ⟨g, i * 4 + 3, none⟩ (.bool e.opq)) := by
  obtain ⟨h1, h2⟩ := List.getElem?_eq_some_iff.1 hy.1
  have hat : isAt t e.p i = true := isAt_iff.2 ⟨h1, by rw [h2]; exact hy.2⟩
  rw [← hr, h0, if_pos rfl, ← hp.set hs hat] at hl
  subst hl h0 hn
  have hO' := hO.set h1 e
  exact ⟨some ⟨g, 0, none⟩, c, by simp, hO'.lies, hO'.len, nofun, (((hB.setCell hg _).setCell hg _).setCell hg _).setCell hg _⟩
theorem put_ins_end {t l : List Ent} {e : Ent} {i g g' c' : Nat} {er : Int} {w W W' : World} (hp : PlaceAt t e.p i) (hs : Sorted t) (hat : isAt t e.path.data.toList i = false) (h0 : er = 0) (hr : er = putErr t e) (hl : l = if putErr t e = 0 then putL t e else [])
    (hO : Own W' g' c' (t.take i ++ e :: t.drop i)) (hB : Below w.heap.size w W) (hgb : W.grownBy W' (some g)) (hg : w.heap.size ≤ g) (hg' : w.heap.size ≤ g') :
    TreePost er l w (.returned (.tuple #[.slice (some ⟨g', 0, none⟩) (t.take i ++ e :: t.drop i).length c', .int .i64 0])) W' := by
  rw [← hr, h0, if_pos rfl, ← hp.insert hs hat] at hl
  subst hl h0
  exact ⟨some ⟨g', 0, none⟩, c', rfl, hO.lies, hO.len, nofun, hB.grown hgb hB.size (fun k hk => by simp at hk; omega)⟩
theorem found_any {w W : World} {p : Option Addr} {t : List Ent} {n : Nat} (hn : n = t.length) (hL : Lies w p t) (hW : Below w.heap.size w W) (q : List UInt8) (i : Nat) :
    (isAt t q i = true ∧ ∃ y b off, p = some ⟨b, off, none⟩ ∧ Aside (t[i]? = some y ∧ y.p = q) ∧ i < n ∧ W.cell? ⟨b, off + i * 4, none⟩ = some (.string y.path) ∧ W.cell? ⟨b, off + i * 4 + 1, none⟩ = some (.int .i64 y.kind) ∧ W.cell? ⟨b, off + i * 4 + 2, none⟩ = some (.string y.text) ∧ W.cell? ⟨b, off + i * 4 + 3, none⟩ = some (.bool y.opq)) ∨ isAt t q i = false := by
  rcases hL with rfl | ⟨b, off, rfl, hb, hc⟩
  · exact .inr rfl
  · rcases found_cases hn hc hb hW q i with ⟨h, y, h1, h2⟩ | h
    · exact .inl ⟨h, y, b, off, rfl, h1, h2⟩
    · exact .inr h
set_option maxHeartbeats 4000000 in
set_option maxRecDepth 100000 in
theorem put_any (t : List Ent) (e : Ent) (m : Int) (p : Option Addr) (cap : Nat) (w : World) (hL : Lies w p t) (hF : Fits t) (hn : t.length < 4611686018427387904) (hcap : t.length ≤ cap) (hnil : p = none → cap = 0)
    (he : e.path.size ≤ maxLen) (he62 : e.path.size < 4611686018427387904) (het : e.text.size ≤ maxLen) (hm : w.cell? ⟨0, 0, none⟩ = some (.int .i64 m)) :
    Calls Tryz.prog 14 #[.slice p t.length cap, .agg #[.string e.path, .int .i64 e.kind, .string e.text, .bool e.opq]] w (TreePost (putErr t e) (if putErr t e = 0 then putL t e else []) w) := by
  have hwr := fun W (hB : Below w.heap.size w W) => wrong_any t m p cap W (hL.kept hB) hF hn hcap (held hB hm)
  have hwe := fun W (hB : Below w.heap.size w W) => wrongEntry_any e false m W he het (held hB hm)
  have hnd := fun W (hB : Below w.heap.size w W) => noDirFor_any t e.path p cap W (hL.kept hB) hF hn he he62
  have hfi := fun W (hB : Below w.heap.size w W) => find_any t e.path p cap W (hL.kept hB) hF hn he
  have HA : Aside (∀ r : Int, (Sorted t → r = noDirL t (dirOf e.p)) → orL [(faultL false t).1, wrongE e false, r] = putAsk t e) := putAsk_of t e
  have hB1 : Below (w.heap.size + 1) (w.alloc (.cells #[.string e.path, .int .i64 e.kind, .string e.text, .bool e.opq] 28)) (w.alloc (.cells #[.string e.path, .int .i64 e.kind, .string e.text, .bool e.opq] 28)) := Below.refl _ _
  obtain ⟨l, hl⟩ : ∃ l, l = if putErr t e = 0 then putL t e else [] := ⟨_, rfl⟩
  rw [← hl]
  have HL : Aside (l = if putErr t e = 0 then putL t e else []) := hl
  have LI : Aside (Lies w p t) := hL
  clear hl hL hF hcap hm
  obtain ⟨n, hnl⟩ : ∃ n, n = t.length := ⟨_, rfl⟩
  have HN : Aside (n = t.length) := hnl
  rw [← hnl] at hn hwr hnd hfi ⊢
  clear hnl
  obtain ⟨er, her⟩ : ∃ er, er = putErr t e := ⟨_, rfl⟩
  have HR : Aside (er = putErr t e) := her
  rw [← her]
  clear her
  obtain ⟨ask, hask⟩ : ∃ ask, ask = putAsk t e := ⟨_, rfl⟩
  rw [← hask] at HA
  have HK : Aside (ask = putAsk t e) := hask
  clear hask
  generalize (faultL false t).1 = f at hwr HA
  generalize ((faultL false t).2 : Int) = fa at hwr
  generalize wrongE e false = we at hwe HA
  have hfld := field40
  go_enter Tryz.func14, Tryz.ntmps14
  go_wp2
  go_region_held3 (fun w' => w'.cell? ⟨w.heap.size, 0, none⟩ = some (.string e.path) ∧ w'.cell? ⟨w.heap.size, 1, none⟩ = some (.int .i64 e.kind) ∧ w'.cell? ⟨w.heap.size, 2, none⟩ = some (.string e.text) ∧ w'.cell? ⟨w.heap.size, 3, none⟩ = some (.bool e.opq)) (go_keep) (first
    | (go_at_call 31; refine (hwr _ (base1 hB1.drew)).mono ?_; clear hwr; rintro rr w1 ⟨rfl, hN⟩; replace hB1 := up1 hB1.drew hN; clear hN; obtain ⟨⟨c0, c1, c2, c3⟩, _⟩ := new4 (Nat.lt_succ_self _) hB1)
    | (go_at_call 39; refine (hwe _ (base1 hB1)).mono ?_; clear hwe; rintro rr w2 ⟨rfl, hN⟩; replace hB1 := up1 hB1 hN; clear hN; obtain ⟨⟨d0, d1, d2, d3⟩, _⟩ := new4 (Nat.lt_succ_self _) hB1)
    | (go_at_call 40; refine (hnd _ (base1 hB1)).mono ?_; clear hnd; rintro rr w3 ⟨r, rfl, hr, hN⟩; have HE : Aside (orL [f, we, r] = ask) := HA.out r hr; clear hr HA; replace hB1 := up1 hB1 hN; clear hN; obtain ⟨⟨e0, e1, e2, e3⟩, _⟩ := new4 (Nat.lt_succ_self _) hB1)
    | (go_at_call 38; refine (or3_any _ _ _ _).mono ?_; rintro rr w4 ⟨rfl, hw⟩; subst hw; rw [HE.out]))
  replace hB1 := Below.alloc hB1 (by have := hB1.size; simpa using this) (.cells #[.int .i64 f, .int .i64 we, .int .i64 r] 30)
  obtain ⟨⟨k0, k1, k2, k3⟩, _⟩ := new4 (Nat.lt_succ_self _) hB1
  by_cases hask : ask = 0
  · have H1 : Aside (Right false t ∧ wrongE e false = 0 ∧ noDirL t (dirOf e.p) = 0) := putAsk_zero (HK.out.symm.trans hask)
    have hn80 : n ≤ 80 := by rw [HN.out]; exact H1.out.1.len
    have HAK : Aside (putAsk t e = 0) := HK.out.symm.trans hask
    go_wp2_with (first
      | (go_at_call 41; refine (hfi _ (base1 hB1)).mono ?_; clear hfi; rintro rr w4 ⟨i, rfl, hpl, hG⟩; have HP : Aside (PlaceAt t e.p i) := hpl; clear hpl; replace hB1 := up1 hB1 hG.below; clear hG; obtain ⟨⟨g0, g1, g2, g3⟩, _⟩ := new4 (Nat.lt_succ_self _) hB1; rcases found_any HN.out LI.out (base1 hB1) e.path.data.toList i with ⟨hib, y, b, off, hpp, HY, hin, q0, q1, q2, q3⟩ | hib <;> try subst hpp)
      | (at_builtin; refine append_copy _ rfl _ _ rfl w4.heap.size rfl ?_ _ n cap t rfl HN.out ?_ hnil hn80 ?_ ?_))
    · exact empty_row w4 _ rfl
    · exact (LI.out.kept (base1 hB1)).grown ((Grown.refl _).alloc _)
    · simp
    · intro g c w5 hO hg hB5
      have hX : Below w4.heap.size w4 w5 := ((Below.refl _ _).alloc (Nat.le_refl _) _).trans hB5
      replace hB1 := up1 hB1 hX
      obtain ⟨⟨j0, j1, j2, j3⟩, _⟩ := new4 (Nat.lt_succ_self _) hB1
      have hb4 : b < w4.heap.size := block_lt_of_cell q0
      have hb5 : b < w5.heap.size := Nat.lt_of_lt_of_le hb4 hX.size
      have hws : w.heap.size < w5.heap.size := block_lt_of_cell j0
      have G0 := fun n os => cell_grown (w := w5) (a := ⟨b, off + i * 4, none⟩) hb5 ((hX.cell (p := ⟨b, off + i * 4, none⟩) hb4).trans q0) n os
      have G1 := fun n os => cell_grown (w := w5) (a := ⟨b, off + i * 4 + 1, none⟩) hb5 ((hX.cell (p := ⟨b, off + i * 4 + 1, none⟩) hb4).trans q1) n os
      have G2 := fun n os => cell_grown (w := w5) (a := ⟨b, off + i * 4 + 2, none⟩) hb5 ((hX.cell (p := ⟨b, off + i * 4 + 2, none⟩) hb4).trans q2) n os
      have G3 := fun n os => cell_grown (w := w5) (a := ⟨b, off + i * 4 + 3, none⟩) hb5 ((hX.cell (p := ⟨b, off + i * 4 + 3, none⟩) hb4).trans q3) n os
      have J0 := fun n os => cell_grown (w := w5) (a := ⟨w.heap.size, 0, none⟩) hws j0 n os
      have J1 := fun n os => cell_grown (w := w5) (a := ⟨w.heap.size, 1, none⟩) hws j1 n os
      have J2 := fun n os => cell_grown (w := w5) (a := ⟨w.heap.size, 2, none⟩) hws j2 n os
      have J3 := fun n os => cell_grown (w := w5) (a := ⟨w.heap.size, 3, none⟩) hws j3 n os
      have hgw4 : w.heap.size < w4.heap.size := block_lt_of_cell g0
      have hgw : w.heap.size < g := by omega
      have hdy : ∀ W, Calls Tryz.prog 42 #[.agg #[.string y.path, .int .i64 y.kind, .string y.text, .bool y.opq]] W fun r w' => r = .returned (.bool (y.kind == 2)) ∧ ∃ q os', w' = grow (W.drewN q) os' := fun W => isDir_any y W
      have hde : ∀ W, Calls Tryz.prog 42 #[.agg #[.string e.path, .int .i64 e.kind, .string e.text, .bool e.opq]] W fun r w' => r = .returned (.bool (e.kind == 2)) ∧ ∃ q os', w' = grow (W.drewN q) os' := fun W => isDir_any e W
      have HER : Aside (er = if (y.kind == 2) = (e.kind == 2) then 0 else 7) := HR.out.trans (putErr_there HAK.out (List.mem_of_getElem? HY.out.1) HY.out.2)
      generalize (y.kind == 2) = by' at hdy HER
      generalize (e.kind == 2) = be' at hde HER
      have mixed : Tryz.prog.follows .mixedOrders = true := by kernel_rfl
      clear q0 q1 q2 q3 hX hB5 g0 g1 g2 g3 k0 k1 k2 k3
      by_cases hbb : by' = be'
      · subst hbb
        have HE0 : Aside (er = 0) := by show _ = _; rw [HER.out, if_pos rfl]
        cases by'
        all_goals
          go_wp2
          go_quiet_grown (first | exact Calls.grown_of (hdy _) | exact Calls.grown_of (hde _))
          obtain ⟨W6, hW6⟩ : ∃ W6, W6 = grow (w5.drewN nq) osq := ⟨_, rfl⟩
          have hG6 : Grown w5 W6 := ⟨nq, osq, hW6⟩
          show Exit.then _ _ Exit.normal _ (grow (w5.drewN nq) osq)
          rw [← hW6]
          clear hW6 hdy hde G0 G1 G2 G3 J0 J1 J2 J3
          replace hB1 := up1 hB1 hG6.below
          obtain ⟨⟨m0, m1, m2, m3⟩, _⟩ := new4 (Nat.lt_succ_self _) hB1
          obtain ⟨⟨a0, a1, a2, a3⟩, ⟨f0, f1, f2, f3⟩⟩ := (hO.grown hG6).cells HY.out.1
          go_wp2
          go_ret2
          exact put_set_end HP.out H1.out.1.sorted HY.out HN.out HE0.out HR.out HL.out (hO.grown hG6) (base1 hB1) (Nat.le_of_lt hgw)
      · have HE7 : Aside (er = 7) := by show _ = _; rw [HER.out, if_neg hbb]
        have HLn : Aside (l = []) := by show _ = _; rw [HL.out, if_neg]; rw [← HR.out, HE7.out]; decide
        cases by' <;> cases be' <;> first | exact absurd rfl hbb | skip
        all_goals
          go_wp2
          go_quiet_grown (first | exact Calls.grown_of (hdy _) | exact Calls.grown_of (hde _))
          obtain ⟨W6, hW6⟩ : ∃ W6, W6 = grow (w5.drewN nq) osq := ⟨_, rfl⟩
          have hG6 : Grown w5 W6 := ⟨nq, osq, hW6⟩
          show Exit.then _ _ Exit.normal _ (grow (w5.drewN nq) osq)
          rw [← hW6]
          clear hW6 hdy hde G0 G1 G2 G3 J0 J1 J2 J3
          replace hB1 := up1 hB1 hG6.below
          go_wp2
          go_ret2
          rw [HE7.out, HLn.out]
          exact TreePost.none (base1 hB1)
    · exact empty_row w4 _ rfl
    · exact (LI.out.kept (base1 hB1)).grown ((Grown.refl _).alloc _)
    · simp
    · intro g c w5 hO hg hB5
      have hX : Below w4.heap.size w4 w5 := ((Below.refl _ _).alloc (Nat.le_refl _) _).trans hB5
      replace hB1 := up1 hB1 hX
      obtain ⟨⟨j0, j1, j2, j3⟩, _⟩ := new4 (Nat.lt_succ_self _) hB1
      have hgw4 : w.heap.size < w4.heap.size := block_lt_of_cell g0
      have hgw : w.heap.size < g := by omega
      have hno : ∀ x ∈ t, x.p ≠ e.p := fun x hx hxp => by have := (HP.out.there H1.out.1.sorted).2 ⟨x, hx, hxp⟩; rw [show e.p = e.path.data.toList from rfl, hib] at this; cases this
      have HER : Aside (er = if n = 80 then 5 else 0) := by show _ = _; rw [HR.out, putErr_not HAK.out hno, HN.out]
      have HO5 : Aside (Own w5 g c t) := hO
      clear hX hB5 g0 g1 g2 g3 k0 k1 k2 k3 hno hO
      by_cases h80 : n = 80
      · have HE5 : Aside (er = 5) := by show _ = _; rw [HER.out, if_pos h80]
        have HLn : Aside (l = []) := by show _ = _; rw [HL.out, if_neg]; rw [← HR.out, HE5.out]; decide
        have h80' : ((n : Int) == 80) = true := by simp; omega
        clear h80
        go_wp2
        go_quiet (fail)
        go_wp2
        go_ret2
        rw [HE5.out, HLn.out]
        exact TreePost.none (below_drewN (base1 hB1) _)
      · have HE0 : Aside (er = 0) := by show _ = _; rw [HER.out, if_neg h80]
        have h80' : ((n : Int) == 80) = false := by simp; omega
        have hglt : g < w5.heap.size := HO5.out.lt
        have hins : ∀ W : World, Below w5.heap.size w5 W → Calls Tryz.prog 43 #[.slice (some ⟨g, 0, none⟩) n c, .int .i64 i, .slice (some ⟨W.heap.size, 0, none⟩) 1 1] (W.alloc (.cells #[.string e.path, .int .i64 e.kind, .string e.text, .bool e.opq] 28)) (InsPost (t.take i ++ e :: t.drop i) g (W.alloc (.cells #[.string e.path, .int .i64 e.kind, .string e.text, .bool e.opq] 28))) := fun W hW => by
          have := insert_any t e i g c (W.alloc (.cells #[.string e.path, .int .i64 e.kind, .string e.text, .bool e.opq] 28)) ((HO5.out.below hW hglt).grown ((Grown.refl _).alloc _)) W.heap.size (by show (W.heap.push _)[W.heap.size]? = _; simp; rfl) (by have := hW.size; omega) HP.out.le (by rw [← HN.out]; omega)
          rw [← HN.out] at this
          exact this
        clear h80
        obtain ⟨tl, htl⟩ : ∃ tl, tl = t.take i ++ e :: t.drop i := ⟨_, rfl⟩
        simp only [← htl] at hins
        have HTL : Aside (tl = t.take i ++ e :: t.drop i) := htl
        clear htl
        go_wp2
        go_quiet (fail)
        go_wp2_with (go_at_call 43; refine (hins _ (below_drewN (Below.refl _ _) _)).mono ?_; clear hins; rintro rr w7 ⟨g', c', rfl, hO7, hg7, hgb7⟩)
        go_ret2
        have hwle := (base1 hB1).size
        have hg7' : w.heap.size ≤ g' := by
          rcases hg7 with h | h
          · omega
          · simp at h; omega
        have htl := HTL.out
        subst htl
        exact put_ins_end HP.out H1.out.1.sorted hib HE0.out HR.out HL.out hO7 (Below.alloc (below_drewN (base1 hB1) _) (by simpa using hwle) _) hgb7 (Nat.le_of_lt hgw) hg7'
  · have HEA : Aside (er = ask) := by show _ = _; rw [HR.out, HK.out]; exact putErr_asked (fun h => hask (HK.out.trans h))
    have HLn : Aside (l = []) := by show _ = _; rw [HL.out, if_neg]; rw [← HR.out, HEA.out]; exact hask
    go_wp2
    go_ret2
    rw [HEA.out, HLn.out]
    exact TreePost.none (base1 hB1)
end Go.Proofs.YtampldoimpfjgabGreatDoor
