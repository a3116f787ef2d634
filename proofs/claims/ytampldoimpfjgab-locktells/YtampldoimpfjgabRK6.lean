/-
  The document's own SetLock: what is held, and the owners' runs.
-/
import Derived.Test.YtampldoimpfjgabRK5
import Derived.Test.YtampldoimpfjgabRK3
namespace Go.Proofs.Ytampldoimpfjgab
open Go.RowKit Go.Sort KM
set_option linter.unusedVariables false

/-- 'append(v, r...)': a row behind a row of the call's own. -/
theorem append_rows {ops : Array Oper} {rest : List Oper} {o : Oper} {a : Act} {Q : Exit → Act → World → Prop} (X : World) (hgd : o.guard = none) (s x : Operand)
    (ho : o.op = .call { callee := .builtin .append, args := #[s, x], argTypes := #[22, 22] }) (base : Nat) (v : Value) (l : List Lk) (hs : a.eval s = v) (hrow : Rows X base v l) (hbase : base ≤ X.heap.size)
    (b2 : Nat) (vr : Value) (m : List Lk) (hx : a.eval x = vr) (hr : Rows X b2 vr m) (hlen : (l.length + m.length) * 32 ≤ 140737488355328)
    (h : ∀ v' w', Rows w' base v' (l ++ m) → Below base X w' → wpList Try.prog ops Q rest (a.put o.dst v') w') :
    wpList Try.prog ops Q (o :: rest) a X := by
  obtain ⟨i0, hi, hz0, hz1, hz2⟩ := infoK
  obtain ⟨p, c, rfl, hL, hc, hnil⟩ := hr.form
  cases p with
  | none =>
    obtain rfl : c = 0 := hnil rfl
    have hm : m = [] := by
      rcases hL with h | ⟨b, off, he, _⟩
      · exact h
      · cases he
    subst hm
    refine wpList_append_own_none hgd s x 22 ho base 24 i0 4 Try.underlying22 hi v _ _ hs hrow hx ?_
    have := h v X (by simpa using hrow) (Below.refl _ _)
    exact this
  | some ad =>
    refine wpList_append_own X hgd s x 22 ho base 24 i0 _ 4 32 Try.underlying22 hi hz0 hz1 hz2 rfl (by decide) _ _ _ hs hrow ad m.length c (m.flatMap encK) hx (by rw [flat_len]) (hL.flat (Below.refl _ _)) (fun u hu => flat_one hu) (by unfold maxLen; omega) (by omega) hbase ?_
    intro v' w' hown hgrow _
    refine h v' w' (by simpa [Rows, List.flatMap_append] using hown) ((Below.refl base X).grown hgrow hbase (fun j hj => (World.ownsRow.lt hrow j hj).1))
theorem any_take {l : List Lk} {x : Lk} {j : Nat} (h : ∀ y ∈ l.take j, clash x y = false) (hj : l.length ≤ j) : l.any (clash x) = false := by
  rw [List.take_of_length_le hj] at h
  rw [List.any_eq_false]
  intro y hy
  simp [h y hy]
/-- The owners' bytes and runs. -/
structure RefD (l : List Lk) (p : Option Addr) (n cap : Nat) (w : World) : Prop where
  bytes : ∀ (o : Nat) W, Below w.heap.size w W → Calls Try.prog 27 #[.slice p n cap, .int .i64 (o : Int)] W fun r w' => r = .returned (.slice (some ⟨W.heap.size, 0, none⟩) 1001 1001) ∧ Ints w' W.heap.size (bytesF (o : Int) (fun _ => 0) l) ∧ Below W.heap.size W w'
theorem refD (l : List Lk) (p : Option Addr) (cap : Nat) (w : World) (hL : Lies w p l) (hn : l.length ≤ 40) (hok : ∀ x ∈ l, okK x) : RefD l p l.length cap w :=
  ⟨fun o W hB => refBytes_any l o p cap W (hL.kept hB) hn hok⟩
set_option maxHeartbeats 800000 in
theorem set_3 (l : List Lk) (x : Lk) (how : Int) (p : Option Addr) (n cap : Nat) (w : World) (hC : RefC l x p n cap w) (h1 : (faultK l).1 = 0) (h2 : (faultK [x]).1 = 0) (hN : n = l.length) (hL : Lies w p l) (hP : preErr l x = 0) (hn : n < 4611686018427387904) (hpos : 0 < how) (hany : l.any (clash x) = true) :
    Calls Try.prog 12 #[.slice p n cap, .agg #[.int .i64 x.o, .int .i64 x.f, .int .i64 x.t, .bool x.a], .int .i64 how] w (ChangePost false l x w) := by
  have HP : Aside (preErr l x = 0) := hP
  have HN : Aside (n = l.length) := hN
  have HL : Aside (Lies w p l) := hL
  clear hP hN hL
  have HANY : Aside (l.any (clash x) = true) := hany
  clear hany
  have hw1 := hC.wr1
  have hw2 := hC.wr2
  unfold WrongPost at hw1
  rw [h1] at hw1
  rw [h2] at hw2
  generalize (faultK [x]).2 = f2' at *
  generalize (faultK l).2 = f1' at *
  clear hC h1 h2
  have I : Below (w.heap.size + 1) (w.alloc (.cells #[.int .i64 x.o, .int .i64 x.f, .int .i64 x.t, .bool x.a] 24)) (w.alloc (.cells #[.int .i64 x.o, .int .i64 x.f, .int .i64 x.t, .bool x.a] 24)) := Below.refl _ _
  have hfld := field27
  go_enter Try.func12, Try.ntmps12
  go_wp2_with (first
    | (go_at_call 8; refine (hw1 _ (base1 I)).mono ?_; clear hw1; rintro e w3 ⟨rfl, hN⟩; replace I := upA (o2 := .cells #[.int .i64 0, .int .i64 f1'] 27) (up1 I hN); clear hN; obtain ⟨⟨q0, q1, q2, q3⟩, _⟩ := new4 (Nat.lt_succ_self _) I)
    | (go_at_call 8; refine (hw2 _ (w3.heap.size + 1) (by simp)).mono ?_; clear hw2; rintro e w4 ⟨rfl, hN⟩; replace I := upA (o2 := .cells #[.int .i64 0, .int .i64 f2'] 27) (up1 I hN); clear hN q0 q1 q2 q3))
  have HB0 : Aside (Below (w.heap.size + 1) (w.alloc (.cells #[.int .i64 x.o, .int .i64 x.f, .int .i64 x.t, .bool x.a] 24)) (w4.alloc (.cells #[.int .i64 0, .int .i64 f2'] 27))) := I
  clear I
  go_loopg [35] n (fun gg sl wr => ∃ j : Nat, j ≤ n ∧ n - j ≤ gg ∧ sl = .int .i64 j ∧ Aside (Below (w.heap.size + 1) (w.alloc (.cells #[.int .i64 x.o, .int .i64 x.f, .int .i64 x.t, .bool x.a] 24)) wr) ∧ Aside (∀ y ∈ l.take j, clash x y = false))
  case atStart => exact ⟨0, Nat.zero_le _, by omega, rfl, HB0.out, by intro y hy; simp at hy⟩
  case round =>
    obtain ⟨j, hj, hg, rfl, J, HA⟩ := hrel
    obtain ⟨⟨q0, q1, q2, q3⟩, _⟩ := new4 (Nat.lt_succ_self _) J.out
    have hJs := J.out.size
    simp only [World.size_alloc] at hJs
    have hxl : w.heap.size < wr.heap.size := by omega
    by_cases hlt : j < n
    · have hltz : (j : Int) < (n : Int) := by omega
      obtain ⟨y, hy⟩ : ∃ y, l[j]? = some y := ⟨_, List.getElem?_eq_getElem (by have := HN.out; omega)⟩
      have HY : Aside (l[j]? = some y) := hy
      rcases HL.out with h0 | ⟨b, off, rfl, hb, hc⟩
      · rw [h0] at hy; simp at hy
      obtain ⟨c0, c1, c2, c3⟩ := Lies.cells hc hb (base1 J.out) hy
      have hbw : b < wr.heap.size := by omega
      have hbn : b ≠ wr.heap.size := by omega
      have hX : Below wr.heap.size wr (wr.alloc (.cells #[.int .i64 y.o, .int .i64 y.f, .int .i64 y.t, .bool y.a] 24)) := ((Grown.refl wr).alloc _).below
      clear hc hy
      cases hcl : clash x y
      · have hcc := fun W => refClash_any x y W
        rw [hcl] at hcc
        have HA2 : Aside (∀ z ∈ l.take (j + 1), clash x z = false) := take_false HY.out hcl HA.out
        clear hcl
        go_wp2_with (go_at_call 10; refine (hcc _).mono ?_; clear hcc; rintro r w5 ⟨rfl, hG⟩; have HJ3 : Aside (Below (w.heap.size + 1) (w.alloc (.cells #[.int .i64 x.o, .int .i64 x.f, .int .i64 x.t, .bool x.a] 24)) w5) := up1 J.out (Below.onto hX hG.below); clear hG)
        go_roundg (n - (j + 1))
        case measure => omega
        case rel => exact ⟨j + 1, by omega, by omega, by go_num, HJ3.out, HA2.out⟩
      · have hcc := fun W => refClash_any x y W
        rw [hcl] at hcc
        clear hcl
        go_wp2_with (go_at_call 10; refine (hcc _).mono ?_; clear hcc; rintro r w5 ⟨rfl, hG⟩; have HJ3 : Aside (Below (w.heap.size + 1) (w.alloc (.cells #[.int .i64 x.o, .int .i64 x.f, .int .i64 x.t, .bool x.a] 24)) w5) := up1 J.out (Below.onto hX hG.below); clear hG)
        go_ret2
        exact ⟨.slice none 0 0, 13, [], rfl, Rows.nil _ _, .inr (.inl ⟨HP.out, rfl, HANY.out, rfl, rfl⟩), base1 HJ3.out⟩
    · have hltz : ¬ (j : Int) < (n : Int) := by omega
      exact absurd (HANY.out.symm.trans (any_take HA.out (by have := HN.out; omega))) (by decide)
set_option maxHeartbeats 800000 in
theorem set_4 (l : List Lk) (x : Lk) (how : Int) (p : Option Addr) (n cap : Nat) (w : World) (hC : RefC l x p n cap w) (h1 : (faultK l).1 = 0) (h2 : (faultK [x]).1 = 0) (hN : n = l.length) (hL : Lies w p l) (hP : preErr l x = 0) (hn : n < 4611686018427387904) (hD : RefD l p n cap w) (hx : okK x) (hhow : how = howOf true x) (hpos : ¬ 0 < how) :
    Calls Try.prog 12 #[.slice p n cap, .agg #[.int .i64 x.o, .int .i64 x.f, .int .i64 x.t, .bool x.a], .int .i64 how] w (ChangePost true l x w) := by
  have HP : Aside (preErr l x = 0) := hP
  have HN : Aside (n = l.length) := hN
  have HL : Aside (Lies w p l) := hL
  clear hP hN hL
  have HOX : Aside (okK x) := hx
  have HHW : Aside (how = howOf true x) := hhow
  have hby := hD.bytes
  have HHT : Aside (how = 0 ∨ how = 1 ∨ how = 2) := by show _ ∨ _; rw [hhow]; exact howOf_three _ _
  obtain ⟨kf, hkf⟩ := Int.eq_ofNat_of_zero_le hx.2.2.1
  obtain ⟨kt, hkt⟩ := Int.eq_ofNat_of_zero_le (show 0 ≤ x.t by have := hx.2.2.1; have := hx.2.2.2.1; omega)
  have hft : kf < kt := by have := hx.2.2.2.1; omega
  have hk1000 : kt ≤ 1000 := by have := hx.2.2.2.2; omega
  have HKF : Aside (x.f = (kf : Int)) := hkf
  have HKT : Aside (x.t = (kt : Int)) := hkt
  clear hx hhow hD hkf hkt
  have hw1 := hC.wr1
  have hw2 := hC.wr2
  unfold WrongPost at hw1
  rw [h1] at hw1
  rw [h2] at hw2
  generalize (faultK [x]).2 = f2' at *
  generalize (faultK l).2 = f1' at *
  clear hC h1 h2
  have I : Below (w.heap.size + 1) (w.alloc (.cells #[.int .i64 x.o, .int .i64 x.f, .int .i64 x.t, .bool x.a] 24)) (w.alloc (.cells #[.int .i64 x.o, .int .i64 x.f, .int .i64 x.t, .bool x.a] 24)) := Below.refl _ _
  have hfld := field27
  go_enter Try.func12, Try.ntmps12
  go_wp2_with (first
    | (go_at_call 8; refine (hw1 _ (base1 I)).mono ?_; clear hw1; rintro e w3 ⟨rfl, hN⟩; replace I := upA (o2 := .cells #[.int .i64 0, .int .i64 f1'] 27) (up1 I hN); clear hN; obtain ⟨⟨q0, q1, q2, q3⟩, _⟩ := new4 (Nat.lt_succ_self _) I)
    | (go_at_call 8; refine (hw2 _ (w3.heap.size + 1) (by simp)).mono ?_; clear hw2; rintro e w4 ⟨rfl, hN⟩; replace I := upA (o2 := .cells #[.int .i64 0, .int .i64 f2'] 27) (up1 I hN); clear hN q0 q1 q2 q3))
  have HB1 : Aside (Below (w.heap.size + 1) (w.alloc (.cells #[.int .i64 x.o, .int .i64 x.f, .int .i64 x.t, .bool x.a] 24)) (w4.alloc (.cells #[.int .i64 0, .int .i64 f2'] 27))) := I
  clear I
  go_loopg [12, 13] 4 (fun gg s9 s10 wr => ∃ (o : Nat) (out : List Lk), o ≤ 4 ∧ 4 - o ≤ gg ∧ s10 = .int .i64 o ∧ Aside (Rows wr (w.heap.size + 1) s9 out ∧ RunsTo (setF l x how) o out) ∧ Aside (Below (w.heap.size + 1) (w.alloc (.cells #[.int .i64 x.o, .int .i64 x.f, .int .i64 x.t, .bool x.a] 24)) wr))
  case atStart => exact ⟨0, [], by omega, by omega, rfl, (⟨Rows.nil _ _, runsTo_nil _⟩ : _ ∧ _), HB1.out⟩
  case round =>
    obtain ⟨o, out, ho4, hgo, rfl, RO, J⟩ := hrel
    obtain ⟨pv, cv, rfl, _, _, _⟩ := RO.out.1.form
    generalize hno : out.length = no at RO
    have HNO : Aside (out.length = no) := hno
    clear hno
    by_cases ho : o < 4
    · have hoz : (o : Int) < 4 := by omega
      have hby2 := hby o _ (base1 J.out)
      obtain ⟨W1, rfl⟩ : ∃ W1, W1 = wr := ⟨_, rfl⟩
      have hJs := J.out.size
      simp only [World.size_alloc] at hJs
      go_wp2_with (go_at_call 27; refine hby2.mono ?_; clear hby2; rintro r w5 ⟨rfl, hI5, hB5⟩; have HI5 : Aside (Ints w5 W1.heap.size (bytesF (o : Int) (fun _ => 0) l) ∧ Below W1.heap.size W1 w5) := ⟨hI5, hB5⟩; have hg5 := hI5.lt; clear hI5 hB5; obtain ⟨⟨e0, e1, e2, e3⟩, _⟩ := new4 (Nat.lt_succ_self _) (up1 J.out HI5.out.2); rw [HKF.out] at e1; rw [HKT.out] at e2)
      clear e0 e1 e2 e3
      go_loopg [15] 1001 (fun gg s15 wr2 => ∃ kk : Nat, kf ≤ kk ∧ kk ≤ kt ∧ 1001 - kk ≤ gg ∧ s15 = .int .i64 kk ∧ Aside (Ints wr2 W1.heap.size (fun i => if (o : Int) = x.o ∧ kf ≤ i ∧ i < kk then how else bytesF (o : Int) (fun _ => 0) l i) ∧ Below W1.heap.size W1 wr2))
      case atStart => exact ⟨kf, Nat.le_refl _, by omega, by omega, rfl, (⟨HI5.out.1.congr (fun i _ => by rw [if_neg (by omega)]), HI5.out.2⟩ : _ ∧ _)⟩
      case round =>
        obtain ⟨kk, hk1, hk2, hg2, rfl, Q⟩ := hrel
        obtain ⟨⟨e0, e1, e2, e3⟩, _⟩ := new4 (Nat.lt_succ_self _) (up1 J.out Q.out.2)
        rw [HKF.out] at e1
        rw [HKT.out] at e2
        by_cases hkt : kk < kt
        · have hktz : (kk : Int) < (kt : Int) := by omega
          by_cases hox : (o : Int) = x.o
          · have hob : ((o : Int) == x.o) = true := by rw [hox]; simp
            have hk1001 : kk < 1001 := by omega
            have hkz : (kk : Int) < 1001 := by omega
            obtain ⟨d0, d1⟩ := Q.out.1.cell hk1001
            have HQ : Aside (Ints (wr.setCell ⟨W1.heap.size, kk, none⟩ (.int .i64 how)) W1.heap.size (fun i => if (o : Int) = x.o ∧ kf ≤ i ∧ i < kk + 1 then how else bytesF (o : Int) (fun _ => 0) l i) ∧ Below W1.heap.size W1 (wr.setCell ⟨W1.heap.size, kk, none⟩ (.int .i64 how))) :=
              ⟨(Q.out.1.set hk1001 how).congr (fun i _ => by simp only [hox, true_and]; split <;> split <;> first | rfl | omega | (split <;> first | rfl | omega)), Q.out.2.setCell (Nat.le_refl _) _⟩
            clear hox
            go_wp2
            go_roundg (1001 - (kk + 1))
            case measure => omega
            case rel => exact ⟨kk + 1, by omega, by omega, by omega, by go_num, HQ.out⟩
          · have hob : ((o : Int) == x.o) = false := beq_eq_false_iff_ne.2 hox
            have HI6 : Aside (Ints wr W1.heap.size (setF l x how (o : Int))) := Q.out.1.congr (fun i _ => by unfold setF; rw [if_neg (fun h => hox h.1), if_neg (fun h => hox h.1)])
            clear hox
            have hsw : w.heap.size + 1 ≤ wr.heap.size := by have := Q.out.2.size; omega
            have HR5 : Aside (Rows wr (w.heap.size + 1) (.slice pv no cv) out) := RO.out.1.below Q.out.2
            have hrn := refRuns_any (setF l x how (o : Int)) W1.heap.size (o : Int) wr HI6.out (fun k _ => setF_three l x how (o : Int) k HHT.out)
            go_wp2_with (first
              | (go_at_call 28; refine hrn.mono ?_; clear hrn; rintro r w6 ⟨vr, outr, rfl, hR6, hU6, hl6, hB6⟩; have HR6 : Aside (Rows w6 wr.heap.size vr outr ∧ RunsOf (o : Int) (setF l x how (o : Int)) 1000 outr ∧ outr.length ≤ 1000 ∧ Below wr.heap.size wr w6) := ⟨hR6, hU6, hl6, hB6⟩; clear hR6 hU6 hl6 hB6)
              | (at_builtin; refine append_rows _ rfl _ _ rfl (w.heap.size + 1) (.slice pv no cv) out rfl (HR5.out.below HR6.out.2.2.2) (by have := HR6.out.2.2.2.size; omega) wr.heap.size vr outr rfl HR6.out.1 (by have := HR6.out.2.2.1; have := RO.out.2.len; omega) ?_))
            intro v7 w7 hR7 hB7
            have HR7 : Aside (Rows w7 (w.heap.size + 1) v7 (out ++ outr) ∧ RunsTo (setF l x how) (o + 1) (out ++ outr)) := ⟨hR7, runsTo_step RO.out.2 HR6.out.2.1 HR6.out.2.2.1⟩
            have HB7 : Aside (Below (w.heap.size + 1) (w.alloc (.cells #[.int .i64 x.o, .int .i64 x.f, .int .i64 x.t, .bool x.a] 24)) w7) := (up1 (up1 J.out Q.out.2) HR6.out.2.2.2).trans (hB7.mono (Nat.le_refl _))
            clear hR7 hB7
            go_wp2
            go_roundg (4 - (o + 1))
            case measure => omega
            case rel => exact ⟨o + 1, out ++ outr, by omega, Nat.le_refl _, by go_num, HR7.out, HB7.out⟩
        · have hktz : ¬ (kk : Int) < (kt : Int) := by omega
          have HI6 : Aside (Ints wr W1.heap.size (setF l x how (o : Int))) := Q.out.1.congr (fun i _ => by
            unfold setF
            rw [HKF.out, HKT.out]
            by_cases h : (o : Int) = x.o ∧ kf ≤ i ∧ i < kk
            · rw [if_pos h, if_pos ⟨h.1, by omega, by omega⟩]
            · rw [if_neg h, if_neg (fun g => h ⟨g.1, by omega, by omega⟩)])
          have hsw : w.heap.size + 1 ≤ wr.heap.size := by have := Q.out.2.size; omega
          have HR5 : Aside (Rows wr (w.heap.size + 1) (.slice pv no cv) out) := RO.out.1.below Q.out.2
          have hrn := refRuns_any (setF l x how (o : Int)) W1.heap.size (o : Int) wr HI6.out (fun k _ => setF_three l x how (o : Int) k HHT.out)
          go_wp2_with (first
            | (go_at_call 28; refine hrn.mono ?_; clear hrn; rintro r w6 ⟨vr, outr, rfl, hR6, hU6, hl6, hB6⟩; have HR6 : Aside (Rows w6 wr.heap.size vr outr ∧ RunsOf (o : Int) (setF l x how (o : Int)) 1000 outr ∧ outr.length ≤ 1000 ∧ Below wr.heap.size wr w6) := ⟨hR6, hU6, hl6, hB6⟩; clear hR6 hU6 hl6 hB6)
            | (at_builtin; refine append_rows _ rfl _ _ rfl (w.heap.size + 1) (.slice pv no cv) out rfl (HR5.out.below HR6.out.2.2.2) (by have := HR6.out.2.2.2.size; omega) wr.heap.size vr outr rfl HR6.out.1 (by have := HR6.out.2.2.1; have := RO.out.2.len; omega) ?_))
          intro v7 w7 hR7 hB7
          have HR7 : Aside (Rows w7 (w.heap.size + 1) v7 (out ++ outr) ∧ RunsTo (setF l x how) (o + 1) (out ++ outr)) := ⟨hR7, runsTo_step RO.out.2 HR6.out.2.1 HR6.out.2.2.1⟩
          have HB7 : Aside (Below (w.heap.size + 1) (w.alloc (.cells #[.int .i64 x.o, .int .i64 x.f, .int .i64 x.t, .bool x.a] 24)) w7) := (up1 (up1 J.out Q.out.2) HR6.out.2.2.2).trans (hB7.mono (Nat.le_refl _))
          clear hR7 hB7
          go_wp2
          go_roundg (4 - (o + 1))
          case measure => omega
          case rel => exact ⟨o + 1, out ++ outr, by omega, Nat.le_refl _, by go_num, HR7.out, HB7.out⟩
    · have hoz : ¬ (o : Int) < 4 := by omega
      obtain rfl : o = 4 := by omega
      have HSP : Aside (RightK out ∧ HasSpec true l x out) := runs_spec (preErr_zero.1 HP.out).1.2 HOX.out (.inl rfl) (by rw [← HHW.out]; exact RO.out.2)
      have HR8 : Aside (Rows wr w.heap.size (.slice pv no cv) out) := RO.out.1.mono (by omega)
      have hlen8 := HNO
      clear RO
      by_cases h40 : (40 : Int) < (no : Int)
      · go_wp2
        go_ret2
        exact ⟨.slice none 0 0, 5, [], rfl, Rows.nil _ _, .inr (.inr ⟨HP.out, .inl rfl, out, HSP.out.1, HSP.out.2, .inl ⟨by have := hlen8.out; omega, rfl, rfl⟩⟩), base1 J.out⟩
      · go_wp2
        go_ret2
        exact ⟨.slice pv no cv, 0, out, rfl, HR8.out, .inr (.inr ⟨HP.out, .inl rfl, out, HSP.out.1, HSP.out.2, .inr ⟨by have := hlen8.out; omega, rfl, rfl⟩⟩), base1 J.out⟩
set_option maxHeartbeats 800000 in
theorem set_5 (l : List Lk) (x : Lk) (how : Int) (p : Option Addr) (n cap : Nat) (w : World) (hC : RefC l x p n cap w) (h1 : (faultK l).1 = 0) (h2 : (faultK [x]).1 = 0) (hN : n = l.length) (hL : Lies w p l) (hP : preErr l x = 0) (hn : n < 4611686018427387904) (hD : RefD l p n cap w) (hx : okK x) (hhow : how = howOf false x) (hpos : 0 < how) (hany : l.any (clash x) = false) :
    Calls Try.prog 12 #[.slice p n cap, .agg #[.int .i64 x.o, .int .i64 x.f, .int .i64 x.t, .bool x.a], .int .i64 how] w (ChangePost false l x w) := by
  have HP : Aside (preErr l x = 0) := hP
  have HN : Aside (n = l.length) := hN
  have HL : Aside (Lies w p l) := hL
  clear hP hN hL
  have HOX : Aside (okK x) := hx
  have HHW : Aside (how = howOf false x) := hhow
  have hby := hD.bytes
  have HHT : Aside (how = 0 ∨ how = 1 ∨ how = 2) := by show _ ∨ _; rw [hhow]; exact howOf_three _ _
  obtain ⟨kf, hkf⟩ := Int.eq_ofNat_of_zero_le hx.2.2.1
  obtain ⟨kt, hkt⟩ := Int.eq_ofNat_of_zero_le (show 0 ≤ x.t by have := hx.2.2.1; have := hx.2.2.2.1; omega)
  have hft : kf < kt := by have := hx.2.2.2.1; omega
  have hk1000 : kt ≤ 1000 := by have := hx.2.2.2.2; omega
  have HKF : Aside (x.f = (kf : Int)) := hkf
  have HKT : Aside (x.t = (kt : Int)) := hkt
  clear hx hhow hD hkf hkt
  have HANY : Aside (l.any (clash x) = false) := hany
  clear hany
  have hw1 := hC.wr1
  have hw2 := hC.wr2
  unfold WrongPost at hw1
  rw [h1] at hw1
  rw [h2] at hw2
  generalize (faultK [x]).2 = f2' at *
  generalize (faultK l).2 = f1' at *
  clear hC h1 h2
  have I : Below (w.heap.size + 1) (w.alloc (.cells #[.int .i64 x.o, .int .i64 x.f, .int .i64 x.t, .bool x.a] 24)) (w.alloc (.cells #[.int .i64 x.o, .int .i64 x.f, .int .i64 x.t, .bool x.a] 24)) := Below.refl _ _
  have hfld := field27
  go_enter Try.func12, Try.ntmps12
  go_wp2_with (first
    | (go_at_call 8; refine (hw1 _ (base1 I)).mono ?_; clear hw1; rintro e w3 ⟨rfl, hN⟩; replace I := upA (o2 := .cells #[.int .i64 0, .int .i64 f1'] 27) (up1 I hN); clear hN; obtain ⟨⟨q0, q1, q2, q3⟩, _⟩ := new4 (Nat.lt_succ_self _) I)
    | (go_at_call 8; refine (hw2 _ (w3.heap.size + 1) (by simp)).mono ?_; clear hw2; rintro e w4 ⟨rfl, hN⟩; replace I := upA (o2 := .cells #[.int .i64 0, .int .i64 f2'] 27) (up1 I hN); clear hN q0 q1 q2 q3))
  have HB0 : Aside (Below (w.heap.size + 1) (w.alloc (.cells #[.int .i64 x.o, .int .i64 x.f, .int .i64 x.t, .bool x.a] 24)) (w4.alloc (.cells #[.int .i64 0, .int .i64 f2'] 27))) := I
  clear I
  go_loopg [35] n (fun gg sl wr => ∃ j : Nat, j ≤ n ∧ n - j ≤ gg ∧ sl = .int .i64 j ∧ Aside (Below (w.heap.size + 1) (w.alloc (.cells #[.int .i64 x.o, .int .i64 x.f, .int .i64 x.t, .bool x.a] 24)) wr) ∧ Aside (∀ y ∈ l.take j, clash x y = false))
  case atStart => exact ⟨0, Nat.zero_le _, by omega, rfl, HB0.out, by intro y hy; simp at hy⟩
  case round =>
    obtain ⟨j, hj, hg, rfl, J, HA⟩ := hrel
    obtain ⟨⟨q0, q1, q2, q3⟩, _⟩ := new4 (Nat.lt_succ_self _) J.out
    have hJs := J.out.size
    simp only [World.size_alloc] at hJs
    have hxl : w.heap.size < wr.heap.size := by omega
    by_cases hlt : j < n
    · have hltz : (j : Int) < (n : Int) := by omega
      obtain ⟨y, hy⟩ : ∃ y, l[j]? = some y := ⟨_, List.getElem?_eq_getElem (by have := HN.out; omega)⟩
      have HY : Aside (l[j]? = some y) := hy
      rcases HL.out with h0 | ⟨b, off, rfl, hb, hc⟩
      · rw [h0] at hy; simp at hy
      obtain ⟨c0, c1, c2, c3⟩ := Lies.cells hc hb (base1 J.out) hy
      have hbw : b < wr.heap.size := by omega
      have hbn : b ≠ wr.heap.size := by omega
      have hX : Below wr.heap.size wr (wr.alloc (.cells #[.int .i64 y.o, .int .i64 y.f, .int .i64 y.t, .bool y.a] 24)) := ((Grown.refl wr).alloc _).below
      clear hc hy
      cases hcl : clash x y
      · have hcc := fun W => refClash_any x y W
        rw [hcl] at hcc
        have HA2 : Aside (∀ z ∈ l.take (j + 1), clash x z = false) := take_false HY.out hcl HA.out
        clear hcl
        go_wp2_with (go_at_call 10; refine (hcc _).mono ?_; clear hcc; rintro r w5 ⟨rfl, hG⟩; have HJ3 : Aside (Below (w.heap.size + 1) (w.alloc (.cells #[.int .i64 x.o, .int .i64 x.f, .int .i64 x.t, .bool x.a] 24)) w5) := up1 J.out (Below.onto hX hG.below); clear hG)
        go_roundg (n - (j + 1))
        case measure => omega
        case rel => exact ⟨j + 1, by omega, by omega, by go_num, HJ3.out, HA2.out⟩
      · exact absurd (HANY.out.symm.trans (List.any_eq_true.2 ⟨y, List.mem_of_getElem? HY.out, hcl⟩)) (by decide)
    · have hltz : ¬ (j : Int) < (n : Int) := by omega
      have HB1 := J
      clear J HA q0 q1 q2 q3
      go_wp2
      go_loopg [12, 13] 4 (fun gg s9 s10 wr => ∃ (o : Nat) (out : List Lk), o ≤ 4 ∧ 4 - o ≤ gg ∧ s10 = .int .i64 o ∧ Aside (Rows wr (w.heap.size + 1) s9 out ∧ RunsTo (setF l x how) o out) ∧ Aside (Below (w.heap.size + 1) (w.alloc (.cells #[.int .i64 x.o, .int .i64 x.f, .int .i64 x.t, .bool x.a] 24)) wr))
      case atStart => exact ⟨0, [], by omega, by omega, rfl, (⟨Rows.nil _ _, runsTo_nil _⟩ : _ ∧ _), HB1.out⟩
      case round =>
        obtain ⟨o, out, ho4, hgo, rfl, RO, J⟩ := hrel
        obtain ⟨pv, cv, rfl, _, _, _⟩ := RO.out.1.form
        generalize hno : out.length = no at RO
        have HNO : Aside (out.length = no) := hno
        clear hno
        by_cases ho : o < 4
        · have hoz : (o : Int) < 4 := by omega
          have hby2 := hby o _ (base1 J.out)
          obtain ⟨W1, rfl⟩ : ∃ W1, W1 = wr := ⟨_, rfl⟩
          have hJs := J.out.size
          simp only [World.size_alloc] at hJs
          go_wp2_with (go_at_call 27; refine hby2.mono ?_; clear hby2; rintro r w5 ⟨rfl, hI5, hB5⟩; have HI5 : Aside (Ints w5 W1.heap.size (bytesF (o : Int) (fun _ => 0) l) ∧ Below W1.heap.size W1 w5) := ⟨hI5, hB5⟩; have hg5 := hI5.lt; clear hI5 hB5; obtain ⟨⟨e0, e1, e2, e3⟩, _⟩ := new4 (Nat.lt_succ_self _) (up1 J.out HI5.out.2); rw [HKF.out] at e1; rw [HKT.out] at e2)
          clear e0 e1 e2 e3
          go_loopg [15] 1001 (fun gg s15 wr2 => ∃ kk : Nat, kf ≤ kk ∧ kk ≤ kt ∧ 1001 - kk ≤ gg ∧ s15 = .int .i64 kk ∧ Aside (Ints wr2 W1.heap.size (fun i => if (o : Int) = x.o ∧ kf ≤ i ∧ i < kk then how else bytesF (o : Int) (fun _ => 0) l i) ∧ Below W1.heap.size W1 wr2))
          case atStart => exact ⟨kf, Nat.le_refl _, by omega, by omega, rfl, (⟨HI5.out.1.congr (fun i _ => by rw [if_neg (by omega)]), HI5.out.2⟩ : _ ∧ _)⟩
          case round =>
            obtain ⟨kk, hk1, hk2, hg2, rfl, Q⟩ := hrel
            obtain ⟨⟨e0, e1, e2, e3⟩, _⟩ := new4 (Nat.lt_succ_self _) (up1 J.out Q.out.2)
            rw [HKF.out] at e1
            rw [HKT.out] at e2
            by_cases hkt : kk < kt
            · have hktz : (kk : Int) < (kt : Int) := by omega
              by_cases hox : (o : Int) = x.o
              · have hob : ((o : Int) == x.o) = true := by rw [hox]; simp
                have hk1001 : kk < 1001 := by omega
                have hkz : (kk : Int) < 1001 := by omega
                obtain ⟨d0, d1⟩ := Q.out.1.cell hk1001
                have HQ : Aside (Ints (wr.setCell ⟨W1.heap.size, kk, none⟩ (.int .i64 how)) W1.heap.size (fun i => if (o : Int) = x.o ∧ kf ≤ i ∧ i < kk + 1 then how else bytesF (o : Int) (fun _ => 0) l i) ∧ Below W1.heap.size W1 (wr.setCell ⟨W1.heap.size, kk, none⟩ (.int .i64 how))) :=
                  ⟨(Q.out.1.set hk1001 how).congr (fun i _ => by simp only [hox, true_and]; split <;> split <;> first | rfl | omega | (split <;> first | rfl | omega)), Q.out.2.setCell (Nat.le_refl _) _⟩
                clear hox
                go_wp2
                go_roundg (1001 - (kk + 1))
                case measure => omega
                case rel => exact ⟨kk + 1, by omega, by omega, by omega, by go_num, HQ.out⟩
              · have hob : ((o : Int) == x.o) = false := beq_eq_false_iff_ne.2 hox
                have HI6 : Aside (Ints wr W1.heap.size (setF l x how (o : Int))) := Q.out.1.congr (fun i _ => by unfold setF; rw [if_neg (fun h => hox h.1), if_neg (fun h => hox h.1)])
                clear hox
                have hsw : w.heap.size + 1 ≤ wr.heap.size := by have := Q.out.2.size; omega
                have HR5 : Aside (Rows wr (w.heap.size + 1) (.slice pv no cv) out) := RO.out.1.below Q.out.2
                have hrn := refRuns_any (setF l x how (o : Int)) W1.heap.size (o : Int) wr HI6.out (fun k _ => setF_three l x how (o : Int) k HHT.out)
                go_wp2_with (first
                  | (go_at_call 28; refine hrn.mono ?_; clear hrn; rintro r w6 ⟨vr, outr, rfl, hR6, hU6, hl6, hB6⟩; have HR6 : Aside (Rows w6 wr.heap.size vr outr ∧ RunsOf (o : Int) (setF l x how (o : Int)) 1000 outr ∧ outr.length ≤ 1000 ∧ Below wr.heap.size wr w6) := ⟨hR6, hU6, hl6, hB6⟩; clear hR6 hU6 hl6 hB6)
                  | (at_builtin; refine append_rows _ rfl _ _ rfl (w.heap.size + 1) (.slice pv no cv) out rfl (HR5.out.below HR6.out.2.2.2) (by have := HR6.out.2.2.2.size; omega) wr.heap.size vr outr rfl HR6.out.1 (by have := HR6.out.2.2.1; have := RO.out.2.len; omega) ?_))
                intro v7 w7 hR7 hB7
                have HR7 : Aside (Rows w7 (w.heap.size + 1) v7 (out ++ outr) ∧ RunsTo (setF l x how) (o + 1) (out ++ outr)) := ⟨hR7, runsTo_step RO.out.2 HR6.out.2.1 HR6.out.2.2.1⟩
                have HB7 : Aside (Below (w.heap.size + 1) (w.alloc (.cells #[.int .i64 x.o, .int .i64 x.f, .int .i64 x.t, .bool x.a] 24)) w7) := (up1 (up1 J.out Q.out.2) HR6.out.2.2.2).trans (hB7.mono (Nat.le_refl _))
                clear hR7 hB7
                go_wp2
                go_roundg (4 - (o + 1))
                case measure => omega
                case rel => exact ⟨o + 1, out ++ outr, by omega, Nat.le_refl _, by go_num, HR7.out, HB7.out⟩
            · have hktz : ¬ (kk : Int) < (kt : Int) := by omega
              have HI6 : Aside (Ints wr W1.heap.size (setF l x how (o : Int))) := Q.out.1.congr (fun i _ => by
                unfold setF
                rw [HKF.out, HKT.out]
                by_cases h : (o : Int) = x.o ∧ kf ≤ i ∧ i < kk
                · rw [if_pos h, if_pos ⟨h.1, by omega, by omega⟩]
                · rw [if_neg h, if_neg (fun g => h ⟨g.1, by omega, by omega⟩)])
              have hsw : w.heap.size + 1 ≤ wr.heap.size := by have := Q.out.2.size; omega
              have HR5 : Aside (Rows wr (w.heap.size + 1) (.slice pv no cv) out) := RO.out.1.below Q.out.2
              have hrn := refRuns_any (setF l x how (o : Int)) W1.heap.size (o : Int) wr HI6.out (fun k _ => setF_three l x how (o : Int) k HHT.out)
              go_wp2_with (first
                | (go_at_call 28; refine hrn.mono ?_; clear hrn; rintro r w6 ⟨vr, outr, rfl, hR6, hU6, hl6, hB6⟩; have HR6 : Aside (Rows w6 wr.heap.size vr outr ∧ RunsOf (o : Int) (setF l x how (o : Int)) 1000 outr ∧ outr.length ≤ 1000 ∧ Below wr.heap.size wr w6) := ⟨hR6, hU6, hl6, hB6⟩; clear hR6 hU6 hl6 hB6)
                | (at_builtin; refine append_rows _ rfl _ _ rfl (w.heap.size + 1) (.slice pv no cv) out rfl (HR5.out.below HR6.out.2.2.2) (by have := HR6.out.2.2.2.size; omega) wr.heap.size vr outr rfl HR6.out.1 (by have := HR6.out.2.2.1; have := RO.out.2.len; omega) ?_))
              intro v7 w7 hR7 hB7
              have HR7 : Aside (Rows w7 (w.heap.size + 1) v7 (out ++ outr) ∧ RunsTo (setF l x how) (o + 1) (out ++ outr)) := ⟨hR7, runsTo_step RO.out.2 HR6.out.2.1 HR6.out.2.2.1⟩
              have HB7 : Aside (Below (w.heap.size + 1) (w.alloc (.cells #[.int .i64 x.o, .int .i64 x.f, .int .i64 x.t, .bool x.a] 24)) w7) := (up1 (up1 J.out Q.out.2) HR6.out.2.2.2).trans (hB7.mono (Nat.le_refl _))
              clear hR7 hB7
              go_wp2
              go_roundg (4 - (o + 1))
              case measure => omega
              case rel => exact ⟨o + 1, out ++ outr, by omega, Nat.le_refl _, by go_num, HR7.out, HB7.out⟩
        · have hoz : ¬ (o : Int) < 4 := by omega
          obtain rfl : o = 4 := by omega
          have HSP : Aside (RightK out ∧ HasSpec false l x out) := runs_spec (preErr_zero.1 HP.out).1.2 HOX.out (.inr HANY.out) (by rw [← HHW.out]; exact RO.out.2)
          have HR8 : Aside (Rows wr w.heap.size (.slice pv no cv) out) := RO.out.1.mono (by omega)
          have hlen8 := HNO
          clear RO
          by_cases h40 : (40 : Int) < (no : Int)
          · go_wp2
            go_ret2
            exact ⟨.slice none 0 0, 5, [], rfl, Rows.nil _ _, .inr (.inr ⟨HP.out, .inr HANY.out, out, HSP.out.1, HSP.out.2, .inl ⟨by have := hlen8.out; omega, rfl, rfl⟩⟩), base1 J.out⟩
          · go_wp2
            go_ret2
            exact ⟨.slice pv no cv, 0, out, rfl, HR8.out, .inr (.inr ⟨HP.out, .inr HANY.out, out, HSP.out.1, HSP.out.2, .inr ⟨by have := hlen8.out; omega, rfl, rfl⟩⟩), base1 J.out⟩
/-- What the document's own SetLock answers. -/
theorem refSet_any (free : Bool) (l : List Lk) (x : Lk) (how : Int) (p : Option Addr) (cap : Nat) (w : World) (hL : Lies w p l) (hn : l.length < 4611686018427387904) (hcap : l.length ≤ cap) (hhow : how = howOf free x) :
    Calls Try.prog 12 #[.slice p l.length cap, .agg #[.int .i64 x.o, .int .i64 x.f, .int .i64 x.t, .bool x.a], .int .i64 how] w (ChangePost free l x w) := by
  have hC := refC l x p cap w hL hn hcap
  by_cases h1 : (faultK l).1 = 0
  · by_cases h2 : (faultK [x]).1 = 0
    · have hP : preErr l x = 0 := by rw [preErr_two h1]; exact h2
      obtain ⟨⟨h40, hr⟩, hx⟩ := preErr_zero.1 hP
      have hD := refD l p cap w hL h40 hr.ok
      cases free with
      | true => exact set_4 l x how p l.length cap w hC h1 h2 rfl hL hP hn hD hx hhow (by rw [hhow]; simp [howOf])
      | false =>
        have hpos : 0 < how := by rw [hhow]; exact howB_pos x.a
        cases hany : l.any (clash x) with
        | true => exact set_3 l x how p l.length cap w hC h1 h2 rfl hL hP hn hpos hany
        | false => exact set_5 l x how p l.length cap w hC h1 h2 rfl hL hP hn hD hx hhow hpos hany
    · exact set_2 free l x how p l.length cap w hC h1 h2
  · exact set_1 free l x how p l.length cap w hC h1
end Go.Proofs.Ytampldoimpfjgab
