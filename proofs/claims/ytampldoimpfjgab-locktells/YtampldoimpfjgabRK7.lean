/-
  The statement LockTells, walked.
-/
import Derived.Test.YtampldoimpfjgabRK6
namespace Go.Proofs.Ytampldoimpfjgab
open Go.RowKit Go.Sort KM
set_option linter.unusedVariables false

theorem neqF (a b : Int) (w : World) : Sem.run Try.prog (binOp .neq 27 (.agg #[.int .i64 a, .int .i64 b]) (.agg #[.int .i64 a, .int .i64 b])) w = .ok (.bool false) w := by
  have u3 := Try.underlying3
  have a3 := Try.isAgg3
  have z3 := Try.sizeOf3
  have u5 := Try.underlying25
  have a5 := Try.isAgg25
  have z5 := Try.sizeOf25
  have hS : Try.prog.underlying 27 = some (.struct (Try.prog.fieldsOf 27)) := by kernel_rfl
  have hp : Try.prog.stoodInHeld 27 = false := by kernel_rfl
  rw [run_neq_struct, show (10000 : Nat) = 9999 + 1 from rfl, run_equalIn_agg w 9999 27 _ _ hS hp]
  simp only [Program.fieldsOf, Try.underlying27]
  go_simp
theorem guardF (op : BinOp) (a b : Operand) (x y : Int × Int) (w : World) : (eqGuard op 27 a b (.agg #[.int .i64 x.1, .int .i64 x.2]) (.agg #[.int .i64 y.1, .int .i64 y.2])).run Try.prog w = .ok () w :=
  GuardAt.agg (P := Try.prog) (T := 27) (fun e : Int × Int => #[.int .i64 e.1, .int .i64 e.2]) (by kernel_rfl) op a b x y w
theorem guardF' (op : BinOp) (a b : Operand) (x1 x2 y1 y2 : Int) (w : World) : (eqGuard op 27 a b (.agg #[.int .i64 x1, .int .i64 x2]) (.agg #[.int .i64 y1, .int .i64 y2])).run Try.prog w = .ok () w := guardF op a b (x1, x2) (y1, y2) w
theorem guardK' (op : BinOp) (a b : Operand) (xo xf xt yo yf yt : Int) (xa ya : Bool) (w : World) : (eqGuard op 24 a b (.agg #[.int .i64 xo, .int .i64 xf, .int .i64 xt, .bool xa]) (.agg #[.int .i64 yo, .int .i64 yf, .int .i64 yt, .bool ya])).run Try.prog w = .ok () w := guardK op a b ⟨xo, xf, xt, xa⟩ ⟨yo, yf, yt, ya⟩ w
theorem neqK' (xo xf xt : Int) (xa : Bool) (w : World) : Sem.run Try.prog (binOp .neq 24 (.agg #[.int .i64 xo, .int .i64 xf, .int .i64 xt, .bool xa]) (.agg #[.int .i64 xo, .int .i64 xf, .int .i64 xt, .bool xa])) w = .ok (.bool false) w := neqK ⟨xo, xf, xt, xa⟩ w
theorem change_parts {free : Bool} {l : List Lk} {x : Lk} {w w' : World} {e : Ending} (h : ChangePost free l x w e w') :
    ∃ p n c err m, e = .returned (.tuple #[.slice p n c, .int .i64 err]) ∧ Aside (n = m.length ∧ Lies w' p m ∧ SetSpec free l x err m ∧ Below w.heap.size w w') := by
  obtain ⟨v, err, m, rfl, hR, hS, hB⟩ := h
  obtain ⟨p, c, rfl, hL, _, _⟩ := hR.form
  exact ⟨p, m.length, c, err, m, rfl, rfl, hL, hS, hB⟩
theorem same_parts (m : List Lk) (n c c' : Nat) (p p' : Option Addr) (w : World) (hn : n = m.length) (h : Lies w p m) (h' : Lies w p' m) (hl : m.length < 4611686018427387904) :
    Calls Try.prog 13 #[.slice p n c, .slice p' n c'] w fun e w' => e = .returned (.bool true) ∧ Below w.heap.size w w' := by
  subst hn
  exact sameLocks_any m p p' c c' w h h' hl
theorem leave_parts {l : List Lk} {q : Int} {w w' : World} {e : Ending} {n : Nat} (hn : n = (leaveL l q).length) (h : LeavePost l q w e w') :
    ∃ g c, e = .returned (.slice (some ⟨g, 0, none⟩) n c) ∧ Aside (Lies w' (some ⟨g, 0, none⟩) (leaveL l q) ∧ Below w.heap.size w w') := by
  obtain ⟨g, c, rfl, _, hO, hB⟩ := h
  exact ⟨g, c, by rw [hn], hO.lies, hB⟩
theorem leave_step {l : List Lk} {j : Nat} {y : Lk} (q : Int) (hy : l[j]? = some y) : leaveL (l.take (j + 1)) q = if y.o = q then leaveL (l.take j) q else leaveL (l.take j) q ++ [y] := by
  unfold leaveL
  rw [take_step hy, List.filter_append]
  by_cases h : y.o = q <;> simp [h]
theorem leave_take_len (l : List Lk) (j : Nat) (q : Int) : (leaveL (l.take j) q).length ≤ j := by
  have := leave_len (l.take j) q
  rw [List.length_take] at this
  omega
/-- What the calls answer. -/
structure TellC (l : List Lk) (x : Lk) (xo xf xt : Int) (xa : Bool) (how : Int) (p : Option Addr) (n cap : Nat) (w : World) : Prop where
  wr : ∀ W, Below w.heap.size w W → Calls Try.prog 7 #[.slice p n cap] W (WrongPost l W)
  rwr : ∀ W, Below w.heap.size w W → Calls Try.prog 8 #[.slice p n cap] W (WrongPost l W)
  meets : ∀ W, Below w.heap.size w W → Calls Try.prog 9 #[.slice p n cap, .agg #[.int .i64 xo, .int .i64 xf, .int .i64 xt, .bool xa]] W (MeetsPost l x W)
  take : ∀ W, Below w.heap.size w W → Calls Try.prog 11 #[.slice p n cap, .agg #[.int .i64 xo, .int .i64 xf, .int .i64 xt, .bool xa]] W (ChangePost false l x W)
  free : ∀ W, Below w.heap.size w W → Calls Try.prog 14 #[.slice p n cap, .agg #[.int .i64 xo, .int .i64 xf, .int .i64 xt, .bool xa]] W (ChangePost true l x W)
  set1 : ∀ W, Below w.heap.size w W → Calls Try.prog 12 #[.slice p n cap, .agg #[.int .i64 xo, .int .i64 xf, .int .i64 xt, .bool xa], .int .i64 how] W (ChangePost false l x W)
  set0 : ∀ W, Below w.heap.size w W → Calls Try.prog 12 #[.slice p n cap, .agg #[.int .i64 xo, .int .i64 xf, .int .i64 xt, .bool xa], .int .i64 0] W (ChangePost true l x W)
  clash : ∀ (y : Lk) W, Calls Try.prog 10 #[.agg #[.int .i64 y.o, .int .i64 y.f, .int .i64 y.t, .bool y.a], .agg #[.int .i64 xo, .int .i64 xf, .int .i64 xt, .bool xa]] W fun r w' => r = .returned (.bool (KM.clash x y)) ∧ Grown W w'
  leave : ∀ W, Below w.heap.size w W → Calls Try.prog 15 #[.slice p n cap, .int .i64 xo] W (LeavePost l xo W)
theorem tellC (l : List Lk) (x : Lk) (p : Option Addr) (cap : Nat) (w : World) (hL : Lies w p l) (hn : l.length * 32 ≤ 140737488355328) (hcap : l.length ≤ cap) (hnil : p = none → cap = 0) : TellC l x x.o x.f x.t x.a (howB x.a) p l.length cap w :=
  ⟨fun W hB => wrong_any l p cap W (hL.kept hB) (by omega) hcap, fun W hB => refWrong_any l p cap W (hL.kept hB) (by omega) hcap, fun W hB => meets_any l x p cap W (hL.kept hB) (by omega),
   fun W hB => take_any l x p cap W (hL.kept hB) (by omega) hcap, fun W hB => free_any l x p cap W (hL.kept hB) (by omega) hcap,
   fun W hB => refSet_any false l x _ p cap W (hL.kept hB) (by omega) hcap rfl, fun W hB => refSet_any true l x _ p cap W (hL.kept hB) (by omega) hcap rfl,
   fun y W => by rw [clash_symm x y]; exact refClash_any y x W, fun W hB => leave_any l x.o p cap W (hL.kept hB) hnil hn⟩
set_option maxHeartbeats 1000000 in
theorem tells_ff (l : List Lk) (xo xf xt : Int) (p : Option Addr) (n cap : Nat) (w : World) (hC : TellC l ⟨xo, xf, xt, false⟩ xo xf xt false 1 p n cap w) (hL : Lies w p l) (hN : n = l.length) (hn : n * 32 ≤ 140737488355328) (hany : l.any (clash ⟨xo, xf, xt, false⟩) = false) :
    Calls Try.prog 3 #[.slice p n cap, .agg #[.int .i64 xo, .int .i64 xf, .int .i64 xt, .bool false]] w fun r w' => r = .returned (.bool true) ∧ Below w.heap.size w w' := by
  have HANY : Aside (l.any (clash ⟨xo, xf, xt, false⟩) = false) := hany
  have HL : Aside (Lies w p l) := hL
  have HN : Aside (n = l.length) := hN
  obtain ⟨hwr, hrw, hmt, htk, hfr, hs1, hs0, hcl, hlv⟩ := hC
  obtain ⟨ll, hll⟩ : ∃ ll, ll = (leaveL l xo).length := ⟨_, rfl⟩
  have HLL : Aside (ll = (leaveL l xo).length) := hll
  clear hany hL hN hll
  unfold WrongPost at hwr hrw
  generalize (faultK l).1 = f1 at *
  generalize (faultK l).2 = f2 at *
  have hgf := guardF'
  have hgk := guardK'
  have hnf := neqF
  have hnk := neqK'
  have I : Below (w.heap.size + 1) (w.alloc (.cells #[.int .i64 xo, .int .i64 xf, .int .i64 xt, .bool false] 24)) (w.alloc (.cells #[.int .i64 xo, .int .i64 xf, .int .i64 xt, .bool false] 24)) := Below.refl _ _
  go_enter Try.func3, Try.ntmps3
  go_wp2_with (first
    | (go_at_call 7; refine (hwr _ (base1 I)).mono ?_; clear hwr; rintro e w1 ⟨rfl, hN⟩; replace I := up1 I hN; clear hN)
    | (go_at_call 8; refine (hrw _ (base1 I)).mono ?_; clear hrw; rintro e w2 ⟨rfl, hN⟩; replace I := up1 I hN; clear hN; obtain ⟨⟨q0, q1, q2, q3⟩, _⟩ := new4 (Nat.lt_succ_self _) I)
    | (go_at_call 9; refine (hmt _ (base1 I)).mono ?_; clear hmt; rintro e w3 ⟨y, bb, rfl, hM, hN⟩; replace I := up1 I hN; clear hN q0 q1 q2 q3; obtain rfl : bb = false := hM.any.symm.trans HANY.out; have HM : Aside (MeetIs l ⟨xo, xf, xt, false⟩ y false) := hM; clear hM))
  have HI : Aside (Below (w.heap.size + 1) (w.alloc (.cells #[.int .i64 xo, .int .i64 xf, .int .i64 xt, .bool false] 24)) w3) := I
  clear I
  obtain ⟨W3, rfl⟩ : ∃ W3, W3 = w3 := ⟨_, rfl⟩
  obtain rfl : y = zeroL := by
    rcases HM.out with ⟨_, h, _⟩ | ⟨h, _⟩
    · exact h
    · cases h
  go_loopg [6, 30] n (fun gg s6 s30 wr => ∃ j : Nat, j ≤ n ∧ n - j ≤ gg ∧ s30 = .int .i64 j ∧ s6 = .bool false ∧ Aside (Below (W3.heap.size + 1) (W3.alloc (.cells #[.int .i64 0, .int .i64 0, .int .i64 0, .bool false] 24)) wr) ∧ Aside (∀ z ∈ l.take j, clash ⟨xo, xf, xt, false⟩ z = false))
  case atStart => exact ⟨0, Nat.zero_le _, by omega, rfl, rfl, Below.refl _ _, by intro z hz; simp at hz⟩
  case round =>
    obtain ⟨j, hj, hg, rfl, rfl, J, HA⟩ := hrel
    obtain ⟨⟨y0, y1, y2, y3⟩, ⟨yf0, yf1, yf2, yf3⟩⟩ := new4 (Nat.lt_succ_self _) J.out
    have I := up1 HI.out (base1 J.out)
    obtain ⟨⟨q0, q1, q2, q3⟩, _⟩ := new4 (Nat.lt_succ_self _) I
    have hJs := J.out.size
    simp only [World.size_alloc] at hJs
    have hIs := I.size
    simp only [World.size_alloc] at hIs
    have hIs3 := HI.out.size
    simp only [World.size_alloc] at hIs3
    have hyl : W3.heap.size < wr.heap.size := by omega
    have hxl : w.heap.size < wr.heap.size := by omega
    have hyw : W3.heap.size ≠ w.heap.size := by omega
    by_cases hlt : j < n
    · have hltz : (j : Int) < (n : Int) := by omega
      obtain ⟨z, hz⟩ : ∃ z, l[j]? = some z := ⟨_, List.getElem?_eq_getElem (by have := HN.out; omega)⟩
      have HZ : Aside (l[j]? = some z) := hz
      rcases HL.out with h0 | ⟨b, off, rfl, hb, hc⟩
      · rw [h0] at hz; simp at hz
      obtain ⟨c0, c1, c2, c3⟩ := Lies.cells hc hb (base1 I) hz
      have hbw : b < wr.heap.size := by omega
      have hbn : b ≠ wr.heap.size := by omega
      have hX : Below wr.heap.size wr (wr.alloc (.cells #[.int .i64 z.o, .int .i64 z.f, .int .i64 z.t, .bool z.a] 24)) := ((Grown.refl wr).alloc _).below
      clear hc hz I
      cases hcz : clash ⟨xo, xf, xt, false⟩ z
      · have hcc := fun W => hcl z W
        rw [hcz] at hcc
        have HA2 : Aside (∀ u ∈ l.take (j + 1), clash ⟨xo, xf, xt, false⟩ u = false) := take_false HZ.out hcz HA.out
        clear hcz
        go_wp2_with (go_at_call 10; refine (hcc _).mono ?_; clear hcc; rintro r w5 ⟨rfl, hG⟩; have HJ3 : Aside (Below (W3.heap.size + 1) (W3.alloc (.cells #[.int .i64 0, .int .i64 0, .int .i64 0, .bool false] 24)) w5) := up1 J.out (Below.onto hX hG.below); clear hG)
        go_roundg (n - (j + 1))
        case measure => omega
        case rel => exact ⟨j + 1, by omega, by omega, by go_num, rfl, HJ3.out, HA2.out⟩
      · exact absurd (HANY.out.symm.trans (List.any_eq_true.2 ⟨z, List.mem_of_getElem? HZ.out, hcz⟩)) (by decide)
    · have hltz : ¬ (j : Int) < (n : Int) := by omega
      clear J HA hlt hg
      go_wp2_with (first
        | (go_at_call 11; refine (htk _ (base1 I)).mono ?_; clear htk; intro e wa hE; obtain ⟨pa, na, ca, ea, ma, rfl, HA2⟩ := change_parts hE; clear hE; replace I := up1 I HA2.out.2.2.2; clear q0 q1 q2 q3; obtain ⟨⟨q0, q1, q2, q3⟩, _⟩ := new4 (Nat.lt_succ_self _) I)
        | (go_at_call 12; refine (hs1 _ (base1 I)).mono ?_; clear hs1; intro e wb hE; obtain ⟨pb, nb, cb, eb, mb, rfl, HB2⟩ := change_parts hE; clear hE; obtain ⟨rfl, rfl⟩ := spec_unique HA2.out.2.2.1 HB2.out.2.2.1; obtain rfl : na = nb := HA2.out.1.trans HB2.out.1.symm; replace I := up1 I HB2.out.2.2.2; clear q0 q1 q2 q3; obtain ⟨⟨q0, q1, q2, q3⟩, _⟩ := new4 (Nat.lt_succ_self _) I)
        | (go_at_call 13; refine (same_parts ma na ca cb pa pb _ HA2.out.1 (HA2.out.2.1.kept HB2.out.2.2.2) HB2.out.2.1 (by have := spec_len HA2.out.2.2.1; omega)).mono ?_; rintro e wc ⟨rfl, hN⟩; replace I := up1 I hN; clear hN HA2 HB2 q0 q1 q2 q3; obtain ⟨⟨q0, q1, q2, q3⟩, _⟩ := new4 (Nat.lt_succ_self _) I)
        | (go_at_call 14; refine (hfr _ (base1 I)).mono ?_; clear hfr; intro e wd hE; obtain ⟨pd, nd, cd, ed, md, rfl, HD2⟩ := change_parts hE; clear hE; replace I := up1 I HD2.out.2.2.2; clear q0 q1 q2 q3; obtain ⟨⟨q0, q1, q2, q3⟩, _⟩ := new4 (Nat.lt_succ_self _) I)
        | (go_at_call 12; refine (hs0 _ (base1 I)).mono ?_; clear hs0; intro e we hE; obtain ⟨pe, ne, ce, ee, me, rfl, HE2⟩ := change_parts hE; clear hE; obtain ⟨rfl, rfl⟩ := spec_unique HD2.out.2.2.1 HE2.out.2.2.1; obtain rfl : nd = ne := HD2.out.1.trans HE2.out.1.symm; replace I := up1 I HE2.out.2.2.2; clear q0 q1 q2 q3; obtain ⟨⟨q0, q1, q2, q3⟩, _⟩ := new4 (Nat.lt_succ_self _) I)
        | (go_at_call 13; refine (same_parts md nd cd ce pd pe _ HD2.out.1 (HD2.out.2.1.kept HE2.out.2.2.2) HE2.out.2.1 (by have := spec_len HD2.out.2.2.1; omega)).mono ?_; rintro e wf ⟨rfl, hN⟩; replace I := up1 I hN; clear hN HD2 HE2 q0 q1 q2 q3))
      have HF : Aside (Below (w.heap.size + 1) (w.alloc (.cells #[.int .i64 xo, .int .i64 xf, .int .i64 xt, .bool false] 24)) wf) := I
      clear I
      obtain ⟨WF, rfl⟩ : ∃ WF, WF = wf := ⟨_, rfl⟩
      go_loopg [14, 99] n (fun gg s14 s99 wr2 => ∃ i : Nat, i ≤ n ∧ n - i ≤ gg ∧ s99 = .int .i64 i ∧ Aside (Rows wr2 (w.heap.size + 1) s14 (leaveL (l.take i) xo)) ∧ Aside (Below (w.heap.size + 1) (w.alloc (.cells #[.int .i64 xo, .int .i64 xf, .int .i64 xt, .bool false] 24)) wr2))
      case atStart => exact ⟨0, Nat.zero_le _, by omega, rfl, Rows.nil _ _, HF.out⟩
      case round =>
        obtain ⟨i, hi, hg3, rfl, HRW, J3⟩ := hrel
        obtain ⟨pl, cl, rfl, _, _, _⟩ := HRW.out.form
        generalize hnl : (leaveL (l.take i) xo).length = nl at HRW
        have HNL : Aside ((leaveL (l.take i) xo).length = nl) := hnl
        clear hnl
        have hJ3 := J3.out.size
        simp only [World.size_alloc] at hJ3
        obtain ⟨⟨q0, q1, q2, q3⟩, _⟩ := new4 (Nat.lt_succ_self _) J3.out
        have hxl3 : w.heap.size < wr.heap.size := by omega
        by_cases hli : i < n
        · have hliz : (i : Int) < (n : Int) := by omega
          obtain ⟨t, ht⟩ : ∃ t, l[i]? = some t := ⟨_, List.getElem?_eq_getElem (by have := HN.out; omega)⟩
          have HST : Aside (leaveL (l.take (i + 1)) xo = if t.o = xo then leaveL (l.take i) xo else leaveL (l.take i) xo ++ [t]) := leave_step xo ht
          rcases HL.out with h0 | ⟨b2, off2, hpe, hb2, hc2⟩
          · rw [h0] at ht; simp at ht
          first | subst hpe | cases hpe
          obtain ⟨c0, c1, c2, c3⟩ := Lies.cells hc2 hb2 (base1 J3.out) ht
          have hbw2 := Nat.lt_of_lt_of_le hb2 (Nat.le_of_lt hxl3)
          have hbn2 := Nat.ne_of_lt hbw2
          clear hc2 ht
          by_cases hto : t.o = xo
          · have hneq : (t.o != xo) = false := by rw [hto]; simp
            have HR2 : Aside (Rows (wr.alloc (.cells #[.int .i64 t.o, .int .i64 t.f, .int .i64 t.t, .bool t.a] 24)) (w.heap.size + 1) (.slice pl nl cl) (leaveL (l.take (i + 1)) xo)) := by show Rows _ _ _ _; rw [HST.out, if_pos hto]; exact HRW.out.below ((Grown.refl wr).alloc _).below
            clear hto
            go_wp2
            go_roundg (n - (i + 1))
            case measure => omega
            case rel => exact ⟨i + 1, by omega, by omega, by go_num, HR2.out, upA J3.out⟩
          · have hneq : (t.o != xo) = true := bne_iff_ne.2 hto
            rw [if_neg hto] at HST
            clear hto
            go_wp2_with (at_builtin; refine append_row _ t rfl _ _ rfl (w.heap.size + 1) (.slice pl nl cl) (leaveL (l.take i) xo) rfl (HRW.out.below ((Grown.refl wr).alloc _).below) (by have := leave_take_len l i xo; omega) (by simp; omega) (wr.heap.size + 1) (by simp) rfl ?_)
            intro v7 w7 hR7 hB7 _ _
            have HR7 : Aside (Rows w7 (w.heap.size + 1) v7 (leaveL (l.take (i + 1)) xo)) := by show Rows _ _ _ _; rw [HST.out]; exact hR7
            have HB7 : Aside (Below (w.heap.size + 1) (w.alloc (.cells #[.int .i64 xo, .int .i64 xf, .int .i64 xt, .bool false] 24)) w7) := (upA J3.out).trans (hB7.mono (Nat.le_refl _))
            clear hR7 hB7
            go_wp2
            go_roundg (n - (i + 1))
            case measure => omega
            case rel => exact ⟨i + 1, by omega, by omega, by go_num, HR7.out, HB7.out⟩
        · have hliz : ¬ (i : Int) < (n : Int) := by omega
          have HTK : Aside (l.take i = l) := List.take_of_length_le (by have := HN.out; omega)
          have HLI : Aside (Lies wr pl (leaveL l xo) ∧ nl = ll) := by
            obtain ⟨p', c', hv', hL', _, _⟩ := HRW.out.form
            simp only [Value.slice.injEq] at hv'
            obtain ⟨rfl, _, rfl⟩ := hv'
            have h1 := HTK.out
            have h2 := HNL.out
            rw [h1] at hL' h2
            exact ⟨hL', by rw [HLL.out, h2]⟩
          obtain rfl : nl = ll := HLI.out.2
          have I := J3.out
          have hlv2 := hlv _ (base1 I)
          clear HRW J3
          go_wp2_with (first
            | (go_at_call 15; refine hlv2.mono ?_; clear hlv2; intro e wg hE; obtain ⟨g, cg, rfl, HG⟩ := leave_parts HLL.out hE; clear hE; replace I := up1 I HG.out.2)
            | (go_at_call 13; refine (same_parts (leaveL l xo) nl cg cl (some ⟨g, 0, none⟩) pl _ HLL.out HG.out.1 (HLI.out.1.kept HG.out.2) (by have := leave_len l xo; have := HN.out; omega)).mono ?_; rintro e wh ⟨rfl, hN⟩; replace I := up1 I hN; clear hN))
          go_ret
          exact ⟨rfl, base1 I⟩
set_option maxHeartbeats 1000000 in
theorem tells_ft (l : List Lk) (xo xf xt : Int) (p : Option Addr) (n cap : Nat) (w : World) (hC : TellC l ⟨xo, xf, xt, true⟩ xo xf xt true 2 p n cap w) (hL : Lies w p l) (hN : n = l.length) (hn : n * 32 ≤ 140737488355328) (hany : l.any (clash ⟨xo, xf, xt, true⟩) = false) :
    Calls Try.prog 3 #[.slice p n cap, .agg #[.int .i64 xo, .int .i64 xf, .int .i64 xt, .bool true]] w fun r w' => r = .returned (.bool true) ∧ Below w.heap.size w w' := by
  have HANY : Aside (l.any (clash ⟨xo, xf, xt, true⟩) = false) := hany
  have HL : Aside (Lies w p l) := hL
  have HN : Aside (n = l.length) := hN
  obtain ⟨hwr, hrw, hmt, htk, hfr, hs1, hs0, hcl, hlv⟩ := hC
  obtain ⟨ll, hll⟩ : ∃ ll, ll = (leaveL l xo).length := ⟨_, rfl⟩
  have HLL : Aside (ll = (leaveL l xo).length) := hll
  clear hany hL hN hll
  unfold WrongPost at hwr hrw
  generalize (faultK l).1 = f1 at *
  generalize (faultK l).2 = f2 at *
  have hgf := guardF'
  have hgk := guardK'
  have hnf := neqF
  have hnk := neqK'
  have I : Below (w.heap.size + 1) (w.alloc (.cells #[.int .i64 xo, .int .i64 xf, .int .i64 xt, .bool true] 24)) (w.alloc (.cells #[.int .i64 xo, .int .i64 xf, .int .i64 xt, .bool true] 24)) := Below.refl _ _
  go_enter Try.func3, Try.ntmps3
  go_wp2_with (first
    | (go_at_call 7; refine (hwr _ (base1 I)).mono ?_; clear hwr; rintro e w1 ⟨rfl, hN⟩; replace I := up1 I hN; clear hN)
    | (go_at_call 8; refine (hrw _ (base1 I)).mono ?_; clear hrw; rintro e w2 ⟨rfl, hN⟩; replace I := up1 I hN; clear hN; obtain ⟨⟨q0, q1, q2, q3⟩, _⟩ := new4 (Nat.lt_succ_self _) I)
    | (go_at_call 9; refine (hmt _ (base1 I)).mono ?_; clear hmt; rintro e w3 ⟨y, bb, rfl, hM, hN⟩; replace I := up1 I hN; clear hN q0 q1 q2 q3; obtain rfl : bb = false := hM.any.symm.trans HANY.out; have HM : Aside (MeetIs l ⟨xo, xf, xt, true⟩ y false) := hM; clear hM))
  have HI : Aside (Below (w.heap.size + 1) (w.alloc (.cells #[.int .i64 xo, .int .i64 xf, .int .i64 xt, .bool true] 24)) w3) := I
  clear I
  obtain ⟨W3, rfl⟩ : ∃ W3, W3 = w3 := ⟨_, rfl⟩
  obtain rfl : y = zeroL := by
    rcases HM.out with ⟨_, h, _⟩ | ⟨h, _⟩
    · exact h
    · cases h
  go_loopg [6, 30] n (fun gg s6 s30 wr => ∃ j : Nat, j ≤ n ∧ n - j ≤ gg ∧ s30 = .int .i64 j ∧ s6 = .bool false ∧ Aside (Below (W3.heap.size + 1) (W3.alloc (.cells #[.int .i64 0, .int .i64 0, .int .i64 0, .bool false] 24)) wr) ∧ Aside (∀ z ∈ l.take j, clash ⟨xo, xf, xt, true⟩ z = false))
  case atStart => exact ⟨0, Nat.zero_le _, by omega, rfl, rfl, Below.refl _ _, by intro z hz; simp at hz⟩
  case round =>
    obtain ⟨j, hj, hg, rfl, rfl, J, HA⟩ := hrel
    obtain ⟨⟨y0, y1, y2, y3⟩, ⟨yf0, yf1, yf2, yf3⟩⟩ := new4 (Nat.lt_succ_self _) J.out
    have I := up1 HI.out (base1 J.out)
    obtain ⟨⟨q0, q1, q2, q3⟩, _⟩ := new4 (Nat.lt_succ_self _) I
    have hJs := J.out.size
    simp only [World.size_alloc] at hJs
    have hIs := I.size
    simp only [World.size_alloc] at hIs
    have hIs3 := HI.out.size
    simp only [World.size_alloc] at hIs3
    have hyl : W3.heap.size < wr.heap.size := by omega
    have hxl : w.heap.size < wr.heap.size := by omega
    have hyw : W3.heap.size ≠ w.heap.size := by omega
    by_cases hlt : j < n
    · have hltz : (j : Int) < (n : Int) := by omega
      obtain ⟨z, hz⟩ : ∃ z, l[j]? = some z := ⟨_, List.getElem?_eq_getElem (by have := HN.out; omega)⟩
      have HZ : Aside (l[j]? = some z) := hz
      rcases HL.out with h0 | ⟨b, off, rfl, hb, hc⟩
      · rw [h0] at hz; simp at hz
      obtain ⟨c0, c1, c2, c3⟩ := Lies.cells hc hb (base1 I) hz
      have hbw : b < wr.heap.size := by omega
      have hbn : b ≠ wr.heap.size := by omega
      have hX : Below wr.heap.size wr (wr.alloc (.cells #[.int .i64 z.o, .int .i64 z.f, .int .i64 z.t, .bool z.a] 24)) := ((Grown.refl wr).alloc _).below
      clear hc hz I
      cases hcz : clash ⟨xo, xf, xt, true⟩ z
      · have hcc := fun W => hcl z W
        rw [hcz] at hcc
        have HA2 : Aside (∀ u ∈ l.take (j + 1), clash ⟨xo, xf, xt, true⟩ u = false) := take_false HZ.out hcz HA.out
        clear hcz
        go_wp2_with (go_at_call 10; refine (hcc _).mono ?_; clear hcc; rintro r w5 ⟨rfl, hG⟩; have HJ3 : Aside (Below (W3.heap.size + 1) (W3.alloc (.cells #[.int .i64 0, .int .i64 0, .int .i64 0, .bool false] 24)) w5) := up1 J.out (Below.onto hX hG.below); clear hG)
        go_roundg (n - (j + 1))
        case measure => omega
        case rel => exact ⟨j + 1, by omega, by omega, by go_num, rfl, HJ3.out, HA2.out⟩
      · exact absurd (HANY.out.symm.trans (List.any_eq_true.2 ⟨z, List.mem_of_getElem? HZ.out, hcz⟩)) (by decide)
    · have hltz : ¬ (j : Int) < (n : Int) := by omega
      clear J HA hlt hg
      go_wp2_with (first
        | (go_at_call 11; refine (htk _ (base1 I)).mono ?_; clear htk; intro e wa hE; obtain ⟨pa, na, ca, ea, ma, rfl, HA2⟩ := change_parts hE; clear hE; replace I := up1 I HA2.out.2.2.2; clear q0 q1 q2 q3; obtain ⟨⟨q0, q1, q2, q3⟩, _⟩ := new4 (Nat.lt_succ_self _) I)
        | (go_at_call 12; refine (hs1 _ (base1 I)).mono ?_; clear hs1; intro e wb hE; obtain ⟨pb, nb, cb, eb, mb, rfl, HB2⟩ := change_parts hE; clear hE; obtain ⟨rfl, rfl⟩ := spec_unique HA2.out.2.2.1 HB2.out.2.2.1; obtain rfl : na = nb := HA2.out.1.trans HB2.out.1.symm; replace I := up1 I HB2.out.2.2.2; clear q0 q1 q2 q3; obtain ⟨⟨q0, q1, q2, q3⟩, _⟩ := new4 (Nat.lt_succ_self _) I)
        | (go_at_call 13; refine (same_parts ma na ca cb pa pb _ HA2.out.1 (HA2.out.2.1.kept HB2.out.2.2.2) HB2.out.2.1 (by have := spec_len HA2.out.2.2.1; omega)).mono ?_; rintro e wc ⟨rfl, hN⟩; replace I := up1 I hN; clear hN HA2 HB2 q0 q1 q2 q3; obtain ⟨⟨q0, q1, q2, q3⟩, _⟩ := new4 (Nat.lt_succ_self _) I)
        | (go_at_call 14; refine (hfr _ (base1 I)).mono ?_; clear hfr; intro e wd hE; obtain ⟨pd, nd, cd, ed, md, rfl, HD2⟩ := change_parts hE; clear hE; replace I := up1 I HD2.out.2.2.2; clear q0 q1 q2 q3; obtain ⟨⟨q0, q1, q2, q3⟩, _⟩ := new4 (Nat.lt_succ_self _) I)
        | (go_at_call 12; refine (hs0 _ (base1 I)).mono ?_; clear hs0; intro e we hE; obtain ⟨pe, ne, ce, ee, me, rfl, HE2⟩ := change_parts hE; clear hE; obtain ⟨rfl, rfl⟩ := spec_unique HD2.out.2.2.1 HE2.out.2.2.1; obtain rfl : nd = ne := HD2.out.1.trans HE2.out.1.symm; replace I := up1 I HE2.out.2.2.2; clear q0 q1 q2 q3; obtain ⟨⟨q0, q1, q2, q3⟩, _⟩ := new4 (Nat.lt_succ_self _) I)
        | (go_at_call 13; refine (same_parts md nd cd ce pd pe _ HD2.out.1 (HD2.out.2.1.kept HE2.out.2.2.2) HE2.out.2.1 (by have := spec_len HD2.out.2.2.1; omega)).mono ?_; rintro e wf ⟨rfl, hN⟩; replace I := up1 I hN; clear hN HD2 HE2 q0 q1 q2 q3))
      have HF : Aside (Below (w.heap.size + 1) (w.alloc (.cells #[.int .i64 xo, .int .i64 xf, .int .i64 xt, .bool true] 24)) wf) := I
      clear I
      obtain ⟨WF, rfl⟩ : ∃ WF, WF = wf := ⟨_, rfl⟩
      go_loopg [14, 99] n (fun gg s14 s99 wr2 => ∃ i : Nat, i ≤ n ∧ n - i ≤ gg ∧ s99 = .int .i64 i ∧ Aside (Rows wr2 (w.heap.size + 1) s14 (leaveL (l.take i) xo)) ∧ Aside (Below (w.heap.size + 1) (w.alloc (.cells #[.int .i64 xo, .int .i64 xf, .int .i64 xt, .bool true] 24)) wr2))
      case atStart => exact ⟨0, Nat.zero_le _, by omega, rfl, Rows.nil _ _, HF.out⟩
      case round =>
        obtain ⟨i, hi, hg3, rfl, HRW, J3⟩ := hrel
        obtain ⟨pl, cl, rfl, _, _, _⟩ := HRW.out.form
        generalize hnl : (leaveL (l.take i) xo).length = nl at HRW
        have HNL : Aside ((leaveL (l.take i) xo).length = nl) := hnl
        clear hnl
        have hJ3 := J3.out.size
        simp only [World.size_alloc] at hJ3
        obtain ⟨⟨q0, q1, q2, q3⟩, _⟩ := new4 (Nat.lt_succ_self _) J3.out
        have hxl3 : w.heap.size < wr.heap.size := by omega
        by_cases hli : i < n
        · have hliz : (i : Int) < (n : Int) := by omega
          obtain ⟨t, ht⟩ : ∃ t, l[i]? = some t := ⟨_, List.getElem?_eq_getElem (by have := HN.out; omega)⟩
          have HST : Aside (leaveL (l.take (i + 1)) xo = if t.o = xo then leaveL (l.take i) xo else leaveL (l.take i) xo ++ [t]) := leave_step xo ht
          rcases HL.out with h0 | ⟨b2, off2, hpe, hb2, hc2⟩
          · rw [h0] at ht; simp at ht
          first | subst hpe | cases hpe
          obtain ⟨c0, c1, c2, c3⟩ := Lies.cells hc2 hb2 (base1 J3.out) ht
          have hbw2 := Nat.lt_of_lt_of_le hb2 (Nat.le_of_lt hxl3)
          have hbn2 := Nat.ne_of_lt hbw2
          clear hc2 ht
          by_cases hto : t.o = xo
          · have hneq : (t.o != xo) = false := by rw [hto]; simp
            have HR2 : Aside (Rows (wr.alloc (.cells #[.int .i64 t.o, .int .i64 t.f, .int .i64 t.t, .bool t.a] 24)) (w.heap.size + 1) (.slice pl nl cl) (leaveL (l.take (i + 1)) xo)) := by show Rows _ _ _ _; rw [HST.out, if_pos hto]; exact HRW.out.below ((Grown.refl wr).alloc _).below
            clear hto
            go_wp2
            go_roundg (n - (i + 1))
            case measure => omega
            case rel => exact ⟨i + 1, by omega, by omega, by go_num, HR2.out, upA J3.out⟩
          · have hneq : (t.o != xo) = true := bne_iff_ne.2 hto
            rw [if_neg hto] at HST
            clear hto
            go_wp2_with (at_builtin; refine append_row _ t rfl _ _ rfl (w.heap.size + 1) (.slice pl nl cl) (leaveL (l.take i) xo) rfl (HRW.out.below ((Grown.refl wr).alloc _).below) (by have := leave_take_len l i xo; omega) (by simp; omega) (wr.heap.size + 1) (by simp) rfl ?_)
            intro v7 w7 hR7 hB7 _ _
            have HR7 : Aside (Rows w7 (w.heap.size + 1) v7 (leaveL (l.take (i + 1)) xo)) := by show Rows _ _ _ _; rw [HST.out]; exact hR7
            have HB7 : Aside (Below (w.heap.size + 1) (w.alloc (.cells #[.int .i64 xo, .int .i64 xf, .int .i64 xt, .bool true] 24)) w7) := (upA J3.out).trans (hB7.mono (Nat.le_refl _))
            clear hR7 hB7
            go_wp2
            go_roundg (n - (i + 1))
            case measure => omega
            case rel => exact ⟨i + 1, by omega, by omega, by go_num, HR7.out, HB7.out⟩
        · have hliz : ¬ (i : Int) < (n : Int) := by omega
          have HTK : Aside (l.take i = l) := List.take_of_length_le (by have := HN.out; omega)
          have HLI : Aside (Lies wr pl (leaveL l xo) ∧ nl = ll) := by
            obtain ⟨p', c', hv', hL', _, _⟩ := HRW.out.form
            simp only [Value.slice.injEq] at hv'
            obtain ⟨rfl, _, rfl⟩ := hv'
            have h1 := HTK.out
            have h2 := HNL.out
            rw [h1] at hL' h2
            exact ⟨hL', by rw [HLL.out, h2]⟩
          obtain rfl : nl = ll := HLI.out.2
          have I := J3.out
          have hlv2 := hlv _ (base1 I)
          clear HRW J3
          go_wp2_with (first
            | (go_at_call 15; refine hlv2.mono ?_; clear hlv2; intro e wg hE; obtain ⟨g, cg, rfl, HG⟩ := leave_parts HLL.out hE; clear hE; replace I := up1 I HG.out.2)
            | (go_at_call 13; refine (same_parts (leaveL l xo) nl cg cl (some ⟨g, 0, none⟩) pl _ HLL.out HG.out.1 (HLI.out.1.kept HG.out.2) (by have := leave_len l xo; have := HN.out; omega)).mono ?_; rintro e wh ⟨rfl, hN⟩; replace I := up1 I hN; clear hN))
          go_ret
          exact ⟨rfl, base1 I⟩
set_option maxHeartbeats 1000000 in
theorem tells_tf (l : List Lk) (xo xf xt : Int) (p : Option Addr) (n cap : Nat) (w : World) (hC : TellC l ⟨xo, xf, xt, false⟩ xo xf xt false 1 p n cap w) (hL : Lies w p l) (hN : n = l.length) (hn : n * 32 ≤ 140737488355328) (hany : l.any (clash ⟨xo, xf, xt, false⟩) = true) :
    Calls Try.prog 3 #[.slice p n cap, .agg #[.int .i64 xo, .int .i64 xf, .int .i64 xt, .bool false]] w fun r w' => r = .returned (.bool true) ∧ Below w.heap.size w w' := by
  have HANY : Aside (l.any (clash ⟨xo, xf, xt, false⟩) = true) := hany
  have HL : Aside (Lies w p l) := hL
  have HN : Aside (n = l.length) := hN
  obtain ⟨hwr, hrw, hmt, htk, hfr, hs1, hs0, hcl, hlv⟩ := hC
  obtain ⟨ll, hll⟩ : ∃ ll, ll = (leaveL l xo).length := ⟨_, rfl⟩
  have HLL : Aside (ll = (leaveL l xo).length) := hll
  clear hany hL hN hll
  unfold WrongPost at hwr hrw
  generalize (faultK l).1 = f1 at *
  generalize (faultK l).2 = f2 at *
  have hgf := guardF'
  have hgk := guardK'
  have hnf := neqF
  have hnk := neqK'
  have I : Below (w.heap.size + 1) (w.alloc (.cells #[.int .i64 xo, .int .i64 xf, .int .i64 xt, .bool false] 24)) (w.alloc (.cells #[.int .i64 xo, .int .i64 xf, .int .i64 xt, .bool false] 24)) := Below.refl _ _
  go_enter Try.func3, Try.ntmps3
  go_wp2_with (first
    | (go_at_call 7; refine (hwr _ (base1 I)).mono ?_; clear hwr; rintro e w1 ⟨rfl, hN⟩; replace I := up1 I hN; clear hN)
    | (go_at_call 8; refine (hrw _ (base1 I)).mono ?_; clear hrw; rintro e w2 ⟨rfl, hN⟩; replace I := up1 I hN; clear hN; obtain ⟨⟨q0, q1, q2, q3⟩, _⟩ := new4 (Nat.lt_succ_self _) I)
    | (go_at_call 9; refine (hmt _ (base1 I)).mono ?_; clear hmt; rintro e w3 ⟨y, bb, rfl, hM, hN⟩; replace I := up1 I hN; clear hN q0 q1 q2 q3; obtain rfl : bb = true := hM.any.symm.trans HANY.out; have HM : Aside (MeetIs l ⟨xo, xf, xt, false⟩ y true) := hM; clear hM))
  have HI : Aside (Below (w.heap.size + 1) (w.alloc (.cells #[.int .i64 xo, .int .i64 xf, .int .i64 xt, .bool false] 24)) w3) := I
  clear I
  obtain ⟨W3, rfl⟩ : ∃ W3, W3 = w3 := ⟨_, rfl⟩
  go_loopg [6, 30] n (fun gg s6 s30 wr => ∃ j : Nat, j ≤ n ∧ n - j ≤ gg ∧ s30 = .int .i64 j ∧ s6 = .bool true ∧ Aside (Below (W3.heap.size + 1) (W3.alloc (.cells #[.int .i64 y.o, .int .i64 y.f, .int .i64 y.t, .bool y.a] 24)) wr) ∧ Aside (∀ z ∈ l.take j, clash ⟨xo, xf, xt, false⟩ z = false))
  case atStart => exact ⟨0, Nat.zero_le _, by omega, rfl, rfl, Below.refl _ _, by intro z hz; simp at hz⟩
  case round =>
    obtain ⟨j, hj, hg, rfl, rfl, J, HA⟩ := hrel
    obtain ⟨⟨y0, y1, y2, y3⟩, ⟨yf0, yf1, yf2, yf3⟩⟩ := new4 (Nat.lt_succ_self _) J.out
    have I := up1 HI.out (base1 J.out)
    obtain ⟨⟨q0, q1, q2, q3⟩, _⟩ := new4 (Nat.lt_succ_self _) I
    have hJs := J.out.size
    simp only [World.size_alloc] at hJs
    have hIs := I.size
    simp only [World.size_alloc] at hIs
    have hIs3 := HI.out.size
    simp only [World.size_alloc] at hIs3
    have hyl : W3.heap.size < wr.heap.size := by omega
    have hxl : w.heap.size < wr.heap.size := by omega
    have hyw : W3.heap.size ≠ w.heap.size := by omega
    by_cases hlt : j < n
    · have hltz : (j : Int) < (n : Int) := by omega
      obtain ⟨z, hz⟩ : ∃ z, l[j]? = some z := ⟨_, List.getElem?_eq_getElem (by have := HN.out; omega)⟩
      have HZ : Aside (l[j]? = some z) := hz
      rcases HL.out with h0 | ⟨b, off, rfl, hb, hc⟩
      · rw [h0] at hz; simp at hz
      obtain ⟨c0, c1, c2, c3⟩ := Lies.cells hc hb (base1 I) hz
      have hbw : b < wr.heap.size := by omega
      have hbn : b ≠ wr.heap.size := by omega
      have hX : Below wr.heap.size wr (wr.alloc (.cells #[.int .i64 z.o, .int .i64 z.f, .int .i64 z.t, .bool z.a] 24)) := ((Grown.refl wr).alloc _).below
      clear hc hz I
      cases hcz : clash ⟨xo, xf, xt, false⟩ z
      · have hcc := fun W => hcl z W
        rw [hcz] at hcc
        have HA2 : Aside (∀ u ∈ l.take (j + 1), clash ⟨xo, xf, xt, false⟩ u = false) := take_false HZ.out hcz HA.out
        clear hcz
        go_wp2_with (go_at_call 10; refine (hcc _).mono ?_; clear hcc; rintro r w5 ⟨rfl, hG⟩; have HJ3 : Aside (Below (W3.heap.size + 1) (W3.alloc (.cells #[.int .i64 y.o, .int .i64 y.f, .int .i64 y.t, .bool y.a] 24)) w5) := up1 J.out (Below.onto hX hG.below); clear hG)
        go_roundg (n - (j + 1))
        case measure => omega
        case rel => exact ⟨j + 1, by omega, by omega, by go_num, rfl, HJ3.out, HA2.out⟩
      · obtain rfl : z = y := by
          rcases HM.out with ⟨h, _⟩ | ⟨_, h⟩
          · cases h
          · have := (find_at HZ.out hcz HA.out).symm.trans h
            simpa using this
        have hcc := fun W => hcl z W
        rw [hcz] at hcc
        clear hcz
        go_wp2_with (first
          | (go_at_call 10; refine (hcc _).mono ?_; clear hcc; rintro r w5 ⟨rfl, hG⟩; have HJ3 : Aside (Below (W3.heap.size + 1) (W3.alloc (.cells #[.int .i64 z.o, .int .i64 z.f, .int .i64 z.t, .bool z.a] 24)) w5) := up1 J.out (Below.onto hX hG.below); obtain ⟨⟨u0, u1, u2, u3⟩, ⟨uf0, uf1, uf2, uf3⟩⟩ := new4 (Nat.lt_succ_self _) HJ3.out; obtain ⟨⟨v0, v1, v2, v3⟩, _⟩ := new4 (Nat.lt_succ_self _) (hG.below.mono (by simp)); clear hG; have I : Below (w.heap.size + 1) (w.alloc (.cells #[.int .i64 xo, .int .i64 xf, .int .i64 xt, .bool false] 24)) ((((w5.setCell ⟨W3.heap.size, 0, none⟩ (.int .i64 0)).setCell ⟨W3.heap.size, 1, none⟩ (.int .i64 0)).setCell ⟨W3.heap.size, 2, none⟩ (.int .i64 0)).setCell ⟨W3.heap.size, 3, none⟩ (.bool false)) := store4 (up1 HI.out (base1 HJ3.out)) (by omega) _ _ _ _; clear q0 q1 q2 q3; obtain ⟨⟨q0, q1, q2, q3⟩, _⟩ := new4 (Nat.lt_succ_self _) I)
          | (go_at_call 11; refine (htk _ (base1 I)).mono ?_; clear htk; intro e wa hE; obtain ⟨pa, na, ca, ea, ma, rfl, HA2⟩ := change_parts hE; clear hE; replace I := up1 I HA2.out.2.2.2; clear q0 q1 q2 q3; obtain ⟨⟨q0, q1, q2, q3⟩, _⟩ := new4 (Nat.lt_succ_self _) I)
          | (go_at_call 12; refine (hs1 _ (base1 I)).mono ?_; clear hs1; intro e wb hE; obtain ⟨pb, nb, cb, eb, mb, rfl, HB2⟩ := change_parts hE; clear hE; obtain ⟨rfl, rfl⟩ := spec_unique HA2.out.2.2.1 HB2.out.2.2.1; obtain rfl : na = nb := HA2.out.1.trans HB2.out.1.symm; replace I := up1 I HB2.out.2.2.2; clear q0 q1 q2 q3; obtain ⟨⟨q0, q1, q2, q3⟩, _⟩ := new4 (Nat.lt_succ_self _) I)
          | (go_at_call 13; refine (same_parts ma na ca cb pa pb _ HA2.out.1 (HA2.out.2.1.kept HB2.out.2.2.2) HB2.out.2.1 (by have := spec_len HA2.out.2.2.1; omega)).mono ?_; rintro e wc ⟨rfl, hN⟩; replace I := up1 I hN; clear hN HA2 HB2 q0 q1 q2 q3; obtain ⟨⟨q0, q1, q2, q3⟩, _⟩ := new4 (Nat.lt_succ_self _) I)
          | (go_at_call 14; refine (hfr _ (base1 I)).mono ?_; clear hfr; intro e wd hE; obtain ⟨pd, nd, cd, ed, md, rfl, HD2⟩ := change_parts hE; clear hE; replace I := up1 I HD2.out.2.2.2; clear q0 q1 q2 q3; obtain ⟨⟨q0, q1, q2, q3⟩, _⟩ := new4 (Nat.lt_succ_self _) I)
          | (go_at_call 12; refine (hs0 _ (base1 I)).mono ?_; clear hs0; intro e we hE; obtain ⟨pe, ne, ce, ee, me, rfl, HE2⟩ := change_parts hE; clear hE; obtain ⟨rfl, rfl⟩ := spec_unique HD2.out.2.2.1 HE2.out.2.2.1; obtain rfl : nd = ne := HD2.out.1.trans HE2.out.1.symm; replace I := up1 I HE2.out.2.2.2; clear q0 q1 q2 q3; obtain ⟨⟨q0, q1, q2, q3⟩, _⟩ := new4 (Nat.lt_succ_self _) I)
          | (go_at_call 13; refine (same_parts md nd cd ce pd pe _ HD2.out.1 (HD2.out.2.1.kept HE2.out.2.2.2) HE2.out.2.1 (by have := spec_len HD2.out.2.2.1; omega)).mono ?_; rintro e wf ⟨rfl, hN⟩; replace I := up1 I hN; clear hN HD2 HE2 q0 q1 q2 q3))
        have HF : Aside (Below (w.heap.size + 1) (w.alloc (.cells #[.int .i64 xo, .int .i64 xf, .int .i64 xt, .bool false] 24)) wf) := I
        clear I
        obtain ⟨WF, rfl⟩ : ∃ WF, WF = wf := ⟨_, rfl⟩
        go_loopg [14, 99] n (fun gg s14 s99 wr2 => ∃ i : Nat, i ≤ n ∧ n - i ≤ gg ∧ s99 = .int .i64 i ∧ Aside (Rows wr2 (w.heap.size + 1) s14 (leaveL (l.take i) xo)) ∧ Aside (Below (w.heap.size + 1) (w.alloc (.cells #[.int .i64 xo, .int .i64 xf, .int .i64 xt, .bool false] 24)) wr2))
        case atStart => exact ⟨0, Nat.zero_le _, by omega, rfl, Rows.nil _ _, HF.out⟩
        case round =>
          obtain ⟨i, hi, hg3, rfl, HRW, J3⟩ := hrel
          obtain ⟨pl, cl, rfl, _, _, _⟩ := HRW.out.form
          generalize hnl : (leaveL (l.take i) xo).length = nl at HRW
          have HNL : Aside ((leaveL (l.take i) xo).length = nl) := hnl
          clear hnl
          have hJ3 := J3.out.size
          simp only [World.size_alloc] at hJ3
          obtain ⟨⟨q0, q1, q2, q3⟩, _⟩ := new4 (Nat.lt_succ_self _) J3.out
          have hxl3 : w.heap.size < wr.heap.size := by omega
          by_cases hli : i < n
          · have hliz : (i : Int) < (n : Int) := by omega
            obtain ⟨t, ht⟩ : ∃ t, l[i]? = some t := ⟨_, List.getElem?_eq_getElem (by have := HN.out; omega)⟩
            have HST : Aside (leaveL (l.take (i + 1)) xo = if t.o = xo then leaveL (l.take i) xo else leaveL (l.take i) xo ++ [t]) := leave_step xo ht
            rcases HL.out with h0 | ⟨b2, off2, hpe, hb2, hc2⟩
            · rw [h0] at ht; simp at ht
            first | subst hpe | cases hpe
            obtain ⟨c0, c1, c2, c3⟩ := Lies.cells hc2 hb2 (base1 J3.out) ht
            have hbw2 := Nat.lt_of_lt_of_le hb2 (Nat.le_of_lt hxl3)
            have hbn2 := Nat.ne_of_lt hbw2
            clear hc2 ht
            by_cases hto : t.o = xo
            · have hneq : (t.o != xo) = false := by rw [hto]; simp
              have HR2 : Aside (Rows (wr.alloc (.cells #[.int .i64 t.o, .int .i64 t.f, .int .i64 t.t, .bool t.a] 24)) (w.heap.size + 1) (.slice pl nl cl) (leaveL (l.take (i + 1)) xo)) := by show Rows _ _ _ _; rw [HST.out, if_pos hto]; exact HRW.out.below ((Grown.refl wr).alloc _).below
              clear hto
              go_wp2
              go_roundg (n - (i + 1))
              case measure => omega
              case rel => exact ⟨i + 1, by omega, by omega, by go_num, HR2.out, upA J3.out⟩
            · have hneq : (t.o != xo) = true := bne_iff_ne.2 hto
              rw [if_neg hto] at HST
              clear hto
              go_wp2_with (at_builtin; refine append_row _ t rfl _ _ rfl (w.heap.size + 1) (.slice pl nl cl) (leaveL (l.take i) xo) rfl (HRW.out.below ((Grown.refl wr).alloc _).below) (by have := leave_take_len l i xo; omega) (by simp; omega) (wr.heap.size + 1) (by simp) rfl ?_)
              intro v7 w7 hR7 hB7 _ _
              have HR7 : Aside (Rows w7 (w.heap.size + 1) v7 (leaveL (l.take (i + 1)) xo)) := by show Rows _ _ _ _; rw [HST.out]; exact hR7
              have HB7 : Aside (Below (w.heap.size + 1) (w.alloc (.cells #[.int .i64 xo, .int .i64 xf, .int .i64 xt, .bool false] 24)) w7) := (upA J3.out).trans (hB7.mono (Nat.le_refl _))
              clear hR7 hB7
              go_wp2
              go_roundg (n - (i + 1))
              case measure => omega
              case rel => exact ⟨i + 1, by omega, by omega, by go_num, HR7.out, HB7.out⟩
          · have hliz : ¬ (i : Int) < (n : Int) := by omega
            have HTK : Aside (l.take i = l) := List.take_of_length_le (by have := HN.out; omega)
            have HLI : Aside (Lies wr pl (leaveL l xo) ∧ nl = ll) := by
              obtain ⟨p', c', hv', hL', _, _⟩ := HRW.out.form
              simp only [Value.slice.injEq] at hv'
              obtain ⟨rfl, _, rfl⟩ := hv'
              have h1 := HTK.out
              have h2 := HNL.out
              rw [h1] at hL' h2
              exact ⟨hL', by rw [HLL.out, h2]⟩
            obtain rfl : nl = ll := HLI.out.2
            have I := J3.out
            have hlv2 := hlv _ (base1 I)
            clear HRW J3
            go_wp2_with (first
              | (go_at_call 15; refine hlv2.mono ?_; clear hlv2; intro e wg hE; obtain ⟨g, cg, rfl, HG⟩ := leave_parts HLL.out hE; clear hE; replace I := up1 I HG.out.2)
              | (go_at_call 13; refine (same_parts (leaveL l xo) nl cg cl (some ⟨g, 0, none⟩) pl _ HLL.out HG.out.1 (HLI.out.1.kept HG.out.2) (by have := leave_len l xo; have := HN.out; omega)).mono ?_; rintro e wh ⟨rfl, hN⟩; replace I := up1 I hN; clear hN))
            go_ret
            exact ⟨rfl, base1 I⟩
    · exact absurd (HANY.out.symm.trans (any_take HA.out (by have := HN.out; omega))) (by decide)
set_option maxHeartbeats 1000000 in
theorem tells_tt (l : List Lk) (xo xf xt : Int) (p : Option Addr) (n cap : Nat) (w : World) (hC : TellC l ⟨xo, xf, xt, true⟩ xo xf xt true 2 p n cap w) (hL : Lies w p l) (hN : n = l.length) (hn : n * 32 ≤ 140737488355328) (hany : l.any (clash ⟨xo, xf, xt, true⟩) = true) :
    Calls Try.prog 3 #[.slice p n cap, .agg #[.int .i64 xo, .int .i64 xf, .int .i64 xt, .bool true]] w fun r w' => r = .returned (.bool true) ∧ Below w.heap.size w w' := by
  have HANY : Aside (l.any (clash ⟨xo, xf, xt, true⟩) = true) := hany
  have HL : Aside (Lies w p l) := hL
  have HN : Aside (n = l.length) := hN
  obtain ⟨hwr, hrw, hmt, htk, hfr, hs1, hs0, hcl, hlv⟩ := hC
  obtain ⟨ll, hll⟩ : ∃ ll, ll = (leaveL l xo).length := ⟨_, rfl⟩
  have HLL : Aside (ll = (leaveL l xo).length) := hll
  clear hany hL hN hll
  unfold WrongPost at hwr hrw
  generalize (faultK l).1 = f1 at *
  generalize (faultK l).2 = f2 at *
  have hgf := guardF'
  have hgk := guardK'
  have hnf := neqF
  have hnk := neqK'
  have I : Below (w.heap.size + 1) (w.alloc (.cells #[.int .i64 xo, .int .i64 xf, .int .i64 xt, .bool true] 24)) (w.alloc (.cells #[.int .i64 xo, .int .i64 xf, .int .i64 xt, .bool true] 24)) := Below.refl _ _
  go_enter Try.func3, Try.ntmps3
  go_wp2_with (first
    | (go_at_call 7; refine (hwr _ (base1 I)).mono ?_; clear hwr; rintro e w1 ⟨rfl, hN⟩; replace I := up1 I hN; clear hN)
    | (go_at_call 8; refine (hrw _ (base1 I)).mono ?_; clear hrw; rintro e w2 ⟨rfl, hN⟩; replace I := up1 I hN; clear hN; obtain ⟨⟨q0, q1, q2, q3⟩, _⟩ := new4 (Nat.lt_succ_self _) I)
    | (go_at_call 9; refine (hmt _ (base1 I)).mono ?_; clear hmt; rintro e w3 ⟨y, bb, rfl, hM, hN⟩; replace I := up1 I hN; clear hN q0 q1 q2 q3; obtain rfl : bb = true := hM.any.symm.trans HANY.out; have HM : Aside (MeetIs l ⟨xo, xf, xt, true⟩ y true) := hM; clear hM))
  have HI : Aside (Below (w.heap.size + 1) (w.alloc (.cells #[.int .i64 xo, .int .i64 xf, .int .i64 xt, .bool true] 24)) w3) := I
  clear I
  obtain ⟨W3, rfl⟩ : ∃ W3, W3 = w3 := ⟨_, rfl⟩
  go_loopg [6, 30] n (fun gg s6 s30 wr => ∃ j : Nat, j ≤ n ∧ n - j ≤ gg ∧ s30 = .int .i64 j ∧ s6 = .bool true ∧ Aside (Below (W3.heap.size + 1) (W3.alloc (.cells #[.int .i64 y.o, .int .i64 y.f, .int .i64 y.t, .bool y.a] 24)) wr) ∧ Aside (∀ z ∈ l.take j, clash ⟨xo, xf, xt, true⟩ z = false))
  case atStart => exact ⟨0, Nat.zero_le _, by omega, rfl, rfl, Below.refl _ _, by intro z hz; simp at hz⟩
  case round =>
    obtain ⟨j, hj, hg, rfl, rfl, J, HA⟩ := hrel
    obtain ⟨⟨y0, y1, y2, y3⟩, ⟨yf0, yf1, yf2, yf3⟩⟩ := new4 (Nat.lt_succ_self _) J.out
    have I := up1 HI.out (base1 J.out)
    obtain ⟨⟨q0, q1, q2, q3⟩, _⟩ := new4 (Nat.lt_succ_self _) I
    have hJs := J.out.size
    simp only [World.size_alloc] at hJs
    have hIs := I.size
    simp only [World.size_alloc] at hIs
    have hIs3 := HI.out.size
    simp only [World.size_alloc] at hIs3
    have hyl : W3.heap.size < wr.heap.size := by omega
    have hxl : w.heap.size < wr.heap.size := by omega
    have hyw : W3.heap.size ≠ w.heap.size := by omega
    by_cases hlt : j < n
    · have hltz : (j : Int) < (n : Int) := by omega
      obtain ⟨z, hz⟩ : ∃ z, l[j]? = some z := ⟨_, List.getElem?_eq_getElem (by have := HN.out; omega)⟩
      have HZ : Aside (l[j]? = some z) := hz
      rcases HL.out with h0 | ⟨b, off, rfl, hb, hc⟩
      · rw [h0] at hz; simp at hz
      obtain ⟨c0, c1, c2, c3⟩ := Lies.cells hc hb (base1 I) hz
      have hbw : b < wr.heap.size := by omega
      have hbn : b ≠ wr.heap.size := by omega
      have hX : Below wr.heap.size wr (wr.alloc (.cells #[.int .i64 z.o, .int .i64 z.f, .int .i64 z.t, .bool z.a] 24)) := ((Grown.refl wr).alloc _).below
      clear hc hz I
      cases hcz : clash ⟨xo, xf, xt, true⟩ z
      · have hcc := fun W => hcl z W
        rw [hcz] at hcc
        have HA2 : Aside (∀ u ∈ l.take (j + 1), clash ⟨xo, xf, xt, true⟩ u = false) := take_false HZ.out hcz HA.out
        clear hcz
        go_wp2_with (go_at_call 10; refine (hcc _).mono ?_; clear hcc; rintro r w5 ⟨rfl, hG⟩; have HJ3 : Aside (Below (W3.heap.size + 1) (W3.alloc (.cells #[.int .i64 y.o, .int .i64 y.f, .int .i64 y.t, .bool y.a] 24)) w5) := up1 J.out (Below.onto hX hG.below); clear hG)
        go_roundg (n - (j + 1))
        case measure => omega
        case rel => exact ⟨j + 1, by omega, by omega, by go_num, rfl, HJ3.out, HA2.out⟩
      · obtain rfl : z = y := by
          rcases HM.out with ⟨h, _⟩ | ⟨_, h⟩
          · cases h
          · have := (find_at HZ.out hcz HA.out).symm.trans h
            simpa using this
        have hcc := fun W => hcl z W
        rw [hcz] at hcc
        clear hcz
        go_wp2_with (first
          | (go_at_call 10; refine (hcc _).mono ?_; clear hcc; rintro r w5 ⟨rfl, hG⟩; have HJ3 : Aside (Below (W3.heap.size + 1) (W3.alloc (.cells #[.int .i64 z.o, .int .i64 z.f, .int .i64 z.t, .bool z.a] 24)) w5) := up1 J.out (Below.onto hX hG.below); obtain ⟨⟨u0, u1, u2, u3⟩, ⟨uf0, uf1, uf2, uf3⟩⟩ := new4 (Nat.lt_succ_self _) HJ3.out; obtain ⟨⟨v0, v1, v2, v3⟩, _⟩ := new4 (Nat.lt_succ_self _) (hG.below.mono (by simp)); clear hG; have I : Below (w.heap.size + 1) (w.alloc (.cells #[.int .i64 xo, .int .i64 xf, .int .i64 xt, .bool true] 24)) ((((w5.setCell ⟨W3.heap.size, 0, none⟩ (.int .i64 0)).setCell ⟨W3.heap.size, 1, none⟩ (.int .i64 0)).setCell ⟨W3.heap.size, 2, none⟩ (.int .i64 0)).setCell ⟨W3.heap.size, 3, none⟩ (.bool false)) := store4 (up1 HI.out (base1 HJ3.out)) (by omega) _ _ _ _; clear q0 q1 q2 q3; obtain ⟨⟨q0, q1, q2, q3⟩, _⟩ := new4 (Nat.lt_succ_self _) I)
          | (go_at_call 11; refine (htk _ (base1 I)).mono ?_; clear htk; intro e wa hE; obtain ⟨pa, na, ca, ea, ma, rfl, HA2⟩ := change_parts hE; clear hE; replace I := up1 I HA2.out.2.2.2; clear q0 q1 q2 q3; obtain ⟨⟨q0, q1, q2, q3⟩, _⟩ := new4 (Nat.lt_succ_self _) I)
          | (go_at_call 12; refine (hs1 _ (base1 I)).mono ?_; clear hs1; intro e wb hE; obtain ⟨pb, nb, cb, eb, mb, rfl, HB2⟩ := change_parts hE; clear hE; obtain ⟨rfl, rfl⟩ := spec_unique HA2.out.2.2.1 HB2.out.2.2.1; obtain rfl : na = nb := HA2.out.1.trans HB2.out.1.symm; replace I := up1 I HB2.out.2.2.2; clear q0 q1 q2 q3; obtain ⟨⟨q0, q1, q2, q3⟩, _⟩ := new4 (Nat.lt_succ_self _) I)
          | (go_at_call 13; refine (same_parts ma na ca cb pa pb _ HA2.out.1 (HA2.out.2.1.kept HB2.out.2.2.2) HB2.out.2.1 (by have := spec_len HA2.out.2.2.1; omega)).mono ?_; rintro e wc ⟨rfl, hN⟩; replace I := up1 I hN; clear hN HA2 HB2 q0 q1 q2 q3; obtain ⟨⟨q0, q1, q2, q3⟩, _⟩ := new4 (Nat.lt_succ_self _) I)
          | (go_at_call 14; refine (hfr _ (base1 I)).mono ?_; clear hfr; intro e wd hE; obtain ⟨pd, nd, cd, ed, md, rfl, HD2⟩ := change_parts hE; clear hE; replace I := up1 I HD2.out.2.2.2; clear q0 q1 q2 q3; obtain ⟨⟨q0, q1, q2, q3⟩, _⟩ := new4 (Nat.lt_succ_self _) I)
          | (go_at_call 12; refine (hs0 _ (base1 I)).mono ?_; clear hs0; intro e we hE; obtain ⟨pe, ne, ce, ee, me, rfl, HE2⟩ := change_parts hE; clear hE; obtain ⟨rfl, rfl⟩ := spec_unique HD2.out.2.2.1 HE2.out.2.2.1; obtain rfl : nd = ne := HD2.out.1.trans HE2.out.1.symm; replace I := up1 I HE2.out.2.2.2; clear q0 q1 q2 q3; obtain ⟨⟨q0, q1, q2, q3⟩, _⟩ := new4 (Nat.lt_succ_self _) I)
          | (go_at_call 13; refine (same_parts md nd cd ce pd pe _ HD2.out.1 (HD2.out.2.1.kept HE2.out.2.2.2) HE2.out.2.1 (by have := spec_len HD2.out.2.2.1; omega)).mono ?_; rintro e wf ⟨rfl, hN⟩; replace I := up1 I hN; clear hN HD2 HE2 q0 q1 q2 q3))
        have HF : Aside (Below (w.heap.size + 1) (w.alloc (.cells #[.int .i64 xo, .int .i64 xf, .int .i64 xt, .bool true] 24)) wf) := I
        clear I
        obtain ⟨WF, rfl⟩ : ∃ WF, WF = wf := ⟨_, rfl⟩
        go_loopg [14, 99] n (fun gg s14 s99 wr2 => ∃ i : Nat, i ≤ n ∧ n - i ≤ gg ∧ s99 = .int .i64 i ∧ Aside (Rows wr2 (w.heap.size + 1) s14 (leaveL (l.take i) xo)) ∧ Aside (Below (w.heap.size + 1) (w.alloc (.cells #[.int .i64 xo, .int .i64 xf, .int .i64 xt, .bool true] 24)) wr2))
        case atStart => exact ⟨0, Nat.zero_le _, by omega, rfl, Rows.nil _ _, HF.out⟩
        case round =>
          obtain ⟨i, hi, hg3, rfl, HRW, J3⟩ := hrel
          obtain ⟨pl, cl, rfl, _, _, _⟩ := HRW.out.form
          generalize hnl : (leaveL (l.take i) xo).length = nl at HRW
          have HNL : Aside ((leaveL (l.take i) xo).length = nl) := hnl
          clear hnl
          have hJ3 := J3.out.size
          simp only [World.size_alloc] at hJ3
          obtain ⟨⟨q0, q1, q2, q3⟩, _⟩ := new4 (Nat.lt_succ_self _) J3.out
          have hxl3 : w.heap.size < wr.heap.size := by omega
          by_cases hli : i < n
          · have hliz : (i : Int) < (n : Int) := by omega
            obtain ⟨t, ht⟩ : ∃ t, l[i]? = some t := ⟨_, List.getElem?_eq_getElem (by have := HN.out; omega)⟩
            have HST : Aside (leaveL (l.take (i + 1)) xo = if t.o = xo then leaveL (l.take i) xo else leaveL (l.take i) xo ++ [t]) := leave_step xo ht
            rcases HL.out with h0 | ⟨b2, off2, hpe, hb2, hc2⟩
            · rw [h0] at ht; simp at ht
            first | subst hpe | cases hpe
            obtain ⟨c0, c1, c2, c3⟩ := Lies.cells hc2 hb2 (base1 J3.out) ht
            have hbw2 := Nat.lt_of_lt_of_le hb2 (Nat.le_of_lt hxl3)
            have hbn2 := Nat.ne_of_lt hbw2
            clear hc2 ht
            by_cases hto : t.o = xo
            · have hneq : (t.o != xo) = false := by rw [hto]; simp
              have HR2 : Aside (Rows (wr.alloc (.cells #[.int .i64 t.o, .int .i64 t.f, .int .i64 t.t, .bool t.a] 24)) (w.heap.size + 1) (.slice pl nl cl) (leaveL (l.take (i + 1)) xo)) := by show Rows _ _ _ _; rw [HST.out, if_pos hto]; exact HRW.out.below ((Grown.refl wr).alloc _).below
              clear hto
              go_wp2
              go_roundg (n - (i + 1))
              case measure => omega
              case rel => exact ⟨i + 1, by omega, by omega, by go_num, HR2.out, upA J3.out⟩
            · have hneq : (t.o != xo) = true := bne_iff_ne.2 hto
              rw [if_neg hto] at HST
              clear hto
              go_wp2_with (at_builtin; refine append_row _ t rfl _ _ rfl (w.heap.size + 1) (.slice pl nl cl) (leaveL (l.take i) xo) rfl (HRW.out.below ((Grown.refl wr).alloc _).below) (by have := leave_take_len l i xo; omega) (by simp; omega) (wr.heap.size + 1) (by simp) rfl ?_)
              intro v7 w7 hR7 hB7 _ _
              have HR7 : Aside (Rows w7 (w.heap.size + 1) v7 (leaveL (l.take (i + 1)) xo)) := by show Rows _ _ _ _; rw [HST.out]; exact hR7
              have HB7 : Aside (Below (w.heap.size + 1) (w.alloc (.cells #[.int .i64 xo, .int .i64 xf, .int .i64 xt, .bool true] 24)) w7) := (upA J3.out).trans (hB7.mono (Nat.le_refl _))
              clear hR7 hB7
              go_wp2
              go_roundg (n - (i + 1))
              case measure => omega
              case rel => exact ⟨i + 1, by omega, by omega, by go_num, HR7.out, HB7.out⟩
          · have hliz : ¬ (i : Int) < (n : Int) := by omega
            have HTK : Aside (l.take i = l) := List.take_of_length_le (by have := HN.out; omega)
            have HLI : Aside (Lies wr pl (leaveL l xo) ∧ nl = ll) := by
              obtain ⟨p', c', hv', hL', _, _⟩ := HRW.out.form
              simp only [Value.slice.injEq] at hv'
              obtain ⟨rfl, _, rfl⟩ := hv'
              have h1 := HTK.out
              have h2 := HNL.out
              rw [h1] at hL' h2
              exact ⟨hL', by rw [HLL.out, h2]⟩
            obtain rfl : nl = ll := HLI.out.2
            have I := J3.out
            have hlv2 := hlv _ (base1 I)
            clear HRW J3
            go_wp2_with (first
              | (go_at_call 15; refine hlv2.mono ?_; clear hlv2; intro e wg hE; obtain ⟨g, cg, rfl, HG⟩ := leave_parts HLL.out hE; clear hE; replace I := up1 I HG.out.2)
              | (go_at_call 13; refine (same_parts (leaveL l xo) nl cg cl (some ⟨g, 0, none⟩) pl _ HLL.out HG.out.1 (HLI.out.1.kept HG.out.2) (by have := leave_len l xo; have := HN.out; omega)).mono ?_; rintro e wh ⟨rfl, hN⟩; replace I := up1 I hN; clear hN))
            go_ret
            exact ⟨rfl, base1 I⟩
    · exact absurd (HANY.out.symm.trans (any_take HA.out (by have := HN.out; omega))) (by decide)
theorem tells_walk (l : List Lk) (x : Lk) (p : Option Addr) (cap : Nat) (w : World) (hL : Lies w p l) (hn : l.length * 32 ≤ 140737488355328) (hcap : l.length ≤ cap) (hnil : p = none → cap = 0) :
    Calls Try.prog 3 #[.slice p l.length cap, .agg #[.int .i64 x.o, .int .i64 x.f, .int .i64 x.t, .bool x.a]] w fun r w' => r = .returned (.bool true) ∧ Below w.heap.size w w' := by
  have hC := tellC l x p cap w hL hn hcap hnil
  obtain ⟨xo, xf, xt, xa⟩ := x
  cases hany : l.any (clash ⟨xo, xf, xt, xa⟩) <;> cases xa
  · exact tells_ff l xo xf xt p l.length cap w hC hL rfl hn hany
  · exact tells_ft l xo xf xt p l.length cap w hC hL rfl hn hany
  · exact tells_tf l xo xf xt p l.length cap w hC hL rfl hn hany
  · exact tells_tt l xo xf xt p l.length cap w hC hL rfl hn hany
end Go.Proofs.Ytampldoimpfjgab
