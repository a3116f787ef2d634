/-
  The walk of the statement LayerSeen: it answers true, and writes nothing that was there.
-/
import Derived.Test.YtampldoimpfjgaaDoorLAlive
import Derived.Test.YtampldoimpfjgaaDoorTSame
namespace Go.Proofs.YtampldoimpfjgaaDoor
open Go.RowKit PM Go.Sort
set_option linter.unusedVariables false

theorem eqE (e : Ent) (w : World) : Sem.run Tryd.prog (binOp .eql 38 (.agg #[.string e.path, .int .i64 e.kind, .string e.text, .bool e.opq]) (.agg #[.string e.path, .int .i64 e.kind, .string e.text, .bool e.opq])) w = .ok (.bool true) w := by
  have u3 := Tryd.underlying3
  have a3 := Tryd.isAgg3
  have z3 := Tryd.sizeOf3
  have u9 := Tryd.underlying9
  have a9 := Tryd.isAgg9
  have z9 := Tryd.sizeOf9
  have u4 := Tryd.underlying4
  have a4 := Tryd.isAgg4
  have z4 := Tryd.sizeOf4
  have hS : Tryd.prog.underlying 38 = some (.struct (Tryd.prog.fieldsOf 38)) := by kernel_rfl
  have hp : Tryd.prog.stoodInHeld 38 = false := by kernel_rfl
  rw [run_eql_struct, show (10000 : Nat) = 9999 + 1 from rfl, run_equalIn_agg w 9999 38 _ _ hS hp]
  simp only [Program.fieldsOf, Tryd.underlying38]
  go_simp
theorem eqE4 (p t : ByteArray) (k : Int) (o : Bool) (w : World) : Sem.run Tryd.prog (binOp .eql 38 (.agg #[.string p, .int .i64 k, .string t, .bool o]) (.agg #[.string p, .int .i64 k, .string t, .bool o])) w = .ok (.bool true) w := eqE ⟨p, k, t, o⟩ w
theorem guardE4 (op : BinOp) (a b : Operand) (p t p' t' : ByteArray) (k k' : Int) (o o' : Bool) (w : World) : (eqGuard op 38 a b (.agg #[.string p, .int .i64 k, .string t, .bool o]) (.agg #[.string p', .int .i64 k', .string t', .bool o'])).run Tryd.prog w = .ok () w := guardE op a b ⟨p, k, t, o⟩ ⟨p', k', t', o'⟩ w
theorem over_fits {l t : List Ent} (hl : Fits l) (ht : Fits t) (sl : Sorted l) (st : Sorted t) : Fits (overL l t) := fun e he => by
  rcases (mem_over sl st).1 he with h | h
  · obtain ⟨y, hy, _, rfl⟩ := mem_ownL.1 h
    exact hl y hy
  · exact ht e (mem_thruL.1 h).1
theorem box4' {V W w1 : World} {a b c d : Value} {T : TypeId} (h : Below (V.heap.size + 1) (V.alloc (.cells #[a, b, c, d] T)) W) (g : Below W.heap.size W w1) :
    Below (V.heap.size + 1) (V.alloc (.cells #[a, b, c, d] T)) w1 ∧ V.heap.size ≠ w1.heap.size ∧ V.heap.size < w1.heap.size ∧
    w1.cell? ⟨V.heap.size, 0, none⟩ = some a ∧ w1.cell? ⟨V.heap.size, 1, none⟩ = some b ∧ w1.cell? ⟨V.heap.size, 2, none⟩ = some c ∧ w1.cell? ⟨V.heap.size, 3, none⟩ = some d := by
  have hB := up1 h g
  have hs := hB.size
  simp at hs
  obtain ⟨⟨e0, e1, e2, e3⟩, _⟩ := new4 (Nat.lt_succ_self _) hB
  exact ⟨hB, by omega, by omega, e0, e1, e2, e3⟩

set_option maxHeartbeats 16000000 in
set_option maxRecDepth 100000 in
theorem seen_walk (l t : List Ent) (q : ByteArray) (m : Int) (pl p : Option Addr) (capl cap : Nat) (w : World) (hLl : Lies w pl l) (hL : Lies w p t) (hFl : Fits l) (hF : Fits t) (hnl : l.length < 4611686018427387904) (hn : t.length < 4611686018427387904) (hcapl : l.length ≤ capl) (hcap : t.length ≤ cap) (hq : q.size ≤ maxLen)
    (hm : w.cell? ⟨0, 0, none⟩ = some (.int .i64 m)) :
    Calls Tryd.prog 11 #[.slice pl l.length capl, .slice p t.length cap, .string q] w fun r w' => r = .returned (.bool true) ∧ Below w.heap.size w w' := by
  have hal := layerAlive_any m w hm
  have hov := fun W (hB : Below w.heap.size w W) => over_any l t m pl p capl cap W (hLl.kept hB) (hL.kept hB) hFl hF hnl hn hcapl hcap (held hB hm)
  have hfld := field40
  by_cases h0 : overErr l t = 0
  · obtain ⟨hRl, hRt, hN80⟩ := overErr_zero.1 h0
    have hRX := over_right h0
    have hFX := over_fits hFl hF hRl.sorted hRt.sorted
    have hX80 := hRX.len
    rw [h0, if_pos rfl] at hov
    have hwx : ∀ W px cx, Below w.heap.size w W → Lies W px (overL l t) → (overL l t).length ≤ cx → Calls Tryd.prog 29 #[.slice px (overL l t).length cx] W fun r w' => r = .returned (.agg #[.int .i64 0, .int .i64 0]) ∧ Below W.heap.size W w' := fun W px cx hB hLx hc => by
      have := wrong_any (overL l t) m px cx W hLx hFX (by omega) hc (held hB hm)
      rw [faultL_right hRX] at this
      exact this
    by_cases hq0 : q.data.toList = []
    · have hq1 := empty_of hq0
      obtain ⟨X, hX⟩ : ∃ X, X = (overL l t).length := ⟨_, rfl⟩
      unfold TreePost at hov
      rw [← hX] at hwx hov
      clear hX hX80
      obtain ⟨n, hnn⟩ : ∃ n, n = t.length := ⟨_, rfl⟩
      obtain ⟨nl, hnnl⟩ : ∃ nl, nl = l.length := ⟨_, rfl⟩
      rw [← hnn, ← hnnl] at hov
      rw [← hnn, ← hnnl]
      clear hnn hnnl hLl hL hFl hF hnl hn hcapl hcap hm hFX hRX hRl hRt hN80 h0
      go_enter Tryd.func11, Tryd.ntmps11
      go_wp2_with (first
        | (go_at_call 50; refine hal.mono ?_; clear hal; rintro e w1 ⟨rfl, hB⟩)
        | (go_at_call 46; refine (hov _ hB).mono ?_; clear hov; rintro e w2 ⟨px, cx, rfl, hLx, hcx, hnx, hN⟩; replace hB := Below.onto hB hN; clear hN)
        | (go_at_call 29; refine (hwx _ px cx hB hLx hcx).mono ?_; clear hwx; rintro e w3 ⟨rfl, hN⟩; replace hB := Below.onto hB hN; clear hN))
      go_ret
      exact ⟨rfl, hB⟩
    · have hq1 := empty_not hq0
      obtain ⟨⟨xp, xk, xt, xo⟩, hxx⟩ : ∃ x, (getL (overL l t) q.data.toList).getD zeroE = x := ⟨_, rfl⟩
      obtain ⟨bb, hbb⟩ : ∃ bb, (getL (overL l t) q.data.toList).isSome = bb := ⟨_, rfl⟩
      have hgx : ∀ W px cx, Lies W px (overL l t) → Calls Tryd.prog 31 #[.slice px (overL l t).length cx, .string q] W fun r w' => r = .returned (.tuple #[.agg #[.string xp, .int .i64 xk, .string xt, .bool xo], .bool bb]) ∧ Below W.heap.size W w' := fun W px cx hLx =>
        get_det (overL l t) q px cx W hLx hFX (by omega) hq hRX.sorted ⟨xp, xk, xt, xo⟩ bb hxx hbb
      obtain ⟨⟨yp, yk, yt, yo⟩, hyy⟩ : ∃ x, (getL t q.data.toList).getD zeroE = x := ⟨_, rfl⟩
      obtain ⟨cc, hcc⟩ : ∃ bb, (getL t q.data.toList).isSome = bb := ⟨_, rfl⟩
      have hgt : ∀ W, Below w.heap.size w W → Calls Tryd.prog 31 #[.slice p t.length cap, .string q] W fun r w' => r = .returned (.tuple #[.agg #[.string yp, .int .i64 yk, .string yt, .bool yo], .bool cc]) ∧ Below W.heap.size W w' := fun W hB =>
        get_det t q p cap W (hL.kept hB) hF hn hq hRt.sorted ⟨yp, yk, yt, yo⟩ cc hyy hcc
      have hhi := fun W (hB : Below w.heap.size w W) => hides_any l q pl capl W (hLl.kept hB) hFl hnl hq
      have HOWN : Aside (∀ y ∈ l, y.p = q.data.toList → (y.kind = 4 ∧ bb = false) ∨ (¬ y.kind = 4 ∧ bb = true ∧ (⟨xp, xk, xt, xo⟩ : Ent) = clearE y)) := fun y hy hp => by
        have := get_over_own hRl hRt hy
        rw [hp] at this
        by_cases hk : y.kind = 4
        · rw [if_pos hk] at this
          rw [this] at hbb
          exact .inl ⟨hk, hbb.symm⟩
        · rw [if_neg hk] at this
          rw [this] at hbb hxx
          exact .inr ⟨hk, hbb.symm, hxx.symm⟩
      have HTHR : Aside ((∀ y ∈ l, y.p ≠ q.data.toList) → bb = (cc && !hidesL l q.data.toList) ∧ (bb = true → (⟨xp, xk, xt, xo⟩ : Ent) = ⟨yp, yk, yt, yo⟩)) := fun hno => by
        have := get_over_thru hRl hRt hq0 hno
        rw [this] at hbb hxx
        cases hh : hidesL l q.data.toList with
        | true =>
          rw [hh] at hbb
          refine ⟨by rw [← hbb]; simp, fun h => ?_⟩
          rw [h] at hbb; cases hbb
        | false =>
          rw [hh] at hbb hxx
          have h1 : (getL t q.data.toList).isSome = bb := hbb
          have h2 : (getL t q.data.toList).getD zeroE = ⟨xp, xk, xt, xo⟩ := hxx
          refine ⟨by rw [← h1, hcc]; simp, fun _ => by rw [← h2, hyy]⟩
      have HLl : Aside (Lies w pl l) := hLl
      have heq := eqE4
      have hgu := guardE4
      unfold TreePost at hov
      obtain ⟨X, hX⟩ : ∃ X, X = (overL l t).length := ⟨_, rfl⟩
      rw [← hX] at hwx hgx hov
      clear hX hX80
      obtain ⟨n, hnn⟩ : ∃ n, n = t.length := ⟨_, rfl⟩
      obtain ⟨nl, hnnl⟩ : ∃ nl, nl = l.length := ⟨_, rfl⟩
      have HN : Aside (nl = l.length) := hnnl
      rw [← hnn, ← hnnl] at hov
      rw [← hnn] at hgt
      rw [← hnnl] at hhi hnl
      rw [← hnn, ← hnnl]
      clear hnn hnnl hLl hL hFl hF hn hcapl hcap hm hFX hRX hRl hRt hN80 h0 hxx hbb hyy hcc
      go_enter Tryd.func11, Tryd.ntmps11
      go_wp2_with (first
        | (go_at_call 50; refine hal.mono ?_; clear hal; rintro e w1 ⟨rfl, hB⟩)
        | (go_at_call 46; refine (hov _ hB).mono ?_; clear hov; rintro e w2 ⟨px, cx, rfl, hLx, hcx, hnx, hN⟩; replace hB := Below.onto hB hN; clear hN)
        | (go_at_call 29; refine (hwx _ px cx hB hLx hcx).mono ?_; clear hwx; rintro e w3 ⟨rfl, hN⟩; replace hB := Below.onto hB hN; replace hLx := hLx.kept hN; clear hN)
        | (go_at_call 31; refine (hgx _ px cx hLx).mono ?_; clear hgx hLx; rintro e w4 ⟨rfl, hN⟩; have HV : Aside (Below w.heap.size w w4) := Below.onto hB hN; clear hN hB; have HT : Aside (Below (w4.heap.size + 1) (w4.alloc (.cells #[.string xp, .int .i64 xk, .string xt, .bool xo] 38)) (w4.alloc (.cells #[.string xp, .int .i64 xk, .string xt, .bool xo] 38))) := Below.refl _ _))
      go_loopg [46] nl (fun gg i wr => ∃ k : Nat, k ≤ nl ∧ nl - k ≤ gg ∧ i = .int .i64 k ∧ Aside (Below (w4.heap.size + 1) (w4.alloc (.cells #[.string xp, .int .i64 xk, .string xt, .bool xo] 38)) wr) ∧ Aside (∀ y ∈ l.take k, y.p ≠ q.data.toList))
      case atStart => exact ⟨0, Nat.zero_le _, by omega, rfl, HT.out, by intro y hy; simp at hy⟩
      case round =>
        obtain ⟨k, hk, hgg, rfl, TT, NO⟩ := hrel
        have hBr := Below.onto HV.out (base1 TT.out)
        obtain ⟨⟨a0, a1, a2, a3⟩, _⟩ := new4 (Nat.lt_succ_self _) TT.out
        have hsr := TT.out.size
        simp at hsr
        have hane : w4.heap.size ≠ wr.heap.size := by omega
        have halt : w4.heap.size < wr.heap.size := by omega
        by_cases hlt : k < nl
        · have hltz : (k : Int) < (nl : Int) := by omega
          obtain ⟨y, hy⟩ : ∃ y, l[k]? = some y := ⟨_, List.getElem?_eq_getElem (by have := HN.out; omega)⟩
          have HY : Aside (l[k]? = some y) := hy
          rcases HLl.out with h0 | ⟨b, off, rfl, hb, hc⟩
          · rw [h0] at hy; simp at hy
          obtain ⟨c0, c1, c2, c3⟩ := Lies.cells hc hb hBr hy
          clear hc hy
          by_cases hpq : y.path.data.toList = q.data.toList
          · obtain ⟨e1, e2⟩ := eq_parts hpq
            rcases HOWN.out y (List.mem_of_getElem? HY.out) hpq with ⟨hk4, rfl⟩ | ⟨hk4, rfl, hcl⟩
            · have HB : Aside (Below w.heap.size w (wr.alloc (.cells #[.string y.path, .int .i64 4, .string y.text, .bool false] 38))) := hBr.alloc hBr.size _
              go_wp2
              go_ret
              exact ⟨rfl, HB.out⟩
            · obtain ⟨rfl, rfl, rfl, rfl⟩ : xp = y.path ∧ xk = y.kind ∧ xt = y.text ∧ xo = false := by simpa [clearE] using hcl
              have hk5 : (y.kind != 4) = true := by simpa using hk4
              have HB : Aside (Below w.heap.size w (wr.alloc (.cells #[.string y.path, .int .i64 y.kind, .string y.text, .bool false] 38))) := hBr.alloc hBr.size _
              go_wp2
              go_ret
              exact ⟨rfl, HB.out⟩
          · obtain ⟨e1, e2⟩ := ne_parts hpq
            have HP : Aside (y.p ≠ q.data.toList) := hpq
            clear hpq
            go_wp2
            go_roundg (nl - (k + 1))
            case measure => omega
            case rel => exact ⟨k + 1, by omega, by omega, by go_num, upA TT.out, fun z hz => by
              rw [take_step HY.out] at hz
              rcases List.mem_append.1 hz with hz | hz
              · exact NO.out z hz
              · simp at hz; subst hz; exact HP.out⟩
        · have hltz : ¬ (k : Int) < (nl : Int) := by omega
          obtain ⟨hb1, hb2⟩ := HTHR.out (fun y hy => NO.out y (by rw [List.take_of_length_le (by have := HN.out; omega)]; exact hy))
          clear HOWN HTHR hgg
          generalize hidesL l q.data.toList = hd at hhi hb1
          cases cc with
          | false =>
            obtain rfl : bb = false := by simpa using hb1
            clear hb1 hb2
            go_wp2_with (go_at_call 31; refine (hgt _ hBr).mono ?_; clear hgt; rintro e w6 ⟨rfl, hN⟩; have hT6 := box4' TT.out hN; clear a0 a1 a2 a3 hane halt; obtain ⟨hT6, hane, halt, a0, a1, a2, a3⟩ := hT6; have HB6 : Aside (Below w.heap.size w (w6.alloc (.cells #[.string yp, .int .i64 yk, .string yt, .bool yo] 38))) := (Below.onto hBr hN).alloc (Below.onto hBr hN).size _; clear hN)
            go_ret
            exact ⟨rfl, HB6.out⟩
          | true =>
            cases hd with
            | true =>
              obtain rfl : bb = false := by simpa using hb1
              clear hb1 hb2
              go_wp2_with (first
                | (go_at_call 31; refine (hgt _ hBr).mono ?_; clear hgt; rintro e w6 ⟨rfl, hN⟩; have hT6 := box4' TT.out hN; clear a0 a1 a2 a3 hane halt; obtain ⟨hT6, hane, halt, a0, a1, a2, a3⟩ := hT6; have HB6 : Aside (Below w.heap.size w (w6.alloc (.cells #[.string yp, .int .i64 yk, .string yt, .bool yo] 38))) := (Below.onto hBr hN).alloc (Below.onto hBr hN).size _; clear hN)
                | (go_at_call 44; refine (hhi _ HB6.out).mono ?_; clear hhi; rintro e w7 ⟨rfl, hG⟩; have HB7 : Aside (Below w.heap.size w w7) := Below.onto HB6.out hG.below; clear hG))
              go_ret
              exact ⟨rfl, HB7.out⟩
            | false =>
              obtain rfl : bb = true := by simpa using hb1
              obtain ⟨rfl, rfl, rfl, rfl⟩ : yp = xp ∧ yk = xk ∧ yt = xt ∧ yo = xo := by simpa [eq_comm] using hb2 rfl
              clear hb1 hb2
              go_wp2_with (first
                | (go_at_call 31; refine (hgt _ hBr).mono ?_; clear hgt; rintro e w6 ⟨rfl, hN⟩; have hT6 := box4' TT.out hN; clear a0 a1 a2 a3 hane halt; obtain ⟨hT6, hane, halt, a0, a1, a2, a3⟩ := hT6; have HB6 : Aside (Below w.heap.size w (w6.alloc (.cells #[.string yp, .int .i64 yk, .string yt, .bool yo] 38))) := (Below.onto hBr hN).alloc (Below.onto hBr hN).size _; clear hN; replace hT6 := hT6.alloc (Nat.succ_le_of_lt halt) (.cells #[.string yp, .int .i64 yk, .string yt, .bool yo] 38); have hT7 : Below (w6.heap.size + 1) (w6.alloc (.cells #[.string yp, .int .i64 yk, .string yt, .bool yo] 38)) (w6.alloc (.cells #[.string yp, .int .i64 yk, .string yt, .bool yo] 38)) := Below.refl _ _)
                | (go_at_call 44; refine (hhi _ HB6.out).mono ?_; clear hhi; rintro e w7 ⟨rfl, hG⟩; have HB7 : Aside (Below w.heap.size w w7) := Below.onto HB6.out hG.below; clear a0 a1 a2 a3 hane halt; obtain ⟨hT8, hane, halt, a0, a1, a2, a3⟩ := box4' hT6 hG.below; obtain ⟨hT9, hbne, hblt, b0, b1, b2, b3⟩ := box4' hT7 hG.below; clear hG hT6 hT7))
              go_ret
              exact ⟨rfl, HB7.out⟩
  · rw [if_neg h0] at hov
    generalize overErr l t = er at hov h0
    unfold TreePost at hov
    obtain ⟨n, hnn⟩ : ∃ n, n = t.length := ⟨_, rfl⟩
    obtain ⟨nl, hnnl⟩ : ∃ nl, nl = l.length := ⟨_, rfl⟩
    rw [← hnn, ← hnnl] at hov
    rw [← hnn, ← hnnl]
    clear hnn hnnl hLl hL hFl hF hnl hn hcapl hcap hm
    go_enter Tryd.func11, Tryd.ntmps11
    go_wp2_with (first
      | (go_at_call 50; refine hal.mono ?_; clear hal; rintro e w1 ⟨rfl, hB⟩)
      | (go_at_call 46; refine (hov _ hB).mono ?_; clear hov; rintro e w2 ⟨px, cx, rfl, hLx, hcx, hnx, hN⟩; replace hB := Below.onto hB hN; clear hN hLx hcx hnx))
    go_ret
    exact ⟨rfl, hB⟩
end Go.Proofs.YtampldoimpfjgaaDoor
