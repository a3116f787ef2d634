/-
  The document's own WrongLocks.
-/
import Derived.Test.YtampldoimpfjgabRK1
namespace Go.Proofs.Ytampldoimpfjgab
open Go.RowKit Go.Sort KM
set_option linter.unusedVariables false

theorem bad_any (e i : Int) (B : Nat) (w : World) (hB : B < w.heap.size) (hc : w.cell? ⟨B, 0, none⟩ = some (.int .i64 i)) :
    Calls Try.prog 19 #[.int .i64 e, .pointer (some ⟨B, 0, none⟩)] w fun r w' => r = .returned (.agg #[.int .i64 e, .int .i64 i]) ∧ Below w.heap.size w w' := by
  have hne : B ≠ w.heap.size := by omega
  go_enter Try.func19, Try.ntmps19
  go_wp2
  refine bodyPost_ret (v := .agg #[.int .i64 e, .int .i64 i]) (by simp [results, Try.results19, go_sem]) rfl ?_
  exact ⟨rfl, ((Grown.refl w).alloc _).below⟩
/-- The ways through a lock, as the document asks them. -/
def WaysR (x : Lk) : Prop := (¬ okK x ∧ (x.o < 0 ∨ (¬ x.o < 0 ∧ (3 < x.o ∨ (¬ 3 < x.o ∧ (x.f < 0 ∨ (¬ x.f < 0 ∧ (1000 < x.t ∨ (¬ 1000 < x.t ∧ x.t ≤ x.f))))))))) ∨ (okK x ∧ ¬ x.o < 0 ∧ ¬ 3 < x.o ∧ ¬ x.f < 0 ∧ ¬ 1000 < x.t ∧ ¬ x.t ≤ x.f)
theorem waysR (x : Lk) : WaysR x := by unfold WaysR okK; omega
/-- The boxes of a round: the fault, the number, the lock. -/
structure WBox (k : Int) (y : Lk) (w wr W : World) : Prop where
  below : Below (w.heap.size + 1) (w.alloc (.cells #[.int .i64 0, .int .i64 0] 27)) W
  ci : W.cell? ⟨wr.heap.size, 0, none⟩ = some (.int .i64 k)
  y0 : W.cell? ⟨wr.heap.size + 1, 0, none⟩ = some (.int .i64 y.o)
  y1 : W.cell? ⟨wr.heap.size + 1, 1, none⟩ = some (.int .i64 y.f)
  y2 : W.cell? ⟨wr.heap.size + 1, 2, none⟩ = some (.int .i64 y.t)
  y3 : W.cell? ⟨wr.heap.size + 1, 3, none⟩ = some (.bool y.a)
  size : wr.heap.size + 2 ≤ W.heap.size
theorem WBox.start (k : Int) (y : Lk) {w wr : World} (h : Below (w.heap.size + 1) (w.alloc (.cells #[.int .i64 0, .int .i64 0] 27)) wr) : WBox k y w wr ((wr.alloc (.cells #[.int .i64 k] 3)).alloc (.cells #[.int .i64 y.o, .int .i64 y.f, .int .i64 y.t, .bool y.a] 24)) := by
  have e : wr.heap.size + 1 = (wr.alloc (.cells #[.int .i64 k] 3)).heap.size := by simp
  have h4 := (new4h (X := wr.alloc (.cells #[.int .i64 k] 3)) (t := 24) (a := .int .i64 y.o) (b := .int .i64 y.f) (c := .int .i64 y.t) (d := .bool y.a) e (Below.refl _ _)).1
  exact ⟨upA (upA h), Lib.cell?_alloc_some _ (cell_top rfl _ _), h4.1, h4.2.1, h4.2.2.1, h4.2.2.2, by simp⟩
theorem WBox.kept {k : Int} {y : Lk} {w wr W W' : World} (h : WBox k y w wr W) (hN : Below W.heap.size W W') : WBox k y w wr W' := by
  have hs := h.size
  have hz := hN.size
  exact ⟨up1 h.below hN, (hN.cell (p := ⟨wr.heap.size, 0, none⟩) (by show wr.heap.size < _; omega)).trans h.ci, (hN.cell (p := ⟨wr.heap.size + 1, 0, none⟩) (by show wr.heap.size + 1 < _; omega)).trans h.y0, (hN.cell (p := ⟨wr.heap.size + 1, 1, none⟩) (by show wr.heap.size + 1 < _; omega)).trans h.y1, (hN.cell (p := ⟨wr.heap.size + 1, 2, none⟩) (by show wr.heap.size + 1 < _; omega)).trans h.y2, (hN.cell (p := ⟨wr.heap.size + 1, 3, none⟩) (by show wr.heap.size + 1 < _; omega)).trans h.y3, by omega⟩
theorem WBox.bad {k : Int} {y : Lk} {w wr W : World} (h : WBox k y w wr W) (e : Int) : Calls Try.prog 19 #[.int .i64 e, .pointer (some ⟨wr.heap.size, 0, none⟩)] W fun r w' => r = .returned (.agg #[.int .i64 e, .int .i64 k]) ∧ Below (w.heap.size + 1) (w.alloc (.cells #[.int .i64 0, .int .i64 0] 27)) w' := by
  refine (bad_any e k wr.heap.size W (by have := h.size; omega) h.ci).mono ?_
  rintro r w' ⟨rfl, hN⟩
  exact ⟨rfl, up1 h.below hN⟩
set_option maxRecDepth 100000 in
set_option maxHeartbeats 1600000 in
theorem refWrong_few (l : List Lk) (p : Option Addr) (cap : Nat) (w : World) (hL : Lies w p l) (h40 : l.length ≤ 40) (hcap : l.length ≤ cap) :
    Calls Try.prog 8 #[.slice p l.length cap] w (WrongPost l w) := by
  have HF : Aside (faultK l = faultGo (l.take 0) (l.drop 0)) := by show _ = _; rw [faultK, if_neg (by omega)]; rfl
  have HL : Aside (Lies w p l) := hL
  obtain ⟨n, hnl⟩ : ∃ n, n = l.length := ⟨_, rfl⟩
  have HN : Aside (n = l.length) := hnl
  rw [← hnl] at h40 hcap ⊢
  clear hnl hL
  have hz : ¬ (40 : Int) < (n : Int) := by omega
  go_enter Try.func8, Try.ntmps8
  go_wp2
  go_loopg [15] n (fun gg s15 wr => ∃ k : Nat, k ≤ n ∧ n - k ≤ gg ∧ s15 = .int .i64 k ∧ Aside (Below (w.heap.size + 1) (w.alloc (.cells #[.int .i64 0, .int .i64 0] 27)) wr) ∧ Aside (faultK l = faultGo (l.take k) (l.drop k)))
  case atStart => exact ⟨0, Nat.zero_le _, by omega, rfl, Below.refl _ _, HF.out⟩
  case round =>
    obtain ⟨k, hk, hg, rfl, BW, HE⟩ := hrel
    by_cases hlt : k < n
    · have hltz : (k : Int) < (n : Int) := by omega
      obtain ⟨y, hy⟩ : ∃ y, l[k]? = some y := ⟨_, List.getElem?_eq_getElem (by have := HN.out; omega)⟩
      have HS : Aside (faultK l = if wrongB (l.take k) y = 0 then faultGo (l.take (k + 1)) (l.drop (k + 1)) else (wrongB (l.take k) y, (k : Int))) := by show _ = _; rw [HE.out, fault_step hy]
      have HWB : Aside (wrongB (l.take k) y = if ¬ okK y then 3 else if lastBad (l.take k) y = true then 2 else if (l.take k).any (clash y) then 8 else 0) := rfl
      have hBw := base1 BW.out
      rcases HL.out with h0 | ⟨b, off, rfl, hb, hc⟩
      · rw [h0] at hy; simp at hy
      obtain ⟨c0, c1, c2, c3⟩ := Lies.cells hc hb hBw hy
      have hb' : b < wr.heap.size := Nat.lt_of_lt_of_le hb hBw.size
      have hne : b ≠ wr.heap.size := by omega
      have hne1 : b ≠ wr.heap.size + 1 := by omega
      have I := WBox.start (k : Int) y BW.out
      have HC : Aside (∀ j e, l[j]? = some e → ∀ i v, (encK e)[i]? = some v → w.cell? ⟨b, off + j * 4 + i, none⟩ = some v) := hc
      clear hc hy
      obtain ⟨W1, rfl⟩ : ∃ W1, W1 = wr := ⟨_, rfl⟩
      rcases waysR y with ⟨hok, h⟩ | ⟨hok, h1, h2, h3, h4, h5⟩
      · have HW : Aside (faultK l = (3, (k : Int))) := by show _ = _; rw [HS.out, HWB.out, if_pos hok]; rfl
        clear hok HWB HS
        rcases h with h1 | ⟨h1, h2 | ⟨h2, h3 | ⟨h3, h4 | ⟨h4, h5⟩⟩⟩⟩ <;>
        (go_wp2_with ((first | go_at_call 19 | go_at_fn 19); refine (I.bad 3).mono ?_; rintro r w2 ⟨rfl, hO⟩; obtain ⟨⟨r0, r1⟩, ⟨f0, f1⟩⟩ := new2 (Nat.lt_succ_self _) hO; have HO : Aside (Below w.heap.size w w2) := base1 hO; clear hO)
         refine bodyPost_ret (v := .agg #[.int .i64 3, .int .i64 k]) (by simp [results, Try.results8, go_sem, r0, r1]) rfl ?_
         exact ⟨by rw [HW.out], store2 HO.out (Nat.le_refl _) _ _⟩)
      · have HW : Aside (wrongB (l.take k) y = if lastBad (l.take k) y = true then 2 else if (l.take k).any (clash y) then 8 else 0) := by show _ = _; rw [HWB.out, if_neg (by simpa using hok)]
        clear hok HWB
        have hkc : k ≤ cap := by omega
        have hkcz : (k : Int) ≤ (cap : Int) := by omega
        by_cases hk0 : k = 0
        · subst hk0
          simp only [Nat.zero_mul, Nat.add_zero] at c0 c1 c2 c3
          have HI0 : Aside (WBox 0 y w W1 ((W1.alloc (.cells #[.int .i64 0] 3)).alloc (.cells #[.int .i64 y.o, .int .i64 y.f, .int .i64 y.t, .bool y.a] 24))) := WBox.start 0 y BW.out
          have H0 : Aside (faultK l = faultGo (l.take 1) (l.drop 1)) := by
            show _ = _
            rw [HS.out, if_pos (by rw [HW.out]; simp [lastBad])]
          clear I
          go_wp2
          go_loopg [94] 0 (fun gg s94 wr2 => s94 = .int .i64 0 ∧ Aside (WBox 0 y w W1 wr2))
          case atStart => exact ⟨rfl, HI0.out⟩
          case round =>
            obtain ⟨rfl, J⟩ := hrel
            go_wp2
            go_roundg (n - 1)
            case measure => omega
            case rel => exact ⟨1, by omega, by omega, by go_num, J.out.below, H0.out⟩
        · obtain ⟨j, rfl⟩ : ∃ j, k = j + 1 := ⟨k - 1, by omega⟩
          obtain ⟨z, hz'⟩ : ∃ z, l[j]? = some z := ⟨_, List.getElem?_eq_getElem (by have := HN.out; omega)⟩
          obtain ⟨z0, z1, z2, z3⟩ := Lies.cells HC.out hb hBw hz'
          have HLB : Aside (lastBad (l.take (j + 1)) y = !rise z y) := by
            show _ = _
            rw [lastBad, last_at (l := l.take (j + 1)) (k := j) (y := z) (by rw [List.length_take]; have := HN.out; omega) (by rw [List.getElem?_take, if_pos (by omega)]; exact hz')]
          have hk1 : (((j + 1 : Nat) : Int) - 1) = (j : Int) := by omega
          have hk7 : (j : Int) + 1 - 1 = (j : Int) := by omega
          have hk8 : IntKind.i64.wrap ((j : Int) + 1 - 1) = (j : Int) := by simp [IntKind.wrap, IntKind.bits, IntKind.signed]; omega
          have hk2 : IntKind.i64.wrap (j : Int) = j := by simp [IntKind.wrap, IntKind.bits, IntKind.signed]; omega
          have hk3 : (0 : Int) ≤ (j : Int) := by omega
          have hk4 : (j : Int) < (n : Int) := by omega
          clear hz' hk0
          have HIB : Aside (WBox ((j : Int) + 1) y w W1 ((W1.alloc (.cells #[.int .i64 ((j : Int) + 1)] 3)).alloc (.cells #[.int .i64 y.o, .int .i64 y.f, .int .i64 y.t, .bool y.a] 24))) := WBox.start ((j : Int) + 1) y BW.out
          have HI0 : Aside (WBox ((j : Int) + 1) y w W1 (((W1.alloc (.cells #[.int .i64 ((j : Int) + 1)] 3)).alloc (.cells #[.int .i64 y.o, .int .i64 y.f, .int .i64 y.t, .bool y.a] 24)).alloc (.cells #[.int .i64 z.o, .int .i64 z.f, .int .i64 z.t, .bool z.a] 24))) := HIB.out.kept ((Grown.refl _).alloc _).below
          clear I HIB
          by_cases q1 : y.o < z.o
          · have HRZ : Aside (rise z y = false) := by show _ = _; rw [← Bool.not_eq_true, rise_iff]; unfold R; omega
            have HW2 : Aside (faultK l = (2, (j : Int) + 1)) := by
              show _ = _
              have h2' : wrongB (l.take (j + 1)) y = 2 := by rw [HW.out, if_pos (by rw [HLB.out, HRZ.out]; rfl)]
              rw [HS.out, h2', if_neg (by decide)]; simp
            go_wp2_with ((first | go_at_call 19 | go_at_fn 19); refine (HI0.out.bad 2).mono ?_; rintro r w4 ⟨rfl, hO⟩; obtain ⟨⟨r0, r1⟩, ⟨f0, f1⟩⟩ := new2 (Nat.lt_succ_self _) hO; have HO : Aside (Below w.heap.size w w4) := base1 hO; clear hO)
            refine bodyPost_ret (v := .agg #[.int .i64 2, .int .i64 ((j : Int) + 1)]) (by simp [results, Try.results8, go_sem, r0, r1]) rfl ?_
            exact ⟨by rw [HW2.out], store2 HO.out (Nat.le_refl _) _ _⟩
          · by_cases q2 : z.o = y.o
            · by_cases q3 : y.f < z.t
              · have HRZ : Aside (rise z y = false) := by show _ = _; rw [← Bool.not_eq_true, rise_iff]; unfold R; omega
                have q2' : (z.o == y.o) = true := by rw [q2]; simp
                clear q2
                have HW2 : Aside (faultK l = (2, (j : Int) + 1)) := by
                  show _ = _
                  have h2' : wrongB (l.take (j + 1)) y = 2 := by rw [HW.out, if_pos (by rw [HLB.out, HRZ.out]; rfl)]
                  rw [HS.out, h2', if_neg (by decide)]; simp
                go_wp2_with ((first | go_at_call 19 | go_at_fn 19); refine (HI0.out.bad 2).mono ?_; rintro r w4 ⟨rfl, hO⟩; obtain ⟨⟨r0, r1⟩, ⟨f0, f1⟩⟩ := new2 (Nat.lt_succ_self _) hO; have HO : Aside (Below w.heap.size w w4) := base1 hO; clear hO)
                refine bodyPost_ret (v := .agg #[.int .i64 2, .int .i64 ((j : Int) + 1)]) (by simp [results, Try.results8, go_sem, r0, r1]) rfl ?_
                exact ⟨by rw [HW2.out], store2 HO.out (Nat.le_refl _) _ _⟩
              · by_cases q4 : y.f = z.t
                · by_cases q5 : y.a = z.a
                  · have HRZ : Aside (rise z y = false) := by show _ = _; rw [← Bool.not_eq_true, rise_iff]; unfold R; rw [q5]; simp; omega
                    have q2' : (z.o == y.o) = true := by rw [q2]; simp
                    have q4' : (y.f == z.t) = true := by rw [q4]; simp
                    have q5' : (y.a == z.a) = true := by rw [q5]; simp
                    clear q2 q4 q5
                    have HW2 : Aside (faultK l = (2, (j : Int) + 1)) := by
                      show _ = _
                      have h2' : wrongB (l.take (j + 1)) y = 2 := by rw [HW.out, if_pos (by rw [HLB.out, HRZ.out]; rfl)]
                      rw [HS.out, h2', if_neg (by decide)]; simp
                    go_wp2_with ((first | go_at_call 19 | go_at_fn 19); refine (HI0.out.bad 2).mono ?_; rintro r w4 ⟨rfl, hO⟩; obtain ⟨⟨r0, r1⟩, ⟨f0, f1⟩⟩ := new2 (Nat.lt_succ_self _) hO; have HO : Aside (Below w.heap.size w w4) := base1 hO; clear hO)
                    refine bodyPost_ret (v := .agg #[.int .i64 2, .int .i64 ((j : Int) + 1)]) (by simp [results, Try.results8, go_sem, r0, r1]) rfl ?_
                    exact ⟨by rw [HW2.out], store2 HO.out (Nat.le_refl _) _ _⟩
                  · have HRZ : Aside (rise z y = true) := by show _ = _; rw [rise_iff]; exact .inr ⟨q2, .inr ⟨q4.symm, fun e => q5 e.symm⟩⟩
                    have q2' : (z.o == y.o) = true := by rw [q2]; simp
                    have q4' : (y.f == z.t) = true := by rw [q4]; simp
                    have q5' : (y.a == z.a) = false := beq_eq_false_iff_ne.2 q5
                    clear q2 q4 q5
                    go_wp2
                    have hIz := HI0.out.size
                    go_loopg [94] (j + 1) (fun gg s94 wr2 => ∃ i : Nat, i ≤ j + 1 ∧ j + 1 - i ≤ gg ∧ s94 = .int .i64 i ∧ Aside (WBox ((j : Int) + 1) y w W1 wr2) ∧ Aside (∀ x ∈ l.take i, clash y x = false))
                    case atStart => exact ⟨0, by omega, by omega, rfl, HI0.out, by intro x hx; simp at hx⟩
                    case round =>
                      obtain ⟨i, hi, hg2, rfl, J, HA⟩ := hrel
                      have hJs := J.out.size
                      by_cases hij : i < j + 1
                      · have hijz : (i : Int) < (j : Int) + 1 := by omega
                        obtain ⟨u, hu⟩ : ∃ u, l[i]? = some u := ⟨_, List.getElem?_eq_getElem (by have := HN.out; omega)⟩
                        obtain ⟨u0, u1, u2, u3⟩ := Lies.cells HC.out hb (base1 J.out.below) hu
                        have HU : Aside (l[i]? = some u) := hu
                        have hbw : b < wr.heap.size := by omega
                        have hbn : b ≠ wr.heap.size := by omega
                        have hyl : W1.heap.size + 1 < wr.heap.size := by omega
                        obtain ⟨s0, s1, s2, s3⟩ : _ ∧ _ ∧ _ ∧ _ := ⟨J.out.y0, J.out.y1, J.out.y2, J.out.y3⟩
                        have hX : Below wr.heap.size wr (wr.alloc (.cells #[.int .i64 u.o, .int .i64 u.f, .int .i64 u.t, .bool u.a] 24)) := ((Grown.refl wr).alloc _).below
                        clear hu
                        cases hcl : clash y u
                        · have hcc := fun W => refClash_any y u W
                          rw [hcl] at hcc
                          have HA2 : Aside (∀ x ∈ l.take (i + 1), clash y x = false) := take_false HU.out hcl HA.out
                          clear hcl
                          go_wp2_with (go_at_call 10; refine (hcc _).mono ?_; clear hcc; rintro r w3 ⟨rfl, hG⟩; have HJ3 : Aside (WBox ((j : Int) + 1) y w W1 w3) := J.out.kept (Below.onto hX hG.below); clear hG)
                          go_roundg (j + 1 - (i + 1))
                          case measure => omega
                          case rel => exact ⟨i + 1, by omega, by omega, by go_num, HJ3.out, HA2.out⟩
                        · have hcc := fun W => refClash_any y u W
                          rw [hcl] at hcc
                          have HW8 : Aside (faultK l = (8, (j : Int) + 1)) := by
                            show _ = _
                            have h8 : wrongB (l.take (j + 1)) y = 8 := by
                              rw [HW.out, if_neg (by rw [HLB.out, HRZ.out]; simp), if_pos]
                              exact List.any_eq_true.2 ⟨u, List.mem_of_getElem? (by rw [List.getElem?_take, if_pos hij]; exact HU.out), hcl⟩
                            rw [HS.out, h8, if_neg (by decide)]; simp
                          clear hcl
                          go_wp2_with (first
                            | (go_at_call 10; refine (hcc _).mono ?_; clear hcc; rintro r w3 ⟨rfl, hG⟩; have HJ3 : Aside (WBox ((j : Int) + 1) y w W1 w3) := J.out.kept (Below.onto hX hG.below); clear hG)
                            | ((first | go_at_call 19 | go_at_fn 19); refine (HJ3.out.bad 8).mono ?_; rintro r w4 ⟨rfl, hO⟩; obtain ⟨⟨r0, r1⟩, ⟨f0, f1⟩⟩ := new2 (Nat.lt_succ_self _) hO; have HO : Aside (Below w.heap.size w w4) := base1 hO; clear hO))
                          refine bodyPost_ret (v := .agg #[.int .i64 8, .int .i64 ((j : Int) + 1)]) (by simp [results, Try.results8, go_sem, r0, r1]) rfl ?_
                          exact ⟨by rw [HW8.out], store2 HO.out (Nat.le_refl _) _ _⟩
                      · have hijz : ¬ (i : Int) < (j : Int) + 1 := by omega
                        have H0 : Aside (faultK l = faultGo (l.take (j + 1 + 1)) (l.drop (j + 1 + 1))) := by
                          show _ = _
                          have h0 : wrongB (l.take (j + 1)) y = 0 := by
                            rw [HW.out, if_neg (by rw [HLB.out, HRZ.out]; simp), if_neg]
                            rw [Bool.not_eq_true, List.any_eq_false]
                            intro x hx
                            rw [Bool.not_eq_true]
                            exact HA.out x (by rw [show i = j + 1 by omega]; exact hx)
                          rw [HS.out, if_pos h0]
                        go_wp2
                        go_roundg (n - (j + 1 + 1))
                        case measure => omega
                        case rel => exact ⟨j + 1 + 1, by omega, by omega, by go_num, J.out.below, H0.out⟩
                · have HRZ : Aside (rise z y = true) := by show _ = _; rw [rise_iff]; exact .inr ⟨q2, .inl (by omega)⟩
                  have q2' : (z.o == y.o) = true := by rw [q2]; simp
                  have q4' : (y.f == z.t) = false := beq_eq_false_iff_ne.2 q4
                  clear q2 q4
                  go_wp2
                  have hIz := HI0.out.size
                  go_loopg [94] (j + 1) (fun gg s94 wr2 => ∃ i : Nat, i ≤ j + 1 ∧ j + 1 - i ≤ gg ∧ s94 = .int .i64 i ∧ Aside (WBox ((j : Int) + 1) y w W1 wr2) ∧ Aside (∀ x ∈ l.take i, clash y x = false))
                  case atStart => exact ⟨0, by omega, by omega, rfl, HI0.out, by intro x hx; simp at hx⟩
                  case round =>
                    obtain ⟨i, hi, hg2, rfl, J, HA⟩ := hrel
                    have hJs := J.out.size
                    by_cases hij : i < j + 1
                    · have hijz : (i : Int) < (j : Int) + 1 := by omega
                      obtain ⟨u, hu⟩ : ∃ u, l[i]? = some u := ⟨_, List.getElem?_eq_getElem (by have := HN.out; omega)⟩
                      obtain ⟨u0, u1, u2, u3⟩ := Lies.cells HC.out hb (base1 J.out.below) hu
                      have HU : Aside (l[i]? = some u) := hu
                      have hbw : b < wr.heap.size := by omega
                      have hbn : b ≠ wr.heap.size := by omega
                      have hyl : W1.heap.size + 1 < wr.heap.size := by omega
                      obtain ⟨s0, s1, s2, s3⟩ : _ ∧ _ ∧ _ ∧ _ := ⟨J.out.y0, J.out.y1, J.out.y2, J.out.y3⟩
                      have hX : Below wr.heap.size wr (wr.alloc (.cells #[.int .i64 u.o, .int .i64 u.f, .int .i64 u.t, .bool u.a] 24)) := ((Grown.refl wr).alloc _).below
                      clear hu
                      cases hcl : clash y u
                      · have hcc := fun W => refClash_any y u W
                        rw [hcl] at hcc
                        have HA2 : Aside (∀ x ∈ l.take (i + 1), clash y x = false) := take_false HU.out hcl HA.out
                        clear hcl
                        go_wp2_with (go_at_call 10; refine (hcc _).mono ?_; clear hcc; rintro r w3 ⟨rfl, hG⟩; have HJ3 : Aside (WBox ((j : Int) + 1) y w W1 w3) := J.out.kept (Below.onto hX hG.below); clear hG)
                        go_roundg (j + 1 - (i + 1))
                        case measure => omega
                        case rel => exact ⟨i + 1, by omega, by omega, by go_num, HJ3.out, HA2.out⟩
                      · have hcc := fun W => refClash_any y u W
                        rw [hcl] at hcc
                        have HW8 : Aside (faultK l = (8, (j : Int) + 1)) := by
                          show _ = _
                          have h8 : wrongB (l.take (j + 1)) y = 8 := by
                            rw [HW.out, if_neg (by rw [HLB.out, HRZ.out]; simp), if_pos]
                            exact List.any_eq_true.2 ⟨u, List.mem_of_getElem? (by rw [List.getElem?_take, if_pos hij]; exact HU.out), hcl⟩
                          rw [HS.out, h8, if_neg (by decide)]; simp
                        clear hcl
                        go_wp2_with (first
                          | (go_at_call 10; refine (hcc _).mono ?_; clear hcc; rintro r w3 ⟨rfl, hG⟩; have HJ3 : Aside (WBox ((j : Int) + 1) y w W1 w3) := J.out.kept (Below.onto hX hG.below); clear hG)
                          | ((first | go_at_call 19 | go_at_fn 19); refine (HJ3.out.bad 8).mono ?_; rintro r w4 ⟨rfl, hO⟩; obtain ⟨⟨r0, r1⟩, ⟨f0, f1⟩⟩ := new2 (Nat.lt_succ_self _) hO; have HO : Aside (Below w.heap.size w w4) := base1 hO; clear hO))
                        refine bodyPost_ret (v := .agg #[.int .i64 8, .int .i64 ((j : Int) + 1)]) (by simp [results, Try.results8, go_sem, r0, r1]) rfl ?_
                        exact ⟨by rw [HW8.out], store2 HO.out (Nat.le_refl _) _ _⟩
                    · have hijz : ¬ (i : Int) < (j : Int) + 1 := by omega
                      have H0 : Aside (faultK l = faultGo (l.take (j + 1 + 1)) (l.drop (j + 1 + 1))) := by
                        show _ = _
                        have h0 : wrongB (l.take (j + 1)) y = 0 := by
                          rw [HW.out, if_neg (by rw [HLB.out, HRZ.out]; simp), if_neg]
                          rw [Bool.not_eq_true, List.any_eq_false]
                          intro x hx
                          rw [Bool.not_eq_true]
                          exact HA.out x (by rw [show i = j + 1 by omega]; exact hx)
                        rw [HS.out, if_pos h0]
                      go_wp2
                      go_roundg (n - (j + 1 + 1))
                      case measure => omega
                      case rel => exact ⟨j + 1 + 1, by omega, by omega, by go_num, J.out.below, H0.out⟩
            · have HRZ : Aside (rise z y = true) := by show _ = _; rw [rise_iff]; exact .inl (by omega)
              have q2' : (z.o == y.o) = false := beq_eq_false_iff_ne.2 q2
              go_wp2
              have hIz := HI0.out.size
              go_loopg [94] (j + 1) (fun gg s94 wr2 => ∃ i : Nat, i ≤ j + 1 ∧ j + 1 - i ≤ gg ∧ s94 = .int .i64 i ∧ Aside (WBox ((j : Int) + 1) y w W1 wr2) ∧ Aside (∀ x ∈ l.take i, clash y x = false))
              case atStart => exact ⟨0, by omega, by omega, rfl, HI0.out, by intro x hx; simp at hx⟩
              case round =>
                obtain ⟨i, hi, hg2, rfl, J, HA⟩ := hrel
                have hJs := J.out.size
                by_cases hij : i < j + 1
                · have hijz : (i : Int) < (j : Int) + 1 := by omega
                  obtain ⟨u, hu⟩ : ∃ u, l[i]? = some u := ⟨_, List.getElem?_eq_getElem (by have := HN.out; omega)⟩
                  obtain ⟨u0, u1, u2, u3⟩ := Lies.cells HC.out hb (base1 J.out.below) hu
                  have HU : Aside (l[i]? = some u) := hu
                  have hbw : b < wr.heap.size := by omega
                  have hbn : b ≠ wr.heap.size := by omega
                  have hyl : W1.heap.size + 1 < wr.heap.size := by omega
                  obtain ⟨s0, s1, s2, s3⟩ : _ ∧ _ ∧ _ ∧ _ := ⟨J.out.y0, J.out.y1, J.out.y2, J.out.y3⟩
                  have hX : Below wr.heap.size wr (wr.alloc (.cells #[.int .i64 u.o, .int .i64 u.f, .int .i64 u.t, .bool u.a] 24)) := ((Grown.refl wr).alloc _).below
                  clear hu
                  cases hcl : clash y u
                  · have hcc := fun W => refClash_any y u W
                    rw [hcl] at hcc
                    have HA2 : Aside (∀ x ∈ l.take (i + 1), clash y x = false) := take_false HU.out hcl HA.out
                    clear hcl
                    go_wp2_with (go_at_call 10; refine (hcc _).mono ?_; clear hcc; rintro r w3 ⟨rfl, hG⟩; have HJ3 : Aside (WBox ((j : Int) + 1) y w W1 w3) := J.out.kept (Below.onto hX hG.below); clear hG)
                    go_roundg (j + 1 - (i + 1))
                    case measure => omega
                    case rel => exact ⟨i + 1, by omega, by omega, by go_num, HJ3.out, HA2.out⟩
                  · have hcc := fun W => refClash_any y u W
                    rw [hcl] at hcc
                    have HW8 : Aside (faultK l = (8, (j : Int) + 1)) := by
                      show _ = _
                      have h8 : wrongB (l.take (j + 1)) y = 8 := by
                        rw [HW.out, if_neg (by rw [HLB.out, HRZ.out]; simp), if_pos]
                        exact List.any_eq_true.2 ⟨u, List.mem_of_getElem? (by rw [List.getElem?_take, if_pos hij]; exact HU.out), hcl⟩
                      rw [HS.out, h8, if_neg (by decide)]; simp
                    clear hcl
                    go_wp2_with (first
                      | (go_at_call 10; refine (hcc _).mono ?_; clear hcc; rintro r w3 ⟨rfl, hG⟩; have HJ3 : Aside (WBox ((j : Int) + 1) y w W1 w3) := J.out.kept (Below.onto hX hG.below); clear hG)
                      | ((first | go_at_call 19 | go_at_fn 19); refine (HJ3.out.bad 8).mono ?_; rintro r w4 ⟨rfl, hO⟩; obtain ⟨⟨r0, r1⟩, ⟨f0, f1⟩⟩ := new2 (Nat.lt_succ_self _) hO; have HO : Aside (Below w.heap.size w w4) := base1 hO; clear hO))
                    refine bodyPost_ret (v := .agg #[.int .i64 8, .int .i64 ((j : Int) + 1)]) (by simp [results, Try.results8, go_sem, r0, r1]) rfl ?_
                    exact ⟨by rw [HW8.out], store2 HO.out (Nat.le_refl _) _ _⟩
                · have hijz : ¬ (i : Int) < (j : Int) + 1 := by omega
                  have H0 : Aside (faultK l = faultGo (l.take (j + 1 + 1)) (l.drop (j + 1 + 1))) := by
                    show _ = _
                    have h0 : wrongB (l.take (j + 1)) y = 0 := by
                      rw [HW.out, if_neg (by rw [HLB.out, HRZ.out]; simp), if_neg]
                      rw [Bool.not_eq_true, List.any_eq_false]
                      intro x hx
                      rw [Bool.not_eq_true]
                      exact HA.out x (by rw [show i = j + 1 by omega]; exact hx)
                    rw [HS.out, if_pos h0]
                  go_wp2
                  go_roundg (n - (j + 1 + 1))
                  case measure => omega
                  case rel => exact ⟨j + 1 + 1, by omega, by omega, by go_num, J.out.below, H0.out⟩
    · have hltz : ¬ (k : Int) < (n : Int) := by omega
      have HZ : Aside (faultK l = (0, 0)) := by show _ = _; rw [HE.out, fault_end (by have := HN.out; omega)]
      obtain ⟨⟨r0, r1⟩, ⟨f0, f1⟩⟩ := new2 (Nat.lt_succ_self _) BW.out
      have HO : Aside (Below w.heap.size w wr) := base1 BW.out
      go_wp2
      refine bodyPost_ret (v := .agg #[.int .i64 0, .int .i64 0]) (by simp [results, Try.results8, go_sem, r0, r1]) rfl ?_
      exact ⟨by rw [HZ.out], store2 HO.out (Nat.le_refl _) _ _⟩
theorem refWrong_any (l : List Lk) (p : Option Addr) (cap : Nat) (w : World) (hL : Lies w p l) (hn : l.length < 4611686018427387904) (hcap : l.length ≤ cap) :
    Calls Try.prog 8 #[.slice p l.length cap] w (WrongPost l w) := by
  by_cases h40 : l.length ≤ 40
  · exact refWrong_few l p cap w hL h40 hcap
  · have HF : Aside (faultK l = (5, 0)) := by show _ = _; rw [faultK, if_pos (by omega)]
    obtain ⟨n, hnl⟩ : ∃ n, n = l.length := ⟨_, rfl⟩
    rw [← hnl] at h40 hcap hn ⊢
    clear hnl hL
    have hz : (40 : Int) < (n : Int) := by omega
    go_enter Try.func8, Try.ntmps8
    go_wp2
    refine bodyPost_ret (v := .agg #[.int .i64 5, .int .i64 0]) (by simp [results, Try.results8, go_sem]) rfl ?_
    exact ⟨by rw [HF.out], ((Grown.refl w).alloc _).below⟩
end Go.Proofs.Ytampldoimpfjgab
