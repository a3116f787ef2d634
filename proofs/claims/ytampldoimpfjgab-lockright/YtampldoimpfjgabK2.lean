/-
  What lock.wrongBehind and lock.Wrong answer.
-/
import Derived.Test.YtampldoimpfjgabK1
namespace Go.Proofs.Ytampldoimpfjgab
open Go.RowKit Go.Sort KM
set_option linter.unusedVariables false

/-- The ways through a lock. -/
def Ways (x : Lk) : Prop := (¬ okK x ∧ (x.o < 0 ∨ (¬ x.o < 0 ∧ (4 ≤ x.o ∨ (¬ 4 ≤ x.o ∧ (x.f < 0 ∨ (¬ x.f < 0 ∧ (x.t ≤ x.f ∨ (¬ x.t ≤ x.f ∧ 1000 < x.t))))))))) ∨ (okK x ∧ ¬ x.o < 0 ∧ ¬ 4 ≤ x.o ∧ ¬ x.f < 0 ∧ ¬ x.t ≤ x.f ∧ ¬ 1000 < x.t)
theorem ways (x : Lk) : Ways x := by unfold Ways okK; omega
theorem last_at {l : List Lk} {y : Lk} {k : Nat} (hk : l.length = k + 1) (hy : l[k]? = some y) : l.getLast? = some y := by
  rw [List.getLast?_eq_getElem?, hk]; exact hy
set_option maxHeartbeats 400000 in
theorem wrongBehind_any (l : List Lk) (x : Lk) (p : Option Addr) (cap : Nat) (w : World) (hL : Lies w p l) (hn : l.length < 4611686018427387904) :
    Calls Try.prog 18 #[.slice p l.length cap, .agg #[.int .i64 x.o, .int .i64 x.f, .int .i64 x.t, .bool x.a]] w fun r w' => r = .returned (.int .i64 (wrongB l x)) ∧ Below w.heap.size w w' := by
  have hm := fun W (hB : Below w.heap.size w W) => meets_any l x p cap W (hL.kept hB) hn
  have HW : Aside (wrongB l x = if ¬ okK x then 3 else if lastBad l x = true then 2 else if l.any (clash x) then 8 else 0) := rfl
  rcases ways x with ⟨hk, h⟩ | ⟨hk, h1, h2, h3, h4, h5⟩
  · have HR : Aside (wrongB l x = 3) := by show _ = _; rw [HW.out, if_pos hk]
    clear HW hk
    rcases h with h1 | ⟨h1, h2 | ⟨h2, h3 | ⟨h3, h4 | ⟨h4, h5⟩⟩⟩⟩ <;>
    (go_enter Try.func18, Try.ntmps18
     go_wp2
     go_ret
     exact ⟨ret_int HR.out.symm, ((Grown.refl w).alloc _).below⟩)
  · have HW' : Aside (wrongB l x = if lastBad l x = true then 2 else if l.any (clash x) then 8 else 0) := by show _ = _; rw [HW.out, if_neg (by simpa using hk)]
    clear HW hk
    obtain ⟨n, hnl⟩ : ∃ n, n = l.length := ⟨_, rfl⟩
    have HN : Aside (n = l.length) := hnl
    rw [← hnl] at hn hm ⊢
    by_cases hz0 : n = 0
    · subst hz0
      have HB : Aside (lastBad l x = false) := by show _ = _; rw [List.eq_nil_of_length_eq_zero hnl.symm]; rfl
      clear hL hnl
      go_enter Try.func18, Try.ntmps18
      go_wp2
      go_quiet (fail)
      go_wp2_with (go_at_call 9; refine (hm _ (below_drewN ((Grown.refl w).alloc _).below _)).mono ?_; clear hm; rintro r w1 ⟨y, b, rfl, hM, hB⟩; have HM : Aside (l.any (clash x) = b) := hM.any; have HB1 : Aside (Below w.heap.size w w1) := (below_drewN ((Grown.refl w).alloc _).below _).trans (hB.mono (by simp)); clear hM hB; cases b)
      · go_ret
        exact ⟨ret_int (by rw [HW'.out, HB.out, HM.out]; rfl), HB1.out.alloc HB1.out.size _⟩
      · go_ret
        exact ⟨ret_int (by rw [HW'.out, HB.out, HM.out]; rfl), HB1.out.alloc HB1.out.size _⟩
    · obtain ⟨k, hk⟩ : ∃ k, n = k + 1 := ⟨n - 1, by omega⟩
      obtain ⟨z, hz⟩ : ∃ z, l[k]? = some z := ⟨_, List.getElem?_eq_getElem (by omega)⟩
      have HB : Aside (lastBad l x = !rise z x) := by show _ = _; rw [lastBad, last_at (hnl.symm.trans hk) hz]
      rcases hL with h0 | ⟨b, off, rfl, hb, hc⟩
      · rw [h0] at hz; simp at hz
      obtain ⟨c0, c1, c2, c3⟩ := Lies.cells hc hb ((Grown.refl w).alloc (.cells #[.int .i64 x.o, .int .i64 x.f, .int .i64 x.t, .bool x.a] 24)).below hz
      have hne : b ≠ w.heap.size := by omega
      subst hk
      have hk1 : (((k + 1 : Nat) : Int) - 1) = (k : Int) := by omega
      have hk7 : (k : Int) + 1 - 1 = (k : Int) := by omega
      have hk8 : IntKind.i64.wrap ((k : Int) + 1 - 1) = (k : Int) := by simp [IntKind.wrap, IntKind.bits, IntKind.signed]; omega
      have hk2 : IntKind.i64.wrap (k : Int) = k := by simp [IntKind.wrap, IntKind.bits, IntKind.signed]; omega
      have hk3 : (0 : Int) ≤ (k : Int) := by omega
      have hk4 : (k : Int) < ((k + 1 : Nat) : Int) := by omega
      have hk5 : (k : Int) < (k : Int) + 1 := by omega
      clear hc hz hnl hz0
      go_enter Try.func18, Try.ntmps18
      go_wp2
      have hG1 : Grown w (w.alloc (.cells #[.int .i64 x.o, .int .i64 x.f, .int .i64 x.t, .bool x.a] 24)) := (Grown.refl w).alloc _
      go_region_held3 (fun w' => w'.cell? ⟨w.heap.size, 0, none⟩ = some (.int .i64 x.o) ∧ w'.cell? ⟨w.heap.size, 1, none⟩ = some (.int .i64 x.f) ∧ w'.cell? ⟨w.heap.size, 2, none⟩ = some (.int .i64 x.t) ∧ w'.cell? ⟨w.heap.size, 3, none⟩ = some (.bool x.a) ∧ w'.cell? ⟨b, off + k * 4, none⟩ = some (.int .i64 z.o) ∧ w'.cell? ⟨b, off + k * 4 + 1, none⟩ = some (.int .i64 z.f) ∧ w'.cell? ⟨b, off + k * 4 + 2, none⟩ = some (.int .i64 z.t) ∧ w'.cell? ⟨b, off + k * 4 + 3, none⟩ = some (.bool z.a)) (go_keep) (first
        | (go_at_call 32; refine (rise_any z x _).mono ?_; rintro r w1 ⟨rfl, hG⟩; have hGG : Grown (w.alloc (.cells #[.int .i64 x.o, .int .i64 x.f, .int .i64 x.t, .bool x.a] 24)) w1 := ((Grown.refl _).drewN 1).trans hG; obtain ⟨⟨d0, d1, d2, d3⟩, _⟩ := new4 (by simp) hGG.below; have e0 := (hGG.cell (p := ⟨b, off + k * 4, none⟩) (by simp; omega)).trans c0; have e1 := (hGG.cell (p := ⟨b, off + k * 4 + 1, none⟩) (by simp; omega)).trans c1; have e2 := (hGG.cell (p := ⟨b, off + k * 4 + 2, none⟩) (by simp; omega)).trans c2; have e3 := (hGG.cell (p := ⟨b, off + k * 4 + 3, none⟩) (by simp; omega)).trans c3; clear hG))
      have HG : Aside (Grown w w1) := hG1.trans hGG
      clear hGG hG1 e0 e1 e2 e3 c0 c1 c2 c3
      cases hrz : rise z x with
      | false =>
        go_wp2
        go_ret
        exact ⟨ret_int (by rw [HW'.out, HB.out, hrz]; rfl), HG.out.below⟩
      | true =>
        go_wp2_with (go_at_call 9; refine (hm _ HG.out.below).mono ?_; clear hm; rintro r w2 ⟨y, bb, rfl, hM, hB⟩; have HM : Aside (l.any (clash x) = bb) := hM.any; have HB1 : Aside (Below w.heap.size w w2) := Below.onto HG.out.below hB; clear hM hB; cases bb)
        · go_ret
          exact ⟨ret_int (by rw [HW'.out, HB.out, hrz, HM.out]; rfl), HB1.out.alloc HB1.out.size _⟩
        · go_ret
          exact ⟨ret_int (by rw [HW'.out, HB.out, hrz, HM.out]; rfl), HB1.out.alloc HB1.out.size _⟩
/-- What is wrong with locks, and at which one. -/
def WrongPost (l : List Lk) (w : World) (e : Ending) (w' : World) : Prop :=
  e = .returned (.agg #[.int .i64 (faultK l).1, .int .i64 (faultK l).2]) ∧ Below w.heap.size w w'
set_option maxHeartbeats 400000 in
theorem wrong_any (l : List Lk) (p : Option Addr) (cap : Nat) (w : World) (hL : Lies w p l) (hn : l.length < 4611686018427387904) (hcap : l.length ≤ cap) :
    Calls Try.prog 7 #[.slice p l.length cap] w (WrongPost l w) := by
  have HL : Aside (Lies w p l) := hL
  clear hL
  obtain ⟨n, hnl⟩ : ∃ n, n = l.length := ⟨_, rfl⟩
  have HN : Aside (n = l.length) := hnl
  rw [← hnl] at hn hcap ⊢
  clear hnl
  by_cases h40 : 40 < n
  · have hz : (40 : Int) < (n : Int) := by omega
    have HF : Aside (faultK l = (5, 0)) := by show _ = _; rw [faultK, if_pos (by rw [← HN.out]; exact h40)]
    go_enter Try.func7, Try.ntmps7
    go_wp2
    refine bodyPost_ret (v := .agg #[.int .i64 5, .int .i64 0]) (by simp [results, Try.results7, go_sem]) rfl ?_
    exact ⟨by rw [HF.out], ((Grown.refl w).alloc _).below⟩
  · have hz : ¬ (40 : Int) < (n : Int) := by omega
    have HF : Aside (faultK l = faultGo (l.take 0) (l.drop 0)) := by show _ = _; rw [faultK, if_neg (by rw [← HN.out]; exact h40)]; rfl
    go_enter Try.func7, Try.ntmps7
    go_wp2
    go_loopg [12] n (fun gg s12 wr => ∃ k : Nat, k ≤ n ∧ n - k ≤ gg ∧ s12 = .int .i64 k ∧ Aside (Below (w.heap.size + 1) (w.alloc (.cells #[.int .i64 0, .int .i64 0] 27)) wr) ∧ Aside (faultK l = faultGo (l.take k) (l.drop k)))
    case atStart => exact ⟨0, Nat.zero_le _, by omega, rfl, Below.refl _ _, HF.out⟩
    case round =>
      obtain ⟨k, hk, hg, rfl, BW, HE⟩ := hrel
      by_cases hlt : k < n
      · have hltz : (k : Int) < (n : Int) := by omega
        obtain ⟨y, hy⟩ : ∃ y, l[k]? = some y := ⟨_, List.getElem?_eq_getElem (by have := HN.out; omega)⟩
        have HS : Aside (faultK l = if wrongB (l.take k) y = 0 then faultGo (l.take (k + 1)) (l.drop (k + 1)) else (wrongB (l.take k) y, (k : Int))) := by show _ = _; rw [HE.out, fault_step hy]
        have hBw := base1 BW.out
        have hwb0 : ∀ W, Below w.heap.size w W → Calls Try.prog 18 #[.slice p k cap, .agg #[.int .i64 y.o, .int .i64 y.f, .int .i64 y.t, .bool y.a]] W fun r w' => r = .returned (.int .i64 (wrongB (l.take k) y)) ∧ Below W.heap.size W w' := fun W hB => by
          have h := wrongBehind_any (l.take k) y p cap W ((HL.out.kept hB).take k) (by rw [List.length_take]; omega)
          rwa [List.length_take, Nat.min_eq_left (by have := HN.out; omega)] at h
        rcases HL.out with h0 | ⟨b, off, rfl, hb, hc⟩
        · rw [h0] at hy; simp at hy
        obtain ⟨c0, c1, c2, c3⟩ := Lies.cells hc hb hBw hy
        have hb' : b < wr.heap.size := Nat.lt_of_lt_of_le hb hBw.size
        have hne : b ≠ wr.heap.size := by omega
        have hkc' : (k : Int) ≤ (cap : Int) := by omega
        have hkc : k ≤ cap := by omega
        have hX0 : Below wr.heap.size wr (wr.alloc (.cells #[.int .i64 y.o, .int .i64 y.f, .int .i64 y.t, .bool y.a] 24)) := (Below.refl _ _).alloc (Nat.le_refl _) _
        have hwb := hwb0 _ (Below.onto hBw hX0).drew
        generalize wrongB (l.take k) y = r1 at hwb HS
        clear hc hy hwb0
        by_cases hr1 : r1 = 0
        · subst hr1
          go_wp2
          go_region_held3 (fun w' => w'.cell? ⟨wr.heap.size, 0, none⟩ = some (.int .i64 y.o) ∧ w'.cell? ⟨wr.heap.size, 1, none⟩ = some (.int .i64 y.f) ∧ w'.cell? ⟨wr.heap.size, 2, none⟩ = some (.int .i64 y.t) ∧ w'.cell? ⟨wr.heap.size, 3, none⟩ = some (.bool y.a)) (go_keep) (first
            | (go_at_call 18; refine hwb.mono ?_; clear hwb; rintro rr w2 ⟨rfl, hB2⟩; obtain ⟨⟨d0, d1, d2, d3⟩, _⟩ := new4 (by simp) ((Below.refl _ (wr.alloc (.cells #[.int .i64 y.o, .int .i64 y.f, .int .i64 y.t, .bool y.a] 24))).drew.trans hB2)))
          have HO : Aside (Below (w.heap.size + 1) (w.alloc (.cells #[.int .i64 0, .int .i64 0] 27)) w2) := up1 BW.out (Below.onto hX0.drew hB2)
          clear hB2 hX0 hBw
          go_wp2
          go_roundg (n - (k + 1))
          case measure => omega
          case rel => exact ⟨k + 1, by omega, by omega, by go_num, HO.out, by show _ = _; simpa using HS.out⟩
        · go_wp2
          go_region_held3 (fun w' => w'.cell? ⟨wr.heap.size, 0, none⟩ = some (.int .i64 y.o) ∧ w'.cell? ⟨wr.heap.size, 1, none⟩ = some (.int .i64 y.f) ∧ w'.cell? ⟨wr.heap.size, 2, none⟩ = some (.int .i64 y.t) ∧ w'.cell? ⟨wr.heap.size, 3, none⟩ = some (.bool y.a)) (go_keep) (first
            | (go_at_call 18; refine hwb.mono ?_; clear hwb; rintro rr w2 ⟨rfl, hB2⟩; obtain ⟨⟨d0, d1, d2, d3⟩, _⟩ := new4 (by simp) ((Below.refl _ (wr.alloc (.cells #[.int .i64 y.o, .int .i64 y.f, .int .i64 y.t, .bool y.a] 24))).drew.trans hB2)))
          have hO : Below (w.heap.size + 1) (w.alloc (.cells #[.int .i64 0, .int .i64 0] 27)) w2 := up1 BW.out (Below.onto hX0.drew hB2)
          obtain ⟨⟨r0, r1'⟩, ⟨f0, f1⟩⟩ := new2 (Nat.lt_succ_self _) hO
          have HO : Aside (Below w.heap.size w w2) := base1 hO
          clear hB2 hX0 hBw hO
          go_wp2
          refine bodyPost_ret (v := .agg #[.int .i64 r1, .int .i64 k]) (by simp [results, Try.results7, go_sem, r0, r1']) rfl ?_
          exact ⟨by rw [HS.out, if_neg hr1], store2 HO.out (Nat.le_refl _) _ _⟩
      · have hltz : ¬ (k : Int) < (n : Int) := by omega
        have HZ : Aside (faultK l = (0, 0)) := by show _ = _; rw [HE.out, fault_end (by have := HN.out; omega)]
        obtain ⟨⟨r0, r1⟩, ⟨f0, f1⟩⟩ := new2 (Nat.lt_succ_self _) BW.out
        have HO : Aside (Below w.heap.size w wr) := base1 BW.out
        go_wp2
        refine bodyPost_ret (v := .agg #[.int .i64 0, .int .i64 0]) (by simp [results, Try.results7, go_sem, r0, r1]) rfl ?_
        exact ⟨by rw [HZ.out], store2 HO.out (Nat.le_refl _) _ _⟩
end Go.Proofs.Ytampldoimpfjgab
