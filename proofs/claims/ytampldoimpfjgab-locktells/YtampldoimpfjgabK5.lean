/-
  lock.joined: sorted, and one of each two that touch and are alike.
-/
import Derived.Test.YtampldoimpfjgabK4
namespace Go.Proofs.Ytampldoimpfjgab
open Go.RowKit Go.Sort KM
set_option linter.unusedVariables false

theorem Rows.ofOwn {w : World} {g c base : Nat} {l : List Lk} (h : Own w g c l) (hb : base ≤ g) : Rows w base (.slice (some ⟨g, 0, none⟩) l.length c) l := by
  obtain ⟨cur, hh, hs, hl, hm, hc⟩ := h
  refine ⟨(flat_len l), .inr ⟨g, c, cur, rfl, hb, hh, hl, hm, hs, ?_⟩⟩
  apply List.ext_getElem?
  intro k
  rw [List.getElem?_take]
  by_cases hk : k < l.length * 4
  · rw [if_pos hk]
    obtain ⟨u, hu⟩ : ∃ u, (l.flatMap encK)[k]? = some u := ⟨_, List.getElem?_eq_getElem (by rw [flat_len]; exact hk)⟩
    obtain ⟨j, e, i, h1, h2, rfl⟩ := flat_get hu
    rw [hu, Array.getElem?_toList]
    exact hc j e h1 i u h2
  · rw [if_neg hk, List.getElem?_eq_none (by rw [flat_len]; omega)]
theorem Own.setT {w : World} {g c : Nat} {l : List Lk} (h : Own w g c l) {j : Nat} {z : Lk} (hz : l[j]? = some z) (t : Int) : Own (w.setCell ⟨g, j * 4 + 2, none⟩ (.int .i64 t)) g c (l.set j { z with t := t }) := by
  obtain ⟨cur, hh, hs, hl, hm, hc⟩ := h
  have hj := (List.getElem?_eq_some_iff.1 hz).1
  refine ⟨cur.setIfInBounds (j * 4 + 2) (.int .i64 t), heap_set hh _ _, by simpa using hs, by simpa using hl, hm, fun k e he i v hv => ?_⟩
  have hi := encK_lt hv
  rw [List.getElem?_set] at he
  rw [Array.getElem?_setIfInBounds]
  by_cases hk : j = k
  · subst hk
    rw [if_pos rfl, if_pos hj] at he
    obtain rfl : { z with t := t } = e := by simpa using he
    obtain rfl | rfl | rfl | rfl : i = 0 ∨ i = 1 ∨ i = 2 ∨ i = 3 := by omega
    · rw [if_neg (by omega)]; exact hc j z hz 0 v hv
    · rw [if_neg (by omega)]; exact hc j z hz 1 v hv
    · rw [if_pos rfl, if_pos (by omega)]; exact hv
    · rw [if_neg (by omega)]; exact hc j z hz 3 v hv
  · rw [if_neg hk] at he
    rw [if_neg (by omega)]
    exact hc k e he i v hv
theorem rows_last {w : World} {base : Nat} {v : Value} {l : List Lk} (h : Rows w base v l) {j : Nat} {z : Lk} (hl : l.length = j + 1) (hz : l[j]? = some z) :
    ∃ g c, v = .slice (some ⟨g, 0, none⟩) (j + 1) c ∧ base ≤ g ∧ g < w.heap.size ∧ Own w g c l := by
  obtain ⟨g, c, e, hg, ho⟩ := Own.of_row h (by rintro rfl; obtain ⟨_, ⟨_, h2⟩ | ⟨g, cap, cur, hv', _⟩⟩ := h; · omega
                                               · cases hv') rfl
  exact ⟨g, c, by rw [e, hl], hg, ho.lt, ho⟩
theorem mstep_nil (x : Lk) : mstep [] x = [x] := rfl
theorem mstep_last {out : List Lk} {j : Nat} {z : Lk} (hl : out.length = j + 1) (hz : out[j]? = some z) (x : Lk) : mstep out x = if rise z x then out ++ [x] else out.set j { z with t := x.t } := by
  unfold mstep
  rw [last_at hl hz, hl]
  rfl
theorem mstep_len (out : List Lk) (x : Lk) : (mstep out x).length ≤ out.length + 1 := by
  unfold mstep
  split
  · simp
  · split
    · simp
    · simp
theorem fold_len (l : List Lk) : ∀ out : List Lk, (l.foldl mstep out).length ≤ out.length + l.length := by
  induction l with
  | nil => intro out; simp
  | cons x r ih =>
    intro out
    have h1 := ih (mstep out x)
    have h2 := mstep_len out x
    rw [List.foldl_cons, List.length_cons]; omega
theorem fold_step {l : List Lk} {k : Nat} {y : Lk} (hy : l[k]? = some y) : (l.take (k + 1)).foldl mstep [] = mstep ((l.take k).foldl mstep []) y := by
  rw [take_step hy, List.foldl_append]; rfl
def JoinPost (m : List Lk) (g : Nat) (w : World) (e : Ending) (w' : World) : Prop :=
  ∃ v m', e = .returned v ∧ m'.Perm m ∧ m'.Pairwise (fun a b => ¬ cmpK b a < 0) ∧ Rows w' w.heap.size v (joinL m') ∧ w.grownBy w' (some g)
set_option maxHeartbeats 400000 in
theorem joined_any (m : List Lk) (g cap : Nat) (w : World) (hO : Own w g cap m) (hn : m.length ≤ 1000) :
    Calls Try.prog 25 #[.slice (some ⟨g, 0, none⟩) m.length cap] w (JoinPost m g w) := by
  have hs := sort_any m g cap w hO (by omega)
  have hgl := hO.lt
  clear hO
  obtain ⟨n, hnl⟩ : ∃ n, n = m.length := ⟨_, rfl⟩
  have HN : Aside (n = m.length) := hnl
  rw [← hnl] at hn hs ⊢
  clear hnl
  go_enter Try.func25, Try.ntmps25
  go_wp2_with (go_at_call 34; refine hs.mono ?_; clear hs; rintro e w1 ⟨rfl, l', hp, hpw, hL, hG⟩; have HP : Aside (l'.Perm m) := hp; have HS : Aside (l'.Pairwise (fun a b => ¬ cmpK b a < 0)) := hpw; have HL : Aside (Lies w1 (some ⟨g, 0, none⟩) l') := hL; have HG : Aside (w.grownBy w1 (some g)) := hG; clear hp hpw hL hG)
  have HNL : Aside (l'.length = n) := by show _ = _; rw [HP.out.length_eq, HN.out]
  have HLen : Aside (∀ k, ((l'.take k).foldl mstep []).length ≤ 1000) := fun k => by
    have h1 := fold_len (l'.take k) []
    have h2 : (l'.take k).length ≤ l'.length := by rw [List.length_take]; omega
    have h3 := HNL.out
    simp only [List.length_nil] at h1
    omega
  go_loopg [3, 11] n (fun gg s3 s11 wr => ∃ k : Nat, k ≤ n ∧ n - k ≤ gg ∧ s11 = .int .i64 k ∧ Aside (Rows wr w1.heap.size s3 ((l'.take k).foldl mstep []) ∧ Below w1.heap.size w1 wr))
  case atStart => exact ⟨0, Nat.zero_le _, by omega, rfl, (⟨Rows.nil _ _, Below.refl _ _⟩ : Rows _ _ _ [] ∧ _)⟩
  case round =>
    obtain ⟨k, hk, hg, rfl, I⟩ := hrel
    by_cases hlt : k < n
    · have hltz : (k : Int) < (n : Int) := by omega
      obtain ⟨y, hy⟩ : ∃ y, l'[k]? = some y := ⟨_, List.getElem?_eq_getElem (by have := HNL.out; omega)⟩
      have HF : Aside ((l'.take (k + 1)).foldl mstep [] = mstep ((l'.take k).foldl mstep []) y) := fold_step hy
      have hlen := HLen.out k
      rcases HL.out with h0 | ⟨b, off, hbe, hb, hc⟩
      · rw [h0] at hy; simp at hy
      obtain ⟨rfl, rfl⟩ : g = b ∧ 0 = off := by simpa using hbe
      clear hbe
      obtain ⟨c0, c1, c2, c3⟩ := Lies.cells hc hb I.out.2 hy
      simp only [Nat.zero_add] at c0 c1 c2 c3
      have hsz := I.out.2.size
      have hb' : g < wr.heap.size := by omega
      have hne : g ≠ wr.heap.size := by omega
      have hX : Below wr.heap.size wr (wr.alloc (.cells #[.int .i64 y.o, .int .i64 y.f, .int .i64 y.t, .bool y.a] 24)) := ((Grown.refl wr).alloc _).below
      clear hc hy
      generalize hout : (l'.take k).foldl mstep [] = out at I HF hlen
      clear hout
      by_cases h0 : out.length = 0
      · obtain ⟨p, c, hv, _, _, _⟩ := I.out.1.form
        rw [h0] at hv
        subst hv
        have HO : Aside (out = []) := List.eq_nil_of_length_eq_zero h0
        go_wp2
        go_quiet (fail)
        go_wp2_with (at_builtin; refine append_row _ y rfl _ _ rfl w1.heap.size (.slice p 0 c) out rfl (I.out.1.below (below_drewN hX _)) (by omega) (by simp; omega) (wr.heap.size + 1) (by simp) rfl ?_)
        intro v' w2 hR2 hB2 _ hsz2
        have HI : Aside (Rows w2 w1.heap.size v' (mstep out y) ∧ Below w1.heap.size w1 w2) := ⟨by have := HO.out; subst this; exact hR2, (I.out.2.trans ((below_drewN hX _).mono hsz)).trans hB2⟩
        clear hR2 hB2 hsz2 hX
        go_wp2
        go_roundg (n - (k + 1))
        case measure => omega
        case rel => exact ⟨k + 1, by omega, by omega, by go_num, by rw [HF.out]; exact HI⟩
      · obtain ⟨j, hj⟩ : ∃ j, out.length = j + 1 := ⟨out.length - 1, by omega⟩
        obtain ⟨z, hz⟩ : ∃ z, out[j]? = some z := ⟨_, List.getElem?_eq_getElem (by omega)⟩
        obtain ⟨gb, c, rfl, hgb1, hgb2, hO⟩ := rows_last I.out.1 hj hz
        have HM : Aside (mstep out y = if rise z y then out ++ [y] else out.set j { z with t := y.t }) := mstep_last hj hz y
        have hOX := hO.below hX hgb2
        obtain ⟨⟨z0, z1, z2, z3⟩, _⟩ := hOX.cells hz
        have hne3 : gb ≠ wr.heap.size := by omega
        have hk1 : (((j + 1 : Nat) : Int) - 1) = (j : Int) := by omega
        have hk7 : (j : Int) + 1 - 1 = (j : Int) := by omega
        have hk8 : IntKind.i64.wrap ((j : Int) + 1 - 1) = (j : Int) := by simp [IntKind.wrap, IntKind.bits, IntKind.signed]; omega
        have hk2 : IntKind.i64.wrap (j : Int) = j := by simp [IntKind.wrap, IntKind.bits, IntKind.signed]; omega
        have hk3 : (0 : Int) ≤ (j : Int) := by omega
        have hk4 : (j : Int) < ((j + 1 : Nat) : Int) := by omega
        have hk5 : (j : Int) < (j : Int) + 1 := by omega
        have HO : Aside (Own (wr.alloc (.cells #[.int .i64 y.o, .int .i64 y.f, .int .i64 y.t, .bool y.a] 24)) gb c out) := hOX
        have HZ : Aside (out[j]? = some z) := hz
        have HJ : Aside (out.length = j + 1) := hj
        clear hO hOX hz hj h0
        go_wp2
        go_region_held3 (fun w' => w'.cell? ⟨wr.heap.size, 0, none⟩ = some (.int .i64 y.o) ∧ w'.cell? ⟨wr.heap.size, 1, none⟩ = some (.int .i64 y.f) ∧ w'.cell? ⟨wr.heap.size, 2, none⟩ = some (.int .i64 y.t) ∧ w'.cell? ⟨wr.heap.size, 3, none⟩ = some (.bool y.a) ∧ w'.cell? ⟨gb, j * 4, none⟩ = some (.int .i64 z.o) ∧ w'.cell? ⟨gb, j * 4 + 1, none⟩ = some (.int .i64 z.f) ∧ w'.cell? ⟨gb, j * 4 + 2, none⟩ = some (.int .i64 z.t) ∧ w'.cell? ⟨gb, j * 4 + 3, none⟩ = some (.bool z.a)) (go_keep) (first
          | (go_at_call 32; refine (rise_any z y _).mono ?_; rintro r w2 ⟨rfl, hG⟩; have hGG : Grown (wr.alloc (.cells #[.int .i64 y.o, .int .i64 y.f, .int .i64 y.t, .bool y.a] 24)) w2 := ((Grown.refl _).drewN 1).trans hG; obtain ⟨⟨d0, d1, d2, d3⟩, _⟩ := new4 (by simp) hGG.below; have HO2 : Aside (Own w2 gb c out) := HO.out.grown hGG; obtain ⟨⟨e0, e1, e2, e3⟩, ⟨f0, f1, f2, f3⟩⟩ := HO2.out.cells HZ.out; clear hG))
        have HB2 : Aside (Below wr.heap.size wr w2) := hX.trans (hGG.below.mono (by simp))
        have hsz2 := HB2.out.size
        have hgl2 : gb < w2.heap.size := by omega
        clear hGG hX z0 z1 z2 z3 c0 c1 c2 c3
        cases hrz : rise z y with
        | true =>
          go_wp2_with (at_builtin; refine append_row w2 y rfl _ _ rfl w1.heap.size (.slice (some ⟨gb, 0, none⟩) (j + 1) c) out rfl (I.out.1.below HB2.out) (by have := HJ.out; omega) (by omega) w2.heap.size rfl rfl ?_)
          intro v' w3 hR3 hB3 _ hsz3
          have HI : Aside (Rows w3 w1.heap.size v' (mstep out y) ∧ Below w1.heap.size w1 w3) := ⟨by rw [HM.out, hrz]; exact hR3, (I.out.2.trans (HB2.out.mono hsz)).trans hB3⟩
          clear hR3 hB3 hsz3
          go_wp2
          go_roundg (n - (k + 1))
          case measure => omega
          case rel => exact ⟨k + 1, by omega, by omega, by go_num, by rw [HF.out]; exact HI⟩
        | false =>
          have HI : Aside (Rows (w2.setCell ⟨gb, j * 4 + 2, none⟩ (.int .i64 y.t)) w1.heap.size (.slice (some ⟨gb, 0, none⟩) (j + 1) c) (mstep out y) ∧ Below w1.heap.size w1 (w2.setCell ⟨gb, j * 4 + 2, none⟩ (.int .i64 y.t))) := by
            refine ⟨?_, (I.out.2.trans (HB2.out.mono hsz)).setCell hgb1 _⟩
            have h1 := Rows.ofOwn (HO2.out.setT HZ.out y.t) hgb1
            rw [List.length_set, HJ.out] at h1
            rw [HM.out, hrz]
            exact h1
          go_wp2
          go_roundg (n - (k + 1))
          case measure => omega
          case rel => exact ⟨k + 1, by omega, by omega, by go_num, by rw [HF.out]; exact HI⟩
    · have hltz : ¬ (k : Int) < (n : Int) := by omega
      have hI := I.out
      rw [List.take_of_length_le (by have := HNL.out; omega)] at hI
      have HI : Aside _ := hI
      clear hI I
      go_wp2
      go_ret
      exact ⟨_, l', rfl, HP.out, HS.out.imp (fun h => by omega), HI.out.1.mono HG.out.size, gby_below HG.out HI.out.2⟩
end Go.Proofs.Ytampldoimpfjgab
