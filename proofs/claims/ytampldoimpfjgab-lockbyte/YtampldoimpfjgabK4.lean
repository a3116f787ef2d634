/-
  lock.without: what is left of locks without some bytes of an owner's.
-/
import Derived.Test.YtampldoimpfjgabK3
namespace Go.Proofs.Ytampldoimpfjgab
open Go.RowKit Go.Sort KM
set_option linter.unusedVariables false

theorem Rows.setBox {w : World} {base B o : Nat} {v u : Value} {l : List Lk} (h : Rows w base v l) (hB : B < base) : Rows (w.setCell ⟨B, o, none⟩ u) base v l := by
  refine ⟨h.1, h.2.imp id ?_⟩
  rintro ⟨g, cap, cur, e, hg, hh, r⟩
  exact ⟨g, cap, cur, e, hg, by rw [Below.heap_setCell _ _ _ _ (by show g ≠ B; omega)]; exact hh, r⟩
def KeepPost (y : Lk) (f t : Int) (B base : Nat) (v : Value) (m : List Lk) (w : World) (e : Ending) (w' : World) : Prop :=
  e = .returned (.tuple #[]) ∧ ∃ v', w'.cell? ⟨B, 0, none⟩ = some v' ∧ w'.frozen? ⟨B, 0, none⟩ = false ∧ Rows w' base v' (m ++ keepL y f t) ∧ Below B w w' ∧ base ≤ w'.heap.size ∧ (∀ ad : Addr, ad.block < w.heap.size → ad.block ≠ B → (∀ g, v.ownBlock = some g → ad.block ≠ g) → w'.cell? ad = w.cell? ad) ∧ w.heap.size ≤ w'.heap.size
set_option maxHeartbeats 400000 in
theorem keep_any (y : Lk) (f t : Int) (B base : Nat) (v : Value) (m : List Lk) (w : World) (hc : w.cell? ⟨B, 0, none⟩ = some v) (hf : w.frozen? ⟨B, 0, none⟩ = false) (hR : Rows w base v m) (hb : base ≤ w.heap.size) (hB : B < base) (hm : m.length ≤ 1000) :
    Calls Try.prog 38 #[.agg #[.int .i64 y.o, .int .i64 y.f, .int .i64 y.t, .bool y.a], .int .i64 f, .int .i64 t, .pointer (some ⟨B, 0, none⟩)] w (KeepPost y f t B base v m w) := by
  have hne : B ≠ w.heap.size := by omega
  by_cases hft : f < t
  · have HK : Aside (keepL y f t = [⟨y.o, f, t, y.a⟩]) := by show _ = _; rw [keepL, if_pos hft]
    obtain ⟨p, c, rfl, _, hlc, hpc⟩ := hR.form
    have HR : Aside (Rows w base (.slice p m.length c) m) := hR
    clear hR
    obtain ⟨n, hnl⟩ : ∃ n, n = m.length := ⟨_, rfl⟩
    have HN : Aside (n = m.length) := hnl
    rw [← hnl] at hc HR hlc hm
    clear hnl
    have hG : Grown w (w.alloc (.cells #[.int .i64 y.o, .int .i64 y.f, .int .i64 y.t, .bool y.a] 24)) := (Grown.refl w).alloc _
    have hc1 := (hG.cell (p := ⟨B, 0, none⟩) (by show B < _; omega)).trans hc
    go_enter Try.func38, Try.ntmps38
    go_wp2_with (at_builtin; refine append_row (w.alloc (.cells #[.int .i64 y.o, .int .i64 y.f, .int .i64 y.t, .bool y.a] 24)) ⟨y.o, f, t, y.a⟩ rfl _ _ rfl base (.slice p n c) m rfl (HR.out.below hG.below) (by have := HN.out; omega) (by have := hG.size; omega) (w.heap.size + 1) (by simp) rfl ?_)
    intro v' w1 hR1 hB1 hcell hsz
    have k1 := (hB1.cell (p := ⟨B, 0, none⟩) hB).trans hc1
    have f1 := (hB1.frozen (p := ⟨B, 0, none⟩) hB).trans ((hG.below.frozen (p := ⟨B, 0, none⟩) (by show B < _; omega)).trans hf)
    obtain ⟨p', c', rfl, _, _, _⟩ := hR1.form
    have HR1 : Aside (Rows w1 base (.slice p' (m ++ [(⟨y.o, f, t, y.a⟩ : Lk)]).length c') (m ++ [⟨y.o, f, t, y.a⟩])) := hR1
    have HB1 : Aside (Below B w w1) := (hG.below.mono (by omega)).trans (hB1.mono (by omega))
    have HS : Aside (base ≤ w1.heap.size) := by have := hG.size; have := hsz; show _ ≤ _; omega
    have HC : Aside (∀ ad : Addr, ad.block < w.heap.size → ad.block ≠ B → (∀ g, (Value.slice p n c).ownBlock = some g → ad.block ≠ g) → ∀ u, (w1.setCell ⟨B, 0, none⟩ u).cell? ad = w.cell? ad) := fun ad h1 h2 h3 u => by
      have hne' : (⟨B, 0, none⟩ : Addr) ≠ ad := fun e => h2 (by rw [← e])
      exact (World.cell?_setCell_other (h := hne') ..).trans ((hcell ad (by have := hG.size; omega) h3).trans (hG.cell h1))
    have HZ : Aside (w.heap.size ≤ w1.heap.size) := by have := hG.size; have := hsz; show _ ≤ _; omega
    clear hR1 hB1 hsz hc1 hG hc hcell
    generalize (m ++ [⟨y.o, f, t, y.a⟩] : List Lk).length = n' at *
    go_wp2
    go_end0
    refine ⟨rfl, .slice p' n' c', ?_, ?_, ?_, HB1.out.setCell (Nat.le_refl _) _, by simp; exact HS.out, fun ad h1 h2 h3 => HC.out ad h1 h2 (fun g hg => h3 g (by rw [← HN.out]; exact hg)) _, by simp; exact HZ.out⟩
    · exact World.cell?_setCell_same (h := k1) ..
    · rw [World.frozen?_setCell]; exact f1
    · rw [HK.out]; exact HR1.out.setBox hB
  · have HK : Aside (keepL y f t = []) := by show _ = _; rw [keepL, if_neg hft]
    have HR : Aside (Rows w base v m) := hR
    clear hR
    go_enter Try.func38, Try.ntmps38
    go_wp2
    go_end0
    refine ⟨rfl, v, ?_, ?_, ?_, ?_, ?_, ?_, ?_⟩
    · rw [((Grown.refl w).alloc _).cell (p := ⟨B, 0, none⟩) (by show B < _; omega)]; exact hc
    · exact (((Grown.refl w).alloc _).below.frozen (p := ⟨B, 0, none⟩) (by show B < _; omega)).trans hf
    · rw [HK.out, List.append_nil]; exact HR.out.below ((Grown.refl w).alloc _).below
    · exact ((Grown.refl w).alloc _).below.mono (by omega)
    · simp; omega
    · intro ad h1 _ _
      exact ((Grown.refl w).alloc _).cell h1
    · simp
theorem without_step {l : List Lk} {k : Nat} {x y : Lk} (hy : l[k]? = some y) : withoutL (l.take (k + 1)) x = withoutL (l.take k) x ++ partsK x y := by
  rw [take_step hy]; simp [withoutL]
theorem parts_len (x y : Lk) : (partsK x y).length ≤ 2 := by
  unfold partsK keepL
  repeat' split
  all_goals simp
theorem without_len (l : List Lk) (x : Lk) : (withoutL l x).length ≤ l.length * 2 := by
  induction l with
  | nil => simp [withoutL]
  | cons y r ih =>
    have := parts_len x y
    have e : withoutL (y :: r) x = partsK x y ++ withoutL r x := by simp [withoutL]
    rw [e, List.length_append, List.length_cons]; omega
/-- Behind each lock: the box of what is left, and the lock that is taken out. -/
structure WInv (x : Lk) (w W : World) (v : Value) (m : List Lk) : Prop where
  box : W.cell? ⟨w.heap.size + 1, 0, none⟩ = some v
  frz : W.frozen? ⟨w.heap.size + 1, 0, none⟩ = false
  rows : Rows W (w.heap.size + 2) v m
  below : Below (w.heap.size + 1) (w.alloc (.cells #[.int .i64 x.o, .int .i64 x.f, .int .i64 x.t, .bool x.a] 24)) W
  size : w.heap.size + 2 ≤ W.heap.size
theorem WInv.base {x : Lk} {w W : World} {v : Value} {m : List Lk} (h : WInv x w W v m) : Below w.heap.size w W := base1 h.below
theorem WInv.xs {x : Lk} {w W : World} {v : Value} {m : List Lk} (h : WInv x w W v m) : W.cell? ⟨w.heap.size, 0, none⟩ = some (.int .i64 x.o) ∧ W.cell? ⟨w.heap.size, 1, none⟩ = some (.int .i64 x.f) ∧ W.cell? ⟨w.heap.size, 2, none⟩ = some (.int .i64 x.t) ∧ W.cell? ⟨w.heap.size, 3, none⟩ = some (.bool x.a) :=
  (new4 (Nat.lt_succ_self _) h.below).1
theorem WInv.start (x : Lk) (w : World) : WInv x w ((w.alloc (.cells #[.int .i64 x.o, .int .i64 x.f, .int .i64 x.t, .bool x.a] 24)).alloc (.cells #[.slice none 0 0] 22)) (.slice none 0 0) [] := by
  have e : w.heap.size + 1 = (w.alloc (.cells #[.int .i64 x.o, .int .i64 x.f, .int .i64 x.t, .bool x.a] 24)).heap.size := by simp
  refine ⟨?_, ?_, Rows.nil _ _, ((Below.refl _ _).alloc (by simp) _), by simp⟩
  · rw [e]; simp
  · rw [e]; simp
theorem WInv.alloc {x : Lk} {w W : World} {v : Value} {m : List Lk} (h : WInv x w W v m) (o : Obj) : WInv x w (W.alloc o) v m := by
  have hG : Grown W (W.alloc o) := (Grown.refl W).alloc o
  have hs := h.size
  exact ⟨(hG.cell (p := ⟨w.heap.size + 1, 0, none⟩) (by show w.heap.size + 1 < _; omega)).trans h.box, (hG.below.frozen (p := ⟨w.heap.size + 1, 0, none⟩) (by show w.heap.size + 1 < _; omega)).trans h.frz, h.rows.below hG.below, upA h.below, by have := hG.size; omega⟩
theorem WInv.keep {x : Lk} {w W : World} {v : Value} {m : List Lk} (h : WInv x w W v m) (y : Lk) (f t : Int) (hm : m.length ≤ 1000) :
    Calls Try.prog 38 #[.agg #[.int .i64 y.o, .int .i64 y.f, .int .i64 y.t, .bool y.a], .int .i64 f, .int .i64 t, .pointer (some ⟨w.heap.size + 1, 0, none⟩)] W fun e W' => e = .returned (.tuple #[]) ∧ ∃ v', WInv x w W' v' (m ++ keepL y f t) ∧
      ∀ ad : Addr, ad.block < W.heap.size → ad.block ≠ w.heap.size + 1 → (∀ g, v.ownBlock = some g → ad.block ≠ g) → W'.cell? ad = W.cell? ad := by
  refine (keep_any y f t (w.heap.size + 1) (w.heap.size + 2) v m W h.box h.frz h.rows h.size (by omega) hm).mono ?_
  rintro e W' ⟨rfl, v', h1, h2, h3, h4, h5, h6, _⟩
  exact ⟨rfl, v', ⟨h1, h2, h3, h.below.trans h4, h5⟩, h6⟩
def WithoutPost (l : List Lk) (x : Lk) (w : World) (e : Ending) (w' : World) : Prop :=
  ∃ v, e = .returned v ∧ Rows w' w.heap.size v (withoutL l x) ∧ Below w.heap.size w w'
set_option maxHeartbeats 400000 in
theorem without_any (l : List Lk) (x : Lk) (p : Option Addr) (cap : Nat) (w : World) (hL : Lies w p l) (hn : l.length ≤ 40) :
    Calls Try.prog 26 #[.slice p l.length cap, .agg #[.int .i64 x.o, .int .i64 x.f, .int .i64 x.t, .bool x.a]] w (WithoutPost l x w) := by
  have HL : Aside (Lies w p l) := hL
  clear hL
  obtain ⟨n, hnl⟩ : ∃ n, n = l.length := ⟨_, rfl⟩
  have HN : Aside (n = l.length) := hnl
  rw [← hnl] at hn ⊢
  clear hnl
  have HL2 : Aside (∀ k, (withoutL (l.take k) x).length ≤ 80) := fun k => by
    have h1 := without_len (l.take k) x
    have h2 : (l.take k).length ≤ l.length := by rw [List.length_take]; omega
    have h3 := HN.out
    omega
  go_enter Try.func26, Try.ntmps26
  go_wp2
  go_loopg [12] n (fun gg s12 wr => ∃ k : Nat, k ≤ n ∧ n - k ≤ gg ∧ s12 = .int .i64 k ∧ ∃ v, Aside (WInv x w wr v (withoutL (l.take k) x)))
  case atStart => exact ⟨0, Nat.zero_le _, by omega, rfl, .slice none 0 0, (WInv.start x w : WInv _ _ _ _ [])⟩
  case round =>
    obtain ⟨k, hk, hg, rfl, v, I⟩ := hrel
    obtain ⟨d0, d1, d2, d3⟩ := I.out.xs
    by_cases hlt : k < n
    · have hltz : (k : Int) < (n : Int) := by omega
      obtain ⟨y, hy⟩ : ∃ y, l[k]? = some y := ⟨_, List.getElem?_eq_getElem (by have := HN.out; omega)⟩
      have HS : Aside (withoutL (l.take (k + 1)) x = withoutL (l.take k) x ++ partsK x y) := without_step hy
      rcases HL.out with h0 | ⟨b, off, rfl, hb, hc⟩
      · rw [h0] at hy; simp at hy
      obtain ⟨c0, c1, c2, c3⟩ := Lies.cells hc hb I.out.base hy
      have hb' : b < wr.heap.size := Nat.lt_of_lt_of_le hb I.out.base.size
      have hne : b ≠ wr.heap.size := by omega
      have hne2 : w.heap.size ≠ wr.heap.size := by have := I.out.size; omega
      have hwl : w.heap.size < wr.heap.size := by have := I.out.size; omega
      have I1 : Aside (WInv x w (wr.alloc (.cells #[.int .i64 y.o, .int .i64 y.f, .int .i64 y.t, .bool y.a] 24)) v (withoutL (l.take k) x)) := I.out.alloc _
      have hcall := fun f t => I1.out.keep y f t (by have := HL2.out k; omega)
      clear hc hy
      by_cases ho : y.o = x.o
      · have HP : Aside (partsK x y = keepL y y.f (min y.t x.f) ++ keepL y (max y.f x.t) y.t) := by show _ = _; rw [partsK, if_neg (by simpa using ho)]
        have hown : ∀ g, v.ownBlock = some g → wr.heap.size ≠ g := fun g hg => by have := (World.ownsRow.lt I.out.rows g hg).2; omega
        have hwl2 : wr.heap.size ≠ w.heap.size + 1 := by have := I.out.size; omega
        have HLn := HL2.out (k + 1)
        rw [HS.out, HP.out, ← List.append_assoc, List.length_append] at HLn
        have hlen2 : (withoutL (l.take k) x ++ keepL y y.f (min y.t x.f)).length ≤ 1000 := by omega
        clear HLn
        obtain ⟨yo, yf, yt, ya⟩ := y
        simp only at *
        subst ho
        go_wp2_with (first
          | ((first | go_at_call 38 | go_at_fn 38); refine (hcall _ _).mono ?_; clear hcall; rintro e w2 ⟨rfl, v2, hI2, hcell2⟩; obtain ⟨a0, a1, a2, a3⟩ := hI2.xs; have b0 := (hcell2 ⟨wr.heap.size, 0, none⟩ (by simp) hwl2 hown).trans (by simp : _ = some (Value.int .i64 x.o)); have b1 := (hcell2 ⟨wr.heap.size, 1, none⟩ (by simp) hwl2 hown).trans (by simp : _ = some (Value.int .i64 yf)); have b2 := (hcell2 ⟨wr.heap.size, 2, none⟩ (by simp) hwl2 hown).trans (by simp : _ = some (Value.int .i64 yt)); have b3 := (hcell2 ⟨wr.heap.size, 3, none⟩ (by simp) hwl2 hown).trans (by simp : _ = some (Value.bool ya)); have hcall2 := fun f t => hI2.keep ⟨x.o, yf, yt, ya⟩ f t hlen2; clear hI2 hcell2; simp only at hcall2)
          | ((first | go_at_call 38 | go_at_fn 38); refine (hcall2 _ _).mono ?_; clear hcall2; rintro e w3 ⟨rfl, v3, hI3, _⟩))
        go_roundg (n - (k + 1))
        case measure => omega
        case rel => exact ⟨k + 1, by omega, by omega, by go_num, v3, by rw [HS.out, HP.out, ← List.append_assoc]; exact hI3⟩
      · have HP : Aside (partsK x y = keepL y y.f y.t) := by show _ = _; rw [partsK, if_pos ho]
        have ho' : (y.o != x.o) = true := bne_iff_ne.2 ho
        go_wp2_with ((first | go_at_call 38 | go_at_fn 38); refine (hcall _ _).mono ?_; clear hcall; rintro e w2 ⟨rfl, v2, hI2, _⟩)
        go_roundg (n - (k + 1))
        case measure => omega
        case rel => exact ⟨k + 1, by omega, by omega, by go_num, v2, by rw [HS.out, HP.out]; exact hI2⟩
    · have hltz : ¬ (k : Int) < (n : Int) := by omega
      obtain ⟨pv, cv, rfl, _, _, _⟩ := I.out.rows.form
      have hcb := I.out.box
      have HW : Aside (withoutL (l.take k) x = withoutL l x) := by show _ = _; rw [List.take_of_length_le (by have := HN.out; omega)]
      rw [HW.out] at hcb I
      generalize (withoutL l x).length = nn at hcb I
      go_wp2
      go_ret
      exact ⟨_, rfl, I.out.rows.mono (by omega), I.out.base⟩
end Go.Proofs.Ytampldoimpfjgab
