/-
  Plain mathematics for the document's own SetUpper, Drop and MoveUnion.
-/
import Derived.Test.YtampldoimpfjgaaGreatDoorGM
import Derived.Test.YtampldoimpfjgaaGreatDoorGJ
import Derived.Test.YtampldoimpfjgaaGreatDoorGK
namespace Go.Proofs.YtampldoimpfjgaaGreatDoor
open Go.RowKit PM Go.Sort
set_option linter.unusedVariables false

theorem restH_iffS {l : List Ent} (hs : Sorted l) (hne : ∀ e ∈ l, e.p ≠ []) : ∀ (n : Nat) (q : List UInt8), q.length ≤ n → (restH l q = true ↔ q ≠ [] ∧ ∃ e ∈ l, (e.p = q ∨ under q e.p = true) ∧ (!(e.kind == 2) || e.opq) = true) := by
  intro n
  induction n with
  | zero =>
    intro q hq
    have : q = [] := List.eq_nil_of_length_eq_zero (by omega)
    subst this
    rw [restH_nil]
    simp
  | succ n ih =>
    intro q hq
    by_cases h : q = []
    · subst h; rw [restH_nil]; simp
    · rw [restH_cons h, Bool.or_eq_true, ih (dirOf q) (by have := dirOf_short h; omega)]
      constructor
      · rintro (h1 | ⟨h1, e, he, h2, h3⟩)
        · refine ⟨h, ?_⟩
          unfold testH at h1
          cases hg : getL l q with
          | none => rw [hg] at h1; cases h1
          | some e =>
            rw [hg] at h1
            obtain ⟨hm, hp⟩ := getL_some h hg
            exact ⟨e, hm, .inl hp, h1⟩
        · refine ⟨h, e, he, .inr ((under_step h (hne _ he)).2 ⟨h1, ?_⟩), h3⟩
          rcases h2 with h2 | h2
          · exact .inl h2.symm
          · exact .inr h2
      · rintro ⟨_, e, he, h2, h3⟩
        rcases h2 with h2 | h2
        · left
          have := getL_of hs he (hne _ he)
          rw [h2] at this
          unfold testH
          rw [this]
          exact h3
        · right
          obtain ⟨h1, h4⟩ := (under_step h (hne _ he)).1 h2
          refine ⟨h1, e, he, ?_, h3⟩
          rcases h4 with h4 | h4
          · exact .inl h4.symm
          · exact .inr h4
/-- It is what a layer hides. -/
theorem refHid_eqS {l : List Ent} (hs : Sorted l) (hne : ∀ e ∈ l, e.p ≠ []) (q : List UInt8) : refHid l q = hidesL l q := by
  rw [Bool.eq_iff_iff]
  unfold refHid hidesL
  rw [Bool.or_eq_true, List.any_eq_true, restH_iffS hs hne _ _ (Nat.le_refl _)]
  by_cases h : q = []
  · subst h
    have h0 : dirOf ([] : List UInt8) = [] := by
      have := dirOf_le ([] : List UInt8)
      exact List.eq_nil_of_length_eq_zero (by simpa using this)
    rw [h0, getL_nil]
    constructor
    · rintro (h1 | ⟨h1, _⟩)
      · simp [dirE] at h1
      · exact absurd rfl h1
    · rintro ⟨e, he, h1⟩
      unfold hidesE at h1
      rw [under_nil (hne _ he)] at h1
      simp [hne _ he] at h1
  · constructor
    · rintro (h1 | ⟨h1, e, he, h2, h3⟩)
      · cases hg : getL l q with
        | none => rw [hg] at h1; cases h1
        | some e =>
          rw [hg] at h1
          obtain ⟨hm, hp⟩ := getL_some h hg
          exact ⟨e, hm, by unfold hidesE; rw [hp]; simp at h1 ⊢; exact .inl h1⟩
      · refine ⟨e, he, ?_⟩
        unfold hidesE
        rw [(under_step h (hne _ he)).2 ⟨h1, by rcases h2 with h2 | h2; exact .inl h2.symm; exact .inr h2⟩]
        simp at h3 ⊢
        exact .inr h3
    · rintro ⟨e, he, h1⟩
      unfold hidesE at h1
      rcases Bool.or_eq_true _ _ ▸ h1 with h1 | h1
      · left
        simp at h1
        have := getL_of hs he (hne _ he)
        rw [h1.1] at this
        rw [this]
        simpa using h1.2
      · right
        rw [Bool.and_eq_true] at h1
        obtain ⟨h2, h4⟩ := (under_step h (hne _ he)).1 h1.1
        refine ⟨h2, e, he, ?_, h1.2⟩
        rcases h4 with h4 | h4
        · exact .inl h4.symm
        · exact .inr h4

/-- Sorted, with paths that are none empty and none too long. -/
structure SM (own : List Ent) : Prop where
  sorted : Sorted own
  each : ∀ x ∈ own, x.p ≠ [] ∧ x.path.size ≤ 1048576
theorem SM.small {own : List Ent} (h : SM own) : ∀ x ∈ own, x.path.size ≤ 1048576 := fun x hx => (h.each x hx).2
theorem SM.put {own : List Ent} (h : SM own) {e : Ent} (h1 : e.p ≠ []) (h2 : e.path.size ≤ 1048576) : SM (putL own e) :=
  ⟨sorted_putL h.sorted e, fun x hx => by
    rcases mem_putL.1 hx with rfl | ⟨hx, _⟩
    · exact ⟨h1, h2⟩
    · exact h.each x hx⟩
theorem fix_path (own : List Ent) (e : Ent) : (fixE own e).path = e.path := by unfold fixE; split <;> rfl
theorem SM.stand {own : List Ent} (h : SM own) {e : Ent} (h1 : e.p ≠ []) (h2 : e.path.size ≤ 1048576) : SM (standL own e) :=
  h.put (by rw [fixE_p]; exact h1) (by rw [fix_path]; exact h2)
theorem dir_ne {own : List Ent} {e : Ent} (h : ¬ isDirL own (dirOf e.p) = true) : dirOf e.p ≠ [] := fun h0 => h (by rw [h0]; exact isDirL_nil own)
theorem mkE_path (q : List UInt8) (k : Int) : (mkE (baL q) k).path = baL q := rfl
theorem baL_size (q : List UInt8) : (baL q).size = q.length := by simp [baL, ByteArray.size]
theorem path_len (e : Ent) : e.path.size = e.p.length := rfl
theorem SM.have : ∀ (n : Nat) {own : List Ent} {e : Ent}, e.p.length ≤ n → SM own → e.p ≠ [] → e.path.size ≤ 1048576 → SM (haveL own e) := by
  intro n
  induction n with
  | zero => intro own e hn _ hne _; exact absurd (List.eq_nil_of_length_eq_zero (by omega)) hne
  | succ n ih =>
    intro own e hn hs hne h2
    by_cases hd : isDirL own (dirOf e.p) = true
    · rw [haveL_dir hd]; exact hs.stand hne h2
    · rw [haveL_no hd]
      have hsh := dirOf_short hne
      refine SM.stand (ih (by rw [baL_p]; omega) hs (by rw [baL_p]; exact dir_ne hd) (by rw [mkE_path, baL_size]; have := path_len e; omega)) hne h2
theorem SM.cut {own : List Ent} (h : SM own) (q : List UInt8) : SM (cutW own q) :=
  ⟨List.Pairwise.filter _ h.sorted, fun x hx => h.each x (mem_cutW.1 hx).1⟩
theorem SM.drop {own B : List Ent} {p : ByteArray} (h : SM own) (hp : p.data.toList ≠ []) (hs : p.size ≤ 1048576) : SM (dropL own B p) := by
  unfold dropL
  split
  · exact SM.have _ (Nat.le_refl _) (h.cut _) (by rw [mkE_p]; exact hp) hs
  · exact h.cut _
theorem rem_cut (own : List Ent) (q : List UInt8) : remUnder own q = cutW own q := by
  unfold remUnder cutW inW
  congr 1
  funext x
  cases under x.p q <;> cases decide (x.p = q) <;> rfl
theorem right_sm {b : Bool} {t : List Ent} (h : Right b t) : SM t := ⟨h.sorted, fun x hx => ⟨h.ne hx, by
  have h1 := wrongE_clean (h.each x hx)
  have h2 : x.p.length ≤ 80 := by
    unfold clean at h1
    simp at h1
    exact h1.1
  have := path_len x; omega⟩⟩
theorem wrongE_opq_false {e : Ent} (h : wrongE e false = 0) : e.opq = false := by
  unfold wrongE at h
  cases ho : e.opq with
  | false => rfl
  | true => simp [ho] at h; repeat (split at h <;> try omega)
theorem wrongE_small {e : Ent} {b : Bool} (h : wrongE e b = 0) : e.path.size ≤ 1048576 ∧ e.text.size ≤ 1048576 := by
  have h1 := wrongE_clean h
  have h2 : e.p.length ≤ 80 := by
    unfold clean at h1
    simp at h1
    exact h1.1
  have h3 := path_len e
  refine ⟨by omega, ?_⟩
  unfold wrongE at h
  rcases Nat.lt_or_ge 100 e.text.size with g | g
  · simp [g] at h; repeat (split at h <;> try omega)
  · omega
theorem have_len {own : List Ent} {e : Ent} (h : Sorted own) : (haveL own e).length ≤ own.length + e.path.size + 1 := by
  have := (have_sorted e.p.length (Nat.le_refl _) h (e := e)).2
  have := path_len e
  omega
/-- What the document writes into an entry is what the program does. -/
def refFix (own : List Ent) (e : Ent) : Ent := match getL own e.p with | some old => if e.kind = 2 then { e with opq := old.opq || old.kind == 4 } else e | none => e
theorem refFix_eq {own : List Ent} {e : Ent} (h : e.opq = false) : refFix own e = fixE own e := by
  unfold refFix fixE
  obtain ⟨p, k, t, o⟩ := e
  simp only at h
  subst h
  cases getL own (Ent.p ⟨p, k, t, false⟩) with
  | none => rfl
  | some old =>
    simp only
    by_cases hk : k = 2
    · rw [if_pos hk]; subst hk; simp
    · rw [if_neg hk]; simp [hk]
end Go.Proofs.YtampldoimpfjgaaGreatDoor
namespace Go.Proofs.YtampldoimpfjgaaGreatDoor
open Go.RowKit PM Go.Sort
set_option linter.unusedVariables false

theorem boxC {w W w1 : World} {a b c d : Value} {t : TypeId} (h : Below (w.heap.size + 1) (w.alloc (.cells #[a, b, c, d] t)) W) (g : Below W.heap.size W w1) :
    Below (w.heap.size + 1) (w.alloc (.cells #[a, b, c, d] t)) w1 ∧ w.heap.size ≠ w1.heap.size ∧ w.heap.size < w1.heap.size ∧
    (w1.cell? ⟨w.heap.size, 0, none⟩ = some a ∧ w1.cell? ⟨w.heap.size, 1, none⟩ = some b ∧ w1.cell? ⟨w.heap.size, 2, none⟩ = some c ∧ w1.cell? ⟨w.heap.size, 3, none⟩ = some d) ∧ w1.frozen? ⟨w.heap.size, 3, none⟩ = false := by
  have hB := up1 h g
  obtain ⟨h1, h2⟩ := new4 (Nat.lt_succ_self _) hB
  have := block_lt_of_cell h1.1
  simp only at this
  exact ⟨hB, by omega, this, h1, h2.2.2.2⟩
abbrev SuRec (w : World) (s : ByteArray) (p : Option Addr) (n cap : Nat) (l1 : List Ent) : Prop := ∀ W (d : ByteArray), d.data.toList = (cutL s.data.toList).1 → Below w.heap.size w W → Calls Tryz.prog 34 #[.slice p n cap, .agg #[.string d, .int .i64 2, .string ⟨#[]⟩, .bool false]] W (RowsPost l1 W)
abbrev SuGet (w : World) (s : ByteArray) (l1 : List Ent) (n1 : Nat) (zp : ByteArray) (zk : Int) (zt : ByteArray) (zo zb : Bool) : Prop := ∀ W p1 c1, Below w.heap.size w W → Lies W p1 l1 → Calls Tryz.prog 26 #[.slice p1 n1 c1, .string s] W fun r w' => r = .returned (.tuple #[.agg #[.string zp, .int .i64 zk, .string zt, .bool zo], .bool zb]) ∧ Below W.heap.size W w'
abbrev SuWith (w : World) (ev : Value) (l1 : List Ent) (n1 : Nat) (rl : List Ent) : Prop := ∀ W p1 c1, Below w.heap.size w W → Lies W p1 l1 → Calls Tryz.prog 72 #[.slice p1 n1 c1, ev] W (RowsPost rl W)
theorem rows_from {w : World} {base : Nat} {v : Value} {l : List Ent} (h : Rows w base v l) : ∃ p c, v = .slice p l.length c ∧ Lies w p l ∧ ∀ b off s, p = some ⟨b, off, s⟩ → base ≤ b := by
  obtain ⟨p, c, hv, hL, _, _⟩ := h.form
  refine ⟨p, c, hv, hL, ?_⟩
  intro b off s hp
  obtain ⟨_, ⟨h2, _⟩ | ⟨g, cap, cur, hv', hg, _⟩⟩ := h
  · rw [h2] at hv
    simp only [Value.slice.injEq] at hv
    rw [← hv.1] at hp; cases hp
  · rw [hv'] at hv
    simp only [Value.slice.injEq] at hv
    rw [← hv.1] at hp
    cases hp
    exact hg
theorem rows_parts {l : List Ent} {n : Nat} {w w' : World} {e : Ending} (hn : n = l.length) (h : RowsPost l w e w') : ∃ p c, e = .returned (.slice p n c) ∧ Aside (Lies w' p l ∧ ∀ b off s, p = some ⟨b, off, s⟩ → w.heap.size ≤ b) ∧ Aside (Below w.heap.size w w') := by
  obtain ⟨⟨v, rfl, hR⟩, hB⟩ := h
  obtain ⟨p, c, rfl, hL, hb⟩ := rows_from hR
  exact ⟨p, c, by rw [hn], ⟨hL, hb⟩, hB⟩
theorem lies_far {W : World} {p : Option Addr} {l : List Ent} (h : Lies W p l) (a : Addr) (v : Value) (hne : ∀ b off s, p = some ⟨b, off, s⟩ → a.block ≠ b) : Lies (W.setCell a v) p l := by
  rcases h with h | ⟨b, off, rfl, hb, hc⟩
  · exact .inl h
  · refine .inr ⟨b, off, rfl, by simpa [World.setCell] using hb, fun j e hj i u hu => ?_⟩
    rw [World.cell?_setCell_other (h := fun e => hne b off none rfl (congrArg Addr.block e))]
    exact hc j e hj i u hu
set_option maxHeartbeats 1000000 in
set_option maxRecDepth 100000 in
theorem su_A0N (l1 rl : List Ent) (n1 : Nat) (hn1 : n1 = l1.length) (ep et : ByteArray) (ek : Int) (p : Option Addr) (n cap : Nat) (w : World) (hcu : RefCu ep) (xp xt : ByteArray) (xk : Int) (xo : Bool) (hgd : RefGd w ep p n cap xp xk xt xo true) (zp zt : ByteArray) (zk : Int) (zo : Bool) (hL : Lies w p l1) (hnn : n = n1) (hge : SuGet w ep l1 n1 zp zk zt zo false) (hwi : SuWith w (.agg #[.string ep, .int .i64 ek, .string et, .bool false]) l1 n1 rl) (hdir : (cutL ep.data.toList).1 = []) :
    Calls Tryz.prog 34 #[.slice p n cap, .agg #[.string ep, .int .i64 ek, .string et, .bool false]] w (RowsPost rl w) := by
  have HBX : Aside (Below (w.heap.size + 1) (w.alloc (.cells #[.string ep, .int .i64 ek, .string et, .bool false] 28)) (w.alloc (.cells #[.string ep, .int .i64 ek, .string et, .bool false] 28))) := Below.refl _ _
  have HN1 : Aside (n1 = l1.length) := hn1
  have HD : Aside ((cutL ep.data.toList).1 = []) := hdir
  clear hn1 hdir
  have HL : Aside (Lies w p l1) := hL
  subst hnn
  clear hL
  go_enter Tryz.func34, Tryz.ntmps34
  go_wp2_with (first
    | (go_at_call 53; refine (hcu _).mono ?_; clear hcu; rintro rr w1 ⟨⟨d, nm, rfl, hd, hnm⟩, hG1⟩; clear hnm; obtain ⟨hB1, hne, hlt, ⟨q0, q1, q2, q3⟩, qf⟩ := boxC HBX.out hG1.below; clear hG1; have HDD : Aside (d.data.toList = (cutL ep.data.toList).1) := hd; clear hd; have hdd := empty_of (HDD.out.trans HD.out))
    | (go_at_call 26; refine (hgd _ d HDD.out (base1 hB1)).mono ?_; clear hgd; rintro rr w2 ⟨rfl, hN⟩; clear hne hlt q0 q1 q2 q3 qf; obtain ⟨hB2x, hne, hlt, ⟨q0, q1, q2, q3⟩, qf⟩ := boxC hB1 hN; clear hN hB1; have hB2 := hB2x.alloc (Nat.succ_le_of_lt hlt) (.cells #[.string xp, .int .i64 xk, .string xt, .bool xo] 28); clear hB2x)
    | (go_at_call 26; refine (hge _ p cap (base1 hB2) (HL.out.kept (base1 hB2))).mono ?_; clear hge; rintro rr w4 ⟨rfl, hN⟩; clear hne hlt q0 q1 q2 q3 qf; obtain ⟨hB4x, hne, hlt, ⟨q0, q1, q2, q3⟩, qf⟩ := boxC hB2 hN; clear hN hB2; have HL4 : Aside (Lies w4 p l1) := HL.out.kept (base1 hB4x); have hB4 := hB4x.alloc (Nat.succ_le_of_lt hlt) (.cells #[.string zp, .int .i64 zk, .string zt, .bool zo] 28); clear hB4x)
    | (go_at_call 72; refine (hwi _ p cap (base1 hB4) (HL4.out.grown ((Grown.refl w4).alloc (.cells #[.string zp, .int .i64 zk, .string zt, .bool zo] 28)))).mono ?_; clear hwi; rintro rr w6 ⟨⟨v6, rfl, hR6⟩, hN⟩; have HB6 : Aside (Below w.heap.size w w6) := base1 (up1 hB4 hN); have HR6 : Aside (Rows w6 w.heap.size v6 rl) := hR6.mono (base1 hB4).size; clear hR6 hN))
  go_ret
  exact ⟨⟨_, rfl, HR6.out⟩, HB6.out⟩
set_option maxHeartbeats 1000000 in
set_option maxRecDepth 100000 in
theorem su_A0K (l1 rl : List Ent) (n1 : Nat) (hn1 : n1 = l1.length) (ep et : ByteArray) (ek : Int) (p : Option Addr) (n cap : Nat) (w : World) (hcu : RefCu ep) (xp xt : ByteArray) (xk : Int) (xo : Bool) (hgd : RefGd w ep p n cap xp xk xt xo true) (zp zt : ByteArray) (zk : Int) (zo : Bool) (hL : Lies w p l1) (hnn : n = n1) (hge : SuGet w ep l1 n1 zp zk zt zo true) (hwi : SuWith w (.agg #[.string ep, .int .i64 ek, .string et, .bool false]) l1 n1 rl) (hdir : (cutL ep.data.toList).1 = []) (hek : ¬ ek = 2) :
    Calls Tryz.prog 34 #[.slice p n cap, .agg #[.string ep, .int .i64 ek, .string et, .bool false]] w (RowsPost rl w) := by
  have HBX : Aside (Below (w.heap.size + 1) (w.alloc (.cells #[.string ep, .int .i64 ek, .string et, .bool false] 28)) (w.alloc (.cells #[.string ep, .int .i64 ek, .string et, .bool false] 28))) := Below.refl _ _
  have HN1 : Aside (n1 = l1.length) := hn1
  have HD : Aside ((cutL ep.data.toList).1 = []) := hdir
  clear hn1 hdir
  have HL : Aside (Lies w p l1) := hL
  subst hnn
  clear hL
  have hek' : (ek == 2) = false := beq_eq_false_iff_ne.2 hek
  go_enter Tryz.func34, Tryz.ntmps34
  go_wp2_with (first
    | (go_at_call 53; refine (hcu _).mono ?_; clear hcu; rintro rr w1 ⟨⟨d, nm, rfl, hd, hnm⟩, hG1⟩; clear hnm; obtain ⟨hB1, hne, hlt, ⟨q0, q1, q2, q3⟩, qf⟩ := boxC HBX.out hG1.below; clear hG1; have HDD : Aside (d.data.toList = (cutL ep.data.toList).1) := hd; clear hd; have hdd := empty_of (HDD.out.trans HD.out))
    | (go_at_call 26; refine (hgd _ d HDD.out (base1 hB1)).mono ?_; clear hgd; rintro rr w2 ⟨rfl, hN⟩; clear hne hlt q0 q1 q2 q3 qf; obtain ⟨hB2x, hne, hlt, ⟨q0, q1, q2, q3⟩, qf⟩ := boxC hB1 hN; clear hN hB1; have hB2 := hB2x.alloc (Nat.succ_le_of_lt hlt) (.cells #[.string xp, .int .i64 xk, .string xt, .bool xo] 28); clear hB2x)
    | (go_at_call 26; refine (hge _ p cap (base1 hB2) (HL.out.kept (base1 hB2))).mono ?_; clear hge; rintro rr w4 ⟨rfl, hN⟩; clear hne hlt q0 q1 q2 q3 qf; obtain ⟨hB4x, hne, hlt, ⟨q0, q1, q2, q3⟩, qf⟩ := boxC hB2 hN; clear hN hB2; have HL4 : Aside (Lies w4 p l1) := HL.out.kept (base1 hB4x); have hB4 := hB4x.alloc (Nat.succ_le_of_lt hlt) (.cells #[.string zp, .int .i64 zk, .string zt, .bool zo] 28); clear hB4x)
    | (go_at_call 72; refine (hwi _ p cap (base1 hB4) (HL4.out.grown ((Grown.refl w4).alloc (.cells #[.string zp, .int .i64 zk, .string zt, .bool zo] 28)))).mono ?_; clear hwi; rintro rr w6 ⟨⟨v6, rfl, hR6⟩, hN⟩; have HB6 : Aside (Below w.heap.size w w6) := base1 (up1 hB4 hN); have HR6 : Aside (Rows w6 w.heap.size v6 rl) := hR6.mono (base1 hB4).size; clear hR6 hN))
  go_ret
  exact ⟨⟨_, rfl, HR6.out⟩, HB6.out⟩
set_option maxHeartbeats 1000000 in
set_option maxRecDepth 100000 in
theorem su_A0D1 (l1 rl : List Ent) (n1 : Nat) (hn1 : n1 = l1.length) (ep et : ByteArray) (p : Option Addr) (n cap : Nat) (w : World) (hcu : RefCu ep) (xp xt : ByteArray) (xk : Int) (xo : Bool) (hgd : RefGd w ep p n cap xp xk xt xo true) (zp zt : ByteArray) (zk : Int) (hL : Lies w p l1) (hnn : n = n1) (hge : SuGet w ep l1 n1 zp zk zt true true) (hwi : SuWith w (.agg #[.string ep, .int .i64 2, .string et, .bool true]) l1 n1 rl) (hdir : (cutL ep.data.toList).1 = []) :
    Calls Tryz.prog 34 #[.slice p n cap, .agg #[.string ep, .int .i64 2, .string et, .bool false]] w (RowsPost rl w) := by
  have HBX : Aside (Below (w.heap.size + 1) (w.alloc (.cells #[.string ep, .int .i64 2, .string et, .bool false] 28)) (w.alloc (.cells #[.string ep, .int .i64 2, .string et, .bool false] 28))) := Below.refl _ _
  have HN1 : Aside (n1 = l1.length) := hn1
  have HD : Aside ((cutL ep.data.toList).1 = []) := hdir
  clear hn1 hdir
  have HL : Aside (Lies w p l1) := hL
  subst hnn
  clear hL
  go_enter Tryz.func34, Tryz.ntmps34
  go_wp2_with (first
    | (go_at_call 53; refine (hcu _).mono ?_; clear hcu; rintro rr w1 ⟨⟨d, nm, rfl, hd, hnm⟩, hG1⟩; clear hnm; obtain ⟨hB1, hne, hlt, ⟨q0, q1, q2, q3⟩, qf⟩ := boxC HBX.out hG1.below; clear hG1; have HDD : Aside (d.data.toList = (cutL ep.data.toList).1) := hd; clear hd; have hdd := empty_of (HDD.out.trans HD.out))
    | (go_at_call 26; refine (hgd _ d HDD.out (base1 hB1)).mono ?_; clear hgd; rintro rr w2 ⟨rfl, hN⟩; clear hne hlt q0 q1 q2 q3 qf; obtain ⟨hB2x, hne, hlt, ⟨q0, q1, q2, q3⟩, qf⟩ := boxC hB1 hN; clear hN hB1; have hB2 := hB2x.alloc (Nat.succ_le_of_lt hlt) (.cells #[.string xp, .int .i64 xk, .string xt, .bool xo] 28); clear hB2x)
    | (go_at_call 26; refine (hge _ p cap (base1 hB2) (HL.out.kept (base1 hB2))).mono ?_; clear hge; rintro rr w4 ⟨rfl, hN⟩; clear hne hlt q0 q1 q2 q3 qf; obtain ⟨hB4x, hne, hlt, ⟨q0, q1, q2, q3⟩, qf⟩ := boxC hB2 hN; clear hN hB2; have HL4 : Aside (Lies w4 p l1) := HL.out.kept (base1 hB4x))
    | (go_at_call 72; refine (hwi _ p cap (((base1 hB4x).setCell (Nat.le_refl _) (.bool true)).alloc ((base1 hB4x).setCell (Nat.le_refl _) (.bool true)).size (.cells #[.string zp, .int .i64 zk, .string zt, .bool true] 28)) (HL.out.kept (((base1 hB4x).setCell (Nat.le_refl _) (.bool true)).alloc ((base1 hB4x).setCell (Nat.le_refl _) (.bool true)).size (.cells #[.string zp, .int .i64 zk, .string zt, .bool true] 28)))).mono ?_; clear hwi; rintro rr w6 ⟨⟨v6, rfl, hR6⟩, hN⟩; have HB6 : Aside (Below w.heap.size w w6) := Below.onto (((base1 hB4x).setCell (Nat.le_refl _) (.bool true)).alloc ((base1 hB4x).setCell (Nat.le_refl _) (.bool true)).size (.cells #[.string zp, .int .i64 zk, .string zt, .bool true] 28)) hN; have HR6 : Aside (Rows w6 w.heap.size v6 rl) := hR6.mono (((base1 hB4x).setCell (Nat.le_refl _) (.bool true)).alloc ((base1 hB4x).setCell (Nat.le_refl _) (.bool true)).size (.cells #[.string zp, .int .i64 zk, .string zt, .bool true] 28)).size; clear hR6 hN))
  go_ret
  exact ⟨⟨_, rfl, HR6.out⟩, HB6.out⟩
set_option maxHeartbeats 1000000 in
set_option maxRecDepth 100000 in
theorem su_A0D2 (l1 rl : List Ent) (n1 : Nat) (hn1 : n1 = l1.length) (ep et : ByteArray) (p : Option Addr) (n cap : Nat) (w : World) (hcu : RefCu ep) (xp xt : ByteArray) (xk : Int) (xo : Bool) (hgd : RefGd w ep p n cap xp xk xt xo true) (zp zt : ByteArray) (zk : Int) (hL : Lies w p l1) (hnn : n = n1) (hge : SuGet w ep l1 n1 zp zk zt false true) (hwi : SuWith w (.agg #[.string ep, .int .i64 2, .string et, .bool (zk == 4)]) l1 n1 rl) (hdir : (cutL ep.data.toList).1 = []) :
    Calls Tryz.prog 34 #[.slice p n cap, .agg #[.string ep, .int .i64 2, .string et, .bool false]] w (RowsPost rl w) := by
  have HBX : Aside (Below (w.heap.size + 1) (w.alloc (.cells #[.string ep, .int .i64 2, .string et, .bool false] 28)) (w.alloc (.cells #[.string ep, .int .i64 2, .string et, .bool false] 28))) := Below.refl _ _
  have HN1 : Aside (n1 = l1.length) := hn1
  have HD : Aside ((cutL ep.data.toList).1 = []) := hdir
  clear hn1 hdir
  have HL : Aside (Lies w p l1) := hL
  subst hnn
  clear hL
  go_enter Tryz.func34, Tryz.ntmps34
  go_wp2_with (first
    | (go_at_call 53; refine (hcu _).mono ?_; clear hcu; rintro rr w1 ⟨⟨d, nm, rfl, hd, hnm⟩, hG1⟩; clear hnm; obtain ⟨hB1, hne, hlt, ⟨q0, q1, q2, q3⟩, qf⟩ := boxC HBX.out hG1.below; clear hG1; have HDD : Aside (d.data.toList = (cutL ep.data.toList).1) := hd; clear hd; have hdd := empty_of (HDD.out.trans HD.out))
    | (go_at_call 26; refine (hgd _ d HDD.out (base1 hB1)).mono ?_; clear hgd; rintro rr w2 ⟨rfl, hN⟩; clear hne hlt q0 q1 q2 q3 qf; obtain ⟨hB2x, hne, hlt, ⟨q0, q1, q2, q3⟩, qf⟩ := boxC hB1 hN; clear hN hB1; have hB2 := hB2x.alloc (Nat.succ_le_of_lt hlt) (.cells #[.string xp, .int .i64 xk, .string xt, .bool xo] 28); clear hB2x)
    | (go_at_call 26; refine (hge _ p cap (base1 hB2) (HL.out.kept (base1 hB2))).mono ?_; clear hge; rintro rr w4 ⟨rfl, hN⟩; clear hne hlt q0 q1 q2 q3 qf; obtain ⟨hB4x, hne, hlt, ⟨q0, q1, q2, q3⟩, qf⟩ := boxC hB2 hN; clear hN hB2; have HL4 : Aside (Lies w4 p l1) := HL.out.kept (base1 hB4x))
    | (go_at_call 72; refine (hwi _ p cap (((base1 hB4x).setCell (Nat.le_refl _) (.bool (zk == 4))).alloc ((base1 hB4x).setCell (Nat.le_refl _) (.bool (zk == 4))).size (.cells #[.string zp, .int .i64 zk, .string zt, .bool false] 28)) (HL.out.kept (((base1 hB4x).setCell (Nat.le_refl _) (.bool (zk == 4))).alloc ((base1 hB4x).setCell (Nat.le_refl _) (.bool (zk == 4))).size (.cells #[.string zp, .int .i64 zk, .string zt, .bool false] 28)))).mono ?_; clear hwi; rintro rr w6 ⟨⟨v6, rfl, hR6⟩, hN⟩; have HB6 : Aside (Below w.heap.size w w6) := Below.onto (((base1 hB4x).setCell (Nat.le_refl _) (.bool (zk == 4))).alloc ((base1 hB4x).setCell (Nat.le_refl _) (.bool (zk == 4))).size (.cells #[.string zp, .int .i64 zk, .string zt, .bool false] 28)) hN; have HR6 : Aside (Rows w6 w.heap.size v6 rl) := hR6.mono (((base1 hB4x).setCell (Nat.le_refl _) (.bool (zk == 4))).alloc ((base1 hB4x).setCell (Nat.le_refl _) (.bool (zk == 4))).size (.cells #[.string zp, .int .i64 zk, .string zt, .bool false] 28)).size; clear hR6 hN))
  go_ret
  exact ⟨⟨_, rfl, HR6.out⟩, HB6.out⟩
set_option maxHeartbeats 1000000 in
set_option maxRecDepth 100000 in
theorem su_A1N (l1 rl : List Ent) (n1 : Nat) (hn1 : n1 = l1.length) (ep et : ByteArray) (ek : Int) (p : Option Addr) (n cap : Nat) (w : World) (hcu : RefCu ep) (xp xt : ByteArray) (xo : Bool) (hgd : RefGd w ep p n cap xp 2 xt xo true) (zp zt : ByteArray) (zk : Int) (zo : Bool) (hL : Lies w p l1) (hnn : n = n1) (hge : SuGet w ep l1 n1 zp zk zt zo false) (hwi : SuWith w (.agg #[.string ep, .int .i64 ek, .string et, .bool false]) l1 n1 rl) (hdir : ¬ (cutL ep.data.toList).1 = []) :
    Calls Tryz.prog 34 #[.slice p n cap, .agg #[.string ep, .int .i64 ek, .string et, .bool false]] w (RowsPost rl w) := by
  have HBX : Aside (Below (w.heap.size + 1) (w.alloc (.cells #[.string ep, .int .i64 ek, .string et, .bool false] 28)) (w.alloc (.cells #[.string ep, .int .i64 ek, .string et, .bool false] 28))) := Below.refl _ _
  have HN1 : Aside (n1 = l1.length) := hn1
  have HD : Aside (¬ (cutL ep.data.toList).1 = []) := hdir
  clear hn1 hdir
  have HL : Aside (Lies w p l1) := hL
  subst hnn
  clear hL
  go_enter Tryz.func34, Tryz.ntmps34
  go_wp2_with (first
    | (go_at_call 53; refine (hcu _).mono ?_; clear hcu; rintro rr w1 ⟨⟨d, nm, rfl, hd, hnm⟩, hG1⟩; clear hnm; obtain ⟨hB1, hne, hlt, ⟨q0, q1, q2, q3⟩, qf⟩ := boxC HBX.out hG1.below; clear hG1; have HDD : Aside (d.data.toList = (cutL ep.data.toList).1) := hd; clear hd; have hdd := empty_not (d := d) (fun h => HD.out (HDD.out.symm.trans h)))
    | (go_at_call 26; refine (hgd _ d HDD.out (base1 hB1)).mono ?_; clear hgd; rintro rr w2 ⟨rfl, hN⟩; clear hne hlt q0 q1 q2 q3 qf; obtain ⟨hB2x, hne, hlt, ⟨q0, q1, q2, q3⟩, qf⟩ := boxC hB1 hN; clear hN hB1; have hB2 := hB2x.alloc (Nat.succ_le_of_lt hlt) (.cells #[.string xp, .int .i64 2, .string xt, .bool xo] 28); clear hB2x)
    | (go_at_call 26; refine (hge _ p cap (base1 hB2) (HL.out.kept (base1 hB2))).mono ?_; clear hge; rintro rr w4 ⟨rfl, hN⟩; clear hne hlt q0 q1 q2 q3 qf; obtain ⟨hB4x, hne, hlt, ⟨q0, q1, q2, q3⟩, qf⟩ := boxC hB2 hN; clear hN hB2; have HL4 : Aside (Lies w4 p l1) := HL.out.kept (base1 hB4x); have hB4 := hB4x.alloc (Nat.succ_le_of_lt hlt) (.cells #[.string zp, .int .i64 zk, .string zt, .bool zo] 28); clear hB4x)
    | (go_at_call 72; refine (hwi _ p cap (base1 hB4) (HL4.out.grown ((Grown.refl w4).alloc (.cells #[.string zp, .int .i64 zk, .string zt, .bool zo] 28)))).mono ?_; clear hwi; rintro rr w6 ⟨⟨v6, rfl, hR6⟩, hN⟩; have HB6 : Aside (Below w.heap.size w w6) := base1 (up1 hB4 hN); have HR6 : Aside (Rows w6 w.heap.size v6 rl) := hR6.mono (base1 hB4).size; clear hR6 hN))
  go_ret
  exact ⟨⟨_, rfl, HR6.out⟩, HB6.out⟩
set_option maxHeartbeats 1000000 in
set_option maxRecDepth 100000 in
theorem su_A1K (l1 rl : List Ent) (n1 : Nat) (hn1 : n1 = l1.length) (ep et : ByteArray) (ek : Int) (p : Option Addr) (n cap : Nat) (w : World) (hcu : RefCu ep) (xp xt : ByteArray) (xo : Bool) (hgd : RefGd w ep p n cap xp 2 xt xo true) (zp zt : ByteArray) (zk : Int) (zo : Bool) (hL : Lies w p l1) (hnn : n = n1) (hge : SuGet w ep l1 n1 zp zk zt zo true) (hwi : SuWith w (.agg #[.string ep, .int .i64 ek, .string et, .bool false]) l1 n1 rl) (hdir : ¬ (cutL ep.data.toList).1 = []) (hek : ¬ ek = 2) :
    Calls Tryz.prog 34 #[.slice p n cap, .agg #[.string ep, .int .i64 ek, .string et, .bool false]] w (RowsPost rl w) := by
  have HBX : Aside (Below (w.heap.size + 1) (w.alloc (.cells #[.string ep, .int .i64 ek, .string et, .bool false] 28)) (w.alloc (.cells #[.string ep, .int .i64 ek, .string et, .bool false] 28))) := Below.refl _ _
  have HN1 : Aside (n1 = l1.length) := hn1
  have HD : Aside (¬ (cutL ep.data.toList).1 = []) := hdir
  clear hn1 hdir
  have HL : Aside (Lies w p l1) := hL
  subst hnn
  clear hL
  have hek' : (ek == 2) = false := beq_eq_false_iff_ne.2 hek
  go_enter Tryz.func34, Tryz.ntmps34
  go_wp2_with (first
    | (go_at_call 53; refine (hcu _).mono ?_; clear hcu; rintro rr w1 ⟨⟨d, nm, rfl, hd, hnm⟩, hG1⟩; clear hnm; obtain ⟨hB1, hne, hlt, ⟨q0, q1, q2, q3⟩, qf⟩ := boxC HBX.out hG1.below; clear hG1; have HDD : Aside (d.data.toList = (cutL ep.data.toList).1) := hd; clear hd; have hdd := empty_not (d := d) (fun h => HD.out (HDD.out.symm.trans h)))
    | (go_at_call 26; refine (hgd _ d HDD.out (base1 hB1)).mono ?_; clear hgd; rintro rr w2 ⟨rfl, hN⟩; clear hne hlt q0 q1 q2 q3 qf; obtain ⟨hB2x, hne, hlt, ⟨q0, q1, q2, q3⟩, qf⟩ := boxC hB1 hN; clear hN hB1; have hB2 := hB2x.alloc (Nat.succ_le_of_lt hlt) (.cells #[.string xp, .int .i64 2, .string xt, .bool xo] 28); clear hB2x)
    | (go_at_call 26; refine (hge _ p cap (base1 hB2) (HL.out.kept (base1 hB2))).mono ?_; clear hge; rintro rr w4 ⟨rfl, hN⟩; clear hne hlt q0 q1 q2 q3 qf; obtain ⟨hB4x, hne, hlt, ⟨q0, q1, q2, q3⟩, qf⟩ := boxC hB2 hN; clear hN hB2; have HL4 : Aside (Lies w4 p l1) := HL.out.kept (base1 hB4x); have hB4 := hB4x.alloc (Nat.succ_le_of_lt hlt) (.cells #[.string zp, .int .i64 zk, .string zt, .bool zo] 28); clear hB4x)
    | (go_at_call 72; refine (hwi _ p cap (base1 hB4) (HL4.out.grown ((Grown.refl w4).alloc (.cells #[.string zp, .int .i64 zk, .string zt, .bool zo] 28)))).mono ?_; clear hwi; rintro rr w6 ⟨⟨v6, rfl, hR6⟩, hN⟩; have HB6 : Aside (Below w.heap.size w w6) := base1 (up1 hB4 hN); have HR6 : Aside (Rows w6 w.heap.size v6 rl) := hR6.mono (base1 hB4).size; clear hR6 hN))
  go_ret
  exact ⟨⟨_, rfl, HR6.out⟩, HB6.out⟩
set_option maxHeartbeats 1000000 in
set_option maxRecDepth 100000 in
theorem su_A1D1 (l1 rl : List Ent) (n1 : Nat) (hn1 : n1 = l1.length) (ep et : ByteArray) (p : Option Addr) (n cap : Nat) (w : World) (hcu : RefCu ep) (xp xt : ByteArray) (xo : Bool) (hgd : RefGd w ep p n cap xp 2 xt xo true) (zp zt : ByteArray) (zk : Int) (hL : Lies w p l1) (hnn : n = n1) (hge : SuGet w ep l1 n1 zp zk zt true true) (hwi : SuWith w (.agg #[.string ep, .int .i64 2, .string et, .bool true]) l1 n1 rl) (hdir : ¬ (cutL ep.data.toList).1 = []) :
    Calls Tryz.prog 34 #[.slice p n cap, .agg #[.string ep, .int .i64 2, .string et, .bool false]] w (RowsPost rl w) := by
  have HBX : Aside (Below (w.heap.size + 1) (w.alloc (.cells #[.string ep, .int .i64 2, .string et, .bool false] 28)) (w.alloc (.cells #[.string ep, .int .i64 2, .string et, .bool false] 28))) := Below.refl _ _
  have HN1 : Aside (n1 = l1.length) := hn1
  have HD : Aside (¬ (cutL ep.data.toList).1 = []) := hdir
  clear hn1 hdir
  have HL : Aside (Lies w p l1) := hL
  subst hnn
  clear hL
  go_enter Tryz.func34, Tryz.ntmps34
  go_wp2_with (first
    | (go_at_call 53; refine (hcu _).mono ?_; clear hcu; rintro rr w1 ⟨⟨d, nm, rfl, hd, hnm⟩, hG1⟩; clear hnm; obtain ⟨hB1, hne, hlt, ⟨q0, q1, q2, q3⟩, qf⟩ := boxC HBX.out hG1.below; clear hG1; have HDD : Aside (d.data.toList = (cutL ep.data.toList).1) := hd; clear hd; have hdd := empty_not (d := d) (fun h => HD.out (HDD.out.symm.trans h)))
    | (go_at_call 26; refine (hgd _ d HDD.out (base1 hB1)).mono ?_; clear hgd; rintro rr w2 ⟨rfl, hN⟩; clear hne hlt q0 q1 q2 q3 qf; obtain ⟨hB2x, hne, hlt, ⟨q0, q1, q2, q3⟩, qf⟩ := boxC hB1 hN; clear hN hB1; have hB2 := hB2x.alloc (Nat.succ_le_of_lt hlt) (.cells #[.string xp, .int .i64 2, .string xt, .bool xo] 28); clear hB2x)
    | (go_at_call 26; refine (hge _ p cap (base1 hB2) (HL.out.kept (base1 hB2))).mono ?_; clear hge; rintro rr w4 ⟨rfl, hN⟩; clear hne hlt q0 q1 q2 q3 qf; obtain ⟨hB4x, hne, hlt, ⟨q0, q1, q2, q3⟩, qf⟩ := boxC hB2 hN; clear hN hB2; have HL4 : Aside (Lies w4 p l1) := HL.out.kept (base1 hB4x))
    | (go_at_call 72; refine (hwi _ p cap (((base1 hB4x).setCell (Nat.le_refl _) (.bool true)).alloc ((base1 hB4x).setCell (Nat.le_refl _) (.bool true)).size (.cells #[.string zp, .int .i64 zk, .string zt, .bool true] 28)) (HL.out.kept (((base1 hB4x).setCell (Nat.le_refl _) (.bool true)).alloc ((base1 hB4x).setCell (Nat.le_refl _) (.bool true)).size (.cells #[.string zp, .int .i64 zk, .string zt, .bool true] 28)))).mono ?_; clear hwi; rintro rr w6 ⟨⟨v6, rfl, hR6⟩, hN⟩; have HB6 : Aside (Below w.heap.size w w6) := Below.onto (((base1 hB4x).setCell (Nat.le_refl _) (.bool true)).alloc ((base1 hB4x).setCell (Nat.le_refl _) (.bool true)).size (.cells #[.string zp, .int .i64 zk, .string zt, .bool true] 28)) hN; have HR6 : Aside (Rows w6 w.heap.size v6 rl) := hR6.mono (((base1 hB4x).setCell (Nat.le_refl _) (.bool true)).alloc ((base1 hB4x).setCell (Nat.le_refl _) (.bool true)).size (.cells #[.string zp, .int .i64 zk, .string zt, .bool true] 28)).size; clear hR6 hN))
  go_ret
  exact ⟨⟨_, rfl, HR6.out⟩, HB6.out⟩
set_option maxHeartbeats 1000000 in
set_option maxRecDepth 100000 in
theorem su_A1D2 (l1 rl : List Ent) (n1 : Nat) (hn1 : n1 = l1.length) (ep et : ByteArray) (p : Option Addr) (n cap : Nat) (w : World) (hcu : RefCu ep) (xp xt : ByteArray) (xo : Bool) (hgd : RefGd w ep p n cap xp 2 xt xo true) (zp zt : ByteArray) (zk : Int) (hL : Lies w p l1) (hnn : n = n1) (hge : SuGet w ep l1 n1 zp zk zt false true) (hwi : SuWith w (.agg #[.string ep, .int .i64 2, .string et, .bool (zk == 4)]) l1 n1 rl) (hdir : ¬ (cutL ep.data.toList).1 = []) :
    Calls Tryz.prog 34 #[.slice p n cap, .agg #[.string ep, .int .i64 2, .string et, .bool false]] w (RowsPost rl w) := by
  have HBX : Aside (Below (w.heap.size + 1) (w.alloc (.cells #[.string ep, .int .i64 2, .string et, .bool false] 28)) (w.alloc (.cells #[.string ep, .int .i64 2, .string et, .bool false] 28))) := Below.refl _ _
  have HN1 : Aside (n1 = l1.length) := hn1
  have HD : Aside (¬ (cutL ep.data.toList).1 = []) := hdir
  clear hn1 hdir
  have HL : Aside (Lies w p l1) := hL
  subst hnn
  clear hL
  go_enter Tryz.func34, Tryz.ntmps34
  go_wp2_with (first
    | (go_at_call 53; refine (hcu _).mono ?_; clear hcu; rintro rr w1 ⟨⟨d, nm, rfl, hd, hnm⟩, hG1⟩; clear hnm; obtain ⟨hB1, hne, hlt, ⟨q0, q1, q2, q3⟩, qf⟩ := boxC HBX.out hG1.below; clear hG1; have HDD : Aside (d.data.toList = (cutL ep.data.toList).1) := hd; clear hd; have hdd := empty_not (d := d) (fun h => HD.out (HDD.out.symm.trans h)))
    | (go_at_call 26; refine (hgd _ d HDD.out (base1 hB1)).mono ?_; clear hgd; rintro rr w2 ⟨rfl, hN⟩; clear hne hlt q0 q1 q2 q3 qf; obtain ⟨hB2x, hne, hlt, ⟨q0, q1, q2, q3⟩, qf⟩ := boxC hB1 hN; clear hN hB1; have hB2 := hB2x.alloc (Nat.succ_le_of_lt hlt) (.cells #[.string xp, .int .i64 2, .string xt, .bool xo] 28); clear hB2x)
    | (go_at_call 26; refine (hge _ p cap (base1 hB2) (HL.out.kept (base1 hB2))).mono ?_; clear hge; rintro rr w4 ⟨rfl, hN⟩; clear hne hlt q0 q1 q2 q3 qf; obtain ⟨hB4x, hne, hlt, ⟨q0, q1, q2, q3⟩, qf⟩ := boxC hB2 hN; clear hN hB2; have HL4 : Aside (Lies w4 p l1) := HL.out.kept (base1 hB4x))
    | (go_at_call 72; refine (hwi _ p cap (((base1 hB4x).setCell (Nat.le_refl _) (.bool (zk == 4))).alloc ((base1 hB4x).setCell (Nat.le_refl _) (.bool (zk == 4))).size (.cells #[.string zp, .int .i64 zk, .string zt, .bool false] 28)) (HL.out.kept (((base1 hB4x).setCell (Nat.le_refl _) (.bool (zk == 4))).alloc ((base1 hB4x).setCell (Nat.le_refl _) (.bool (zk == 4))).size (.cells #[.string zp, .int .i64 zk, .string zt, .bool false] 28)))).mono ?_; clear hwi; rintro rr w6 ⟨⟨v6, rfl, hR6⟩, hN⟩; have HB6 : Aside (Below w.heap.size w w6) := Below.onto (((base1 hB4x).setCell (Nat.le_refl _) (.bool (zk == 4))).alloc ((base1 hB4x).setCell (Nat.le_refl _) (.bool (zk == 4))).size (.cells #[.string zp, .int .i64 zk, .string zt, .bool false] 28)) hN; have HR6 : Aside (Rows w6 w.heap.size v6 rl) := hR6.mono (((base1 hB4x).setCell (Nat.le_refl _) (.bool (zk == 4))).alloc ((base1 hB4x).setCell (Nat.le_refl _) (.bool (zk == 4))).size (.cells #[.string zp, .int .i64 zk, .string zt, .bool false] 28)).size; clear hR6 hN))
  go_ret
  exact ⟨⟨_, rfl, HR6.out⟩, HB6.out⟩
set_option maxHeartbeats 1000000 in
set_option maxRecDepth 100000 in
theorem su_B0N (l1 rl : List Ent) (n1 : Nat) (hn1 : n1 = l1.length) (ep et : ByteArray) (ek : Int) (p : Option Addr) (n cap : Nat) (w : World) (hcu : RefCu ep) (xp xt : ByteArray) (xk : Int) (xo : Bool) (hgd : RefGd w ep p n cap xp xk xt xo false) (zp zt : ByteArray) (zk : Int) (zo : Bool) (hrec : SuRec w ep p n cap l1) (hge : SuGet w ep l1 n1 zp zk zt zo false) (hwi : SuWith w (.agg #[.string ep, .int .i64 ek, .string et, .bool false]) l1 n1 rl) (hdir : ¬ (cutL ep.data.toList).1 = []) :
    Calls Tryz.prog 34 #[.slice p n cap, .agg #[.string ep, .int .i64 ek, .string et, .bool false]] w (RowsPost rl w) := by
  have HBX : Aside (Below (w.heap.size + 1) (w.alloc (.cells #[.string ep, .int .i64 ek, .string et, .bool false] 28)) (w.alloc (.cells #[.string ep, .int .i64 ek, .string et, .bool false] 28))) := Below.refl _ _
  have HN1 : Aside (n1 = l1.length) := hn1
  have HD : Aside (¬ (cutL ep.data.toList).1 = []) := hdir
  clear hn1 hdir
  go_enter Tryz.func34, Tryz.ntmps34
  go_wp2_with (first
    | (go_at_call 53; refine (hcu _).mono ?_; clear hcu; rintro rr w1 ⟨⟨d, nm, rfl, hd, hnm⟩, hG1⟩; clear hnm; obtain ⟨hB1, hne, hlt, ⟨q0, q1, q2, q3⟩, qf⟩ := boxC HBX.out hG1.below; clear hG1; have HDD : Aside (d.data.toList = (cutL ep.data.toList).1) := hd; clear hd; have hdd := empty_not (d := d) (fun h => HD.out (HDD.out.symm.trans h)))
    | (go_at_call 26; refine (hgd _ d HDD.out (base1 hB1)).mono ?_; clear hgd; rintro rr w2 ⟨rfl, hN⟩; clear hne hlt q0 q1 q2 q3 qf; obtain ⟨hB2x, hne, hlt, ⟨q0, q1, q2, q3⟩, qf⟩ := boxC hB1 hN; clear hN hB1; have hB2 := hB2x.alloc (Nat.succ_le_of_lt hlt) (.cells #[.string xp, .int .i64 xk, .string xt, .bool xo] 28); clear hB2x)
    | (go_at_call 34; refine (hrec _ d HDD.out (base1 hB2)).mono ?_; clear hrec; intro rr w3 hP3; obtain ⟨p3, c3, rfl, HL3, HN3⟩ := rows_parts HN1.out hP3; clear hP3; have HFAR : Aside (w.heap.size < (w2.alloc (.cells #[.string xp, .int .i64 xk, .string xt, .bool xo] 28)).heap.size) := (by show _ < _; simp; omega); clear hne hlt q0 q1 q2 q3 qf; obtain ⟨hB3, hne, hlt, ⟨q0, q1, q2, q3⟩, qf⟩ := boxC hB2 HN3.out; clear HN3 hB2)
    | (go_at_call 26; refine (hge _ p3 c3 (base1 hB3) HL3.out.1).mono ?_; clear hge; rintro rr w4 ⟨rfl, hN⟩; have HL4 : Aside (Lies w4 p3 l1) := HL3.out.1.kept hN; clear hne hlt q0 q1 q2 q3 qf; obtain ⟨hB4x, hne, hlt, ⟨q0, q1, q2, q3⟩, qf⟩ := boxC hB3 hN; clear hN hB3; have hB4 := hB4x.alloc (Nat.succ_le_of_lt hlt) (.cells #[.string zp, .int .i64 zk, .string zt, .bool zo] 28); clear hB4x)
    | (go_at_call 72; refine (hwi _ p3 c3 (base1 hB4) (HL4.out.grown ((Grown.refl w4).alloc (.cells #[.string zp, .int .i64 zk, .string zt, .bool zo] 28)))).mono ?_; clear hwi; rintro rr w6 ⟨⟨v6, rfl, hR6⟩, hN⟩; have HB6 : Aside (Below w.heap.size w w6) := base1 (up1 hB4 hN); have HR6 : Aside (Rows w6 w.heap.size v6 rl) := hR6.mono (base1 hB4).size; clear hR6 hN))
  go_ret
  exact ⟨⟨_, rfl, HR6.out⟩, HB6.out⟩
set_option maxHeartbeats 1000000 in
set_option maxRecDepth 100000 in
theorem su_B0K (l1 rl : List Ent) (n1 : Nat) (hn1 : n1 = l1.length) (ep et : ByteArray) (ek : Int) (p : Option Addr) (n cap : Nat) (w : World) (hcu : RefCu ep) (xp xt : ByteArray) (xk : Int) (xo : Bool) (hgd : RefGd w ep p n cap xp xk xt xo false) (zp zt : ByteArray) (zk : Int) (zo : Bool) (hrec : SuRec w ep p n cap l1) (hge : SuGet w ep l1 n1 zp zk zt zo true) (hwi : SuWith w (.agg #[.string ep, .int .i64 ek, .string et, .bool false]) l1 n1 rl) (hdir : ¬ (cutL ep.data.toList).1 = []) (hek : ¬ ek = 2) :
    Calls Tryz.prog 34 #[.slice p n cap, .agg #[.string ep, .int .i64 ek, .string et, .bool false]] w (RowsPost rl w) := by
  have HBX : Aside (Below (w.heap.size + 1) (w.alloc (.cells #[.string ep, .int .i64 ek, .string et, .bool false] 28)) (w.alloc (.cells #[.string ep, .int .i64 ek, .string et, .bool false] 28))) := Below.refl _ _
  have HN1 : Aside (n1 = l1.length) := hn1
  have HD : Aside (¬ (cutL ep.data.toList).1 = []) := hdir
  clear hn1 hdir
  have hek' : (ek == 2) = false := beq_eq_false_iff_ne.2 hek
  go_enter Tryz.func34, Tryz.ntmps34
  go_wp2_with (first
    | (go_at_call 53; refine (hcu _).mono ?_; clear hcu; rintro rr w1 ⟨⟨d, nm, rfl, hd, hnm⟩, hG1⟩; clear hnm; obtain ⟨hB1, hne, hlt, ⟨q0, q1, q2, q3⟩, qf⟩ := boxC HBX.out hG1.below; clear hG1; have HDD : Aside (d.data.toList = (cutL ep.data.toList).1) := hd; clear hd; have hdd := empty_not (d := d) (fun h => HD.out (HDD.out.symm.trans h)))
    | (go_at_call 26; refine (hgd _ d HDD.out (base1 hB1)).mono ?_; clear hgd; rintro rr w2 ⟨rfl, hN⟩; clear hne hlt q0 q1 q2 q3 qf; obtain ⟨hB2x, hne, hlt, ⟨q0, q1, q2, q3⟩, qf⟩ := boxC hB1 hN; clear hN hB1; have hB2 := hB2x.alloc (Nat.succ_le_of_lt hlt) (.cells #[.string xp, .int .i64 xk, .string xt, .bool xo] 28); clear hB2x)
    | (go_at_call 34; refine (hrec _ d HDD.out (base1 hB2)).mono ?_; clear hrec; intro rr w3 hP3; obtain ⟨p3, c3, rfl, HL3, HN3⟩ := rows_parts HN1.out hP3; clear hP3; have HFAR : Aside (w.heap.size < (w2.alloc (.cells #[.string xp, .int .i64 xk, .string xt, .bool xo] 28)).heap.size) := (by show _ < _; simp; omega); clear hne hlt q0 q1 q2 q3 qf; obtain ⟨hB3, hne, hlt, ⟨q0, q1, q2, q3⟩, qf⟩ := boxC hB2 HN3.out; clear HN3 hB2)
    | (go_at_call 26; refine (hge _ p3 c3 (base1 hB3) HL3.out.1).mono ?_; clear hge; rintro rr w4 ⟨rfl, hN⟩; have HL4 : Aside (Lies w4 p3 l1) := HL3.out.1.kept hN; clear hne hlt q0 q1 q2 q3 qf; obtain ⟨hB4x, hne, hlt, ⟨q0, q1, q2, q3⟩, qf⟩ := boxC hB3 hN; clear hN hB3; have hB4 := hB4x.alloc (Nat.succ_le_of_lt hlt) (.cells #[.string zp, .int .i64 zk, .string zt, .bool zo] 28); clear hB4x)
    | (go_at_call 72; refine (hwi _ p3 c3 (base1 hB4) (HL4.out.grown ((Grown.refl w4).alloc (.cells #[.string zp, .int .i64 zk, .string zt, .bool zo] 28)))).mono ?_; clear hwi; rintro rr w6 ⟨⟨v6, rfl, hR6⟩, hN⟩; have HB6 : Aside (Below w.heap.size w w6) := base1 (up1 hB4 hN); have HR6 : Aside (Rows w6 w.heap.size v6 rl) := hR6.mono (base1 hB4).size; clear hR6 hN))
  go_ret
  exact ⟨⟨_, rfl, HR6.out⟩, HB6.out⟩
set_option maxHeartbeats 1000000 in
set_option maxRecDepth 100000 in
theorem su_B0D1 (l1 rl : List Ent) (n1 : Nat) (hn1 : n1 = l1.length) (ep et : ByteArray) (p : Option Addr) (n cap : Nat) (w : World) (hcu : RefCu ep) (xp xt : ByteArray) (xk : Int) (xo : Bool) (hgd : RefGd w ep p n cap xp xk xt xo false) (zp zt : ByteArray) (zk : Int) (hrec : SuRec w ep p n cap l1) (hge : SuGet w ep l1 n1 zp zk zt true true) (hwi : SuWith w (.agg #[.string ep, .int .i64 2, .string et, .bool true]) l1 n1 rl) (hdir : ¬ (cutL ep.data.toList).1 = []) :
    Calls Tryz.prog 34 #[.slice p n cap, .agg #[.string ep, .int .i64 2, .string et, .bool false]] w (RowsPost rl w) := by
  have HBX : Aside (Below (w.heap.size + 1) (w.alloc (.cells #[.string ep, .int .i64 2, .string et, .bool false] 28)) (w.alloc (.cells #[.string ep, .int .i64 2, .string et, .bool false] 28))) := Below.refl _ _
  have HN1 : Aside (n1 = l1.length) := hn1
  have HD : Aside (¬ (cutL ep.data.toList).1 = []) := hdir
  clear hn1 hdir
  go_enter Tryz.func34, Tryz.ntmps34
  go_wp2_with (first
    | (go_at_call 53; refine (hcu _).mono ?_; clear hcu; rintro rr w1 ⟨⟨d, nm, rfl, hd, hnm⟩, hG1⟩; clear hnm; obtain ⟨hB1, hne, hlt, ⟨q0, q1, q2, q3⟩, qf⟩ := boxC HBX.out hG1.below; clear hG1; have HDD : Aside (d.data.toList = (cutL ep.data.toList).1) := hd; clear hd; have hdd := empty_not (d := d) (fun h => HD.out (HDD.out.symm.trans h)))
    | (go_at_call 26; refine (hgd _ d HDD.out (base1 hB1)).mono ?_; clear hgd; rintro rr w2 ⟨rfl, hN⟩; clear hne hlt q0 q1 q2 q3 qf; obtain ⟨hB2x, hne, hlt, ⟨q0, q1, q2, q3⟩, qf⟩ := boxC hB1 hN; clear hN hB1; have hB2 := hB2x.alloc (Nat.succ_le_of_lt hlt) (.cells #[.string xp, .int .i64 xk, .string xt, .bool xo] 28); clear hB2x)
    | (go_at_call 34; refine (hrec _ d HDD.out (base1 hB2)).mono ?_; clear hrec; intro rr w3 hP3; obtain ⟨p3, c3, rfl, HL3, HN3⟩ := rows_parts HN1.out hP3; clear hP3; have HFAR : Aside (w.heap.size < (w2.alloc (.cells #[.string xp, .int .i64 xk, .string xt, .bool xo] 28)).heap.size) := (by show _ < _; simp; omega); clear hne hlt q0 q1 q2 q3 qf; obtain ⟨hB3, hne, hlt, ⟨q0, q1, q2, q3⟩, qf⟩ := boxC hB2 HN3.out; clear HN3 hB2)
    | (go_at_call 26; refine (hge _ p3 c3 (base1 hB3) HL3.out.1).mono ?_; clear hge; rintro rr w4 ⟨rfl, hN⟩; have HL4 : Aside (Lies w4 p3 l1) := HL3.out.1.kept hN; clear hne hlt q0 q1 q2 q3 qf; obtain ⟨hB4x, hne, hlt, ⟨q0, q1, q2, q3⟩, qf⟩ := boxC hB3 hN; clear hN hB3)
    | (go_at_call 72; refine (hwi _ p3 c3 (((base1 hB4x).setCell (Nat.le_refl _) (.bool true)).alloc ((base1 hB4x).setCell (Nat.le_refl _) (.bool true)).size (.cells #[.string zp, .int .i64 zk, .string zt, .bool true] 28)) ((lies_far HL4.out ⟨w.heap.size, 3, none⟩ (.bool true) (fun b off s h => by have := HL3.out.2 b off s h; have := HFAR.out; simp only; omega)).grown ((Grown.refl _).alloc (.cells #[.string zp, .int .i64 zk, .string zt, .bool true] 28)))).mono ?_; clear hwi; rintro rr w6 ⟨⟨v6, rfl, hR6⟩, hN⟩; have HB6 : Aside (Below w.heap.size w w6) := Below.onto (((base1 hB4x).setCell (Nat.le_refl _) (.bool true)).alloc ((base1 hB4x).setCell (Nat.le_refl _) (.bool true)).size (.cells #[.string zp, .int .i64 zk, .string zt, .bool true] 28)) hN; have HR6 : Aside (Rows w6 w.heap.size v6 rl) := hR6.mono (((base1 hB4x).setCell (Nat.le_refl _) (.bool true)).alloc ((base1 hB4x).setCell (Nat.le_refl _) (.bool true)).size (.cells #[.string zp, .int .i64 zk, .string zt, .bool true] 28)).size; clear hR6 hN))
  go_ret
  exact ⟨⟨_, rfl, HR6.out⟩, HB6.out⟩
set_option maxHeartbeats 1000000 in
set_option maxRecDepth 100000 in
theorem su_B0D2 (l1 rl : List Ent) (n1 : Nat) (hn1 : n1 = l1.length) (ep et : ByteArray) (p : Option Addr) (n cap : Nat) (w : World) (hcu : RefCu ep) (xp xt : ByteArray) (xk : Int) (xo : Bool) (hgd : RefGd w ep p n cap xp xk xt xo false) (zp zt : ByteArray) (zk : Int) (hrec : SuRec w ep p n cap l1) (hge : SuGet w ep l1 n1 zp zk zt false true) (hwi : SuWith w (.agg #[.string ep, .int .i64 2, .string et, .bool (zk == 4)]) l1 n1 rl) (hdir : ¬ (cutL ep.data.toList).1 = []) :
    Calls Tryz.prog 34 #[.slice p n cap, .agg #[.string ep, .int .i64 2, .string et, .bool false]] w (RowsPost rl w) := by
  have HBX : Aside (Below (w.heap.size + 1) (w.alloc (.cells #[.string ep, .int .i64 2, .string et, .bool false] 28)) (w.alloc (.cells #[.string ep, .int .i64 2, .string et, .bool false] 28))) := Below.refl _ _
  have HN1 : Aside (n1 = l1.length) := hn1
  have HD : Aside (¬ (cutL ep.data.toList).1 = []) := hdir
  clear hn1 hdir
  go_enter Tryz.func34, Tryz.ntmps34
  go_wp2_with (first
    | (go_at_call 53; refine (hcu _).mono ?_; clear hcu; rintro rr w1 ⟨⟨d, nm, rfl, hd, hnm⟩, hG1⟩; clear hnm; obtain ⟨hB1, hne, hlt, ⟨q0, q1, q2, q3⟩, qf⟩ := boxC HBX.out hG1.below; clear hG1; have HDD : Aside (d.data.toList = (cutL ep.data.toList).1) := hd; clear hd; have hdd := empty_not (d := d) (fun h => HD.out (HDD.out.symm.trans h)))
    | (go_at_call 26; refine (hgd _ d HDD.out (base1 hB1)).mono ?_; clear hgd; rintro rr w2 ⟨rfl, hN⟩; clear hne hlt q0 q1 q2 q3 qf; obtain ⟨hB2x, hne, hlt, ⟨q0, q1, q2, q3⟩, qf⟩ := boxC hB1 hN; clear hN hB1; have hB2 := hB2x.alloc (Nat.succ_le_of_lt hlt) (.cells #[.string xp, .int .i64 xk, .string xt, .bool xo] 28); clear hB2x)
    | (go_at_call 34; refine (hrec _ d HDD.out (base1 hB2)).mono ?_; clear hrec; intro rr w3 hP3; obtain ⟨p3, c3, rfl, HL3, HN3⟩ := rows_parts HN1.out hP3; clear hP3; have HFAR : Aside (w.heap.size < (w2.alloc (.cells #[.string xp, .int .i64 xk, .string xt, .bool xo] 28)).heap.size) := (by show _ < _; simp; omega); clear hne hlt q0 q1 q2 q3 qf; obtain ⟨hB3, hne, hlt, ⟨q0, q1, q2, q3⟩, qf⟩ := boxC hB2 HN3.out; clear HN3 hB2)
    | (go_at_call 26; refine (hge _ p3 c3 (base1 hB3) HL3.out.1).mono ?_; clear hge; rintro rr w4 ⟨rfl, hN⟩; have HL4 : Aside (Lies w4 p3 l1) := HL3.out.1.kept hN; clear hne hlt q0 q1 q2 q3 qf; obtain ⟨hB4x, hne, hlt, ⟨q0, q1, q2, q3⟩, qf⟩ := boxC hB3 hN; clear hN hB3)
    | (go_at_call 72; refine (hwi _ p3 c3 (((base1 hB4x).setCell (Nat.le_refl _) (.bool (zk == 4))).alloc ((base1 hB4x).setCell (Nat.le_refl _) (.bool (zk == 4))).size (.cells #[.string zp, .int .i64 zk, .string zt, .bool false] 28)) ((lies_far HL4.out ⟨w.heap.size, 3, none⟩ (.bool (zk == 4)) (fun b off s h => by have := HL3.out.2 b off s h; have := HFAR.out; simp only; omega)).grown ((Grown.refl _).alloc (.cells #[.string zp, .int .i64 zk, .string zt, .bool false] 28)))).mono ?_; clear hwi; rintro rr w6 ⟨⟨v6, rfl, hR6⟩, hN⟩; have HB6 : Aside (Below w.heap.size w w6) := Below.onto (((base1 hB4x).setCell (Nat.le_refl _) (.bool (zk == 4))).alloc ((base1 hB4x).setCell (Nat.le_refl _) (.bool (zk == 4))).size (.cells #[.string zp, .int .i64 zk, .string zt, .bool false] 28)) hN; have HR6 : Aside (Rows w6 w.heap.size v6 rl) := hR6.mono (((base1 hB4x).setCell (Nat.le_refl _) (.bool (zk == 4))).alloc ((base1 hB4x).setCell (Nat.le_refl _) (.bool (zk == 4))).size (.cells #[.string zp, .int .i64 zk, .string zt, .bool false] 28)).size; clear hR6 hN))
  go_ret
  exact ⟨⟨_, rfl, HR6.out⟩, HB6.out⟩
set_option maxHeartbeats 1000000 in
set_option maxRecDepth 100000 in
theorem su_B1N (l1 rl : List Ent) (n1 : Nat) (hn1 : n1 = l1.length) (ep et : ByteArray) (ek : Int) (p : Option Addr) (n cap : Nat) (w : World) (hcu : RefCu ep) (xp xt : ByteArray) (xk : Int) (xo : Bool) (hgd : RefGd w ep p n cap xp xk xt xo true) (zp zt : ByteArray) (zk : Int) (zo : Bool) (hrec : SuRec w ep p n cap l1) (hge : SuGet w ep l1 n1 zp zk zt zo false) (hwi : SuWith w (.agg #[.string ep, .int .i64 ek, .string et, .bool false]) l1 n1 rl) (hdir : ¬ (cutL ep.data.toList).1 = []) (hxk : ¬ xk = 2) :
    Calls Tryz.prog 34 #[.slice p n cap, .agg #[.string ep, .int .i64 ek, .string et, .bool false]] w (RowsPost rl w) := by
  have HBX : Aside (Below (w.heap.size + 1) (w.alloc (.cells #[.string ep, .int .i64 ek, .string et, .bool false] 28)) (w.alloc (.cells #[.string ep, .int .i64 ek, .string et, .bool false] 28))) := Below.refl _ _
  have HN1 : Aside (n1 = l1.length) := hn1
  have HD : Aside (¬ (cutL ep.data.toList).1 = []) := hdir
  clear hn1 hdir
  have hxk' : (xk != 2) = true := bne_iff_ne.2 hxk
  go_enter Tryz.func34, Tryz.ntmps34
  go_wp2_with (first
    | (go_at_call 53; refine (hcu _).mono ?_; clear hcu; rintro rr w1 ⟨⟨d, nm, rfl, hd, hnm⟩, hG1⟩; clear hnm; obtain ⟨hB1, hne, hlt, ⟨q0, q1, q2, q3⟩, qf⟩ := boxC HBX.out hG1.below; clear hG1; have HDD : Aside (d.data.toList = (cutL ep.data.toList).1) := hd; clear hd; have hdd := empty_not (d := d) (fun h => HD.out (HDD.out.symm.trans h)))
    | (go_at_call 26; refine (hgd _ d HDD.out (base1 hB1)).mono ?_; clear hgd; rintro rr w2 ⟨rfl, hN⟩; clear hne hlt q0 q1 q2 q3 qf; obtain ⟨hB2x, hne, hlt, ⟨q0, q1, q2, q3⟩, qf⟩ := boxC hB1 hN; clear hN hB1; have hB2 := hB2x.alloc (Nat.succ_le_of_lt hlt) (.cells #[.string xp, .int .i64 xk, .string xt, .bool xo] 28); clear hB2x)
    | (go_at_call 34; refine (hrec _ d HDD.out (base1 hB2)).mono ?_; clear hrec; intro rr w3 hP3; obtain ⟨p3, c3, rfl, HL3, HN3⟩ := rows_parts HN1.out hP3; clear hP3; have HFAR : Aside (w.heap.size < (w2.alloc (.cells #[.string xp, .int .i64 xk, .string xt, .bool xo] 28)).heap.size) := (by show _ < _; simp; omega); clear hne hlt q0 q1 q2 q3 qf; obtain ⟨hB3, hne, hlt, ⟨q0, q1, q2, q3⟩, qf⟩ := boxC hB2 HN3.out; clear HN3 hB2)
    | (go_at_call 26; refine (hge _ p3 c3 (base1 hB3) HL3.out.1).mono ?_; clear hge; rintro rr w4 ⟨rfl, hN⟩; have HL4 : Aside (Lies w4 p3 l1) := HL3.out.1.kept hN; clear hne hlt q0 q1 q2 q3 qf; obtain ⟨hB4x, hne, hlt, ⟨q0, q1, q2, q3⟩, qf⟩ := boxC hB3 hN; clear hN hB3; have hB4 := hB4x.alloc (Nat.succ_le_of_lt hlt) (.cells #[.string zp, .int .i64 zk, .string zt, .bool zo] 28); clear hB4x)
    | (go_at_call 72; refine (hwi _ p3 c3 (base1 hB4) (HL4.out.grown ((Grown.refl w4).alloc (.cells #[.string zp, .int .i64 zk, .string zt, .bool zo] 28)))).mono ?_; clear hwi; rintro rr w6 ⟨⟨v6, rfl, hR6⟩, hN⟩; have HB6 : Aside (Below w.heap.size w w6) := base1 (up1 hB4 hN); have HR6 : Aside (Rows w6 w.heap.size v6 rl) := hR6.mono (base1 hB4).size; clear hR6 hN))
  go_ret
  exact ⟨⟨_, rfl, HR6.out⟩, HB6.out⟩
set_option maxHeartbeats 1000000 in
set_option maxRecDepth 100000 in
theorem su_B1K (l1 rl : List Ent) (n1 : Nat) (hn1 : n1 = l1.length) (ep et : ByteArray) (ek : Int) (p : Option Addr) (n cap : Nat) (w : World) (hcu : RefCu ep) (xp xt : ByteArray) (xk : Int) (xo : Bool) (hgd : RefGd w ep p n cap xp xk xt xo true) (zp zt : ByteArray) (zk : Int) (zo : Bool) (hrec : SuRec w ep p n cap l1) (hge : SuGet w ep l1 n1 zp zk zt zo true) (hwi : SuWith w (.agg #[.string ep, .int .i64 ek, .string et, .bool false]) l1 n1 rl) (hdir : ¬ (cutL ep.data.toList).1 = []) (hxk : ¬ xk = 2) (hek : ¬ ek = 2) :
    Calls Tryz.prog 34 #[.slice p n cap, .agg #[.string ep, .int .i64 ek, .string et, .bool false]] w (RowsPost rl w) := by
  have HBX : Aside (Below (w.heap.size + 1) (w.alloc (.cells #[.string ep, .int .i64 ek, .string et, .bool false] 28)) (w.alloc (.cells #[.string ep, .int .i64 ek, .string et, .bool false] 28))) := Below.refl _ _
  have HN1 : Aside (n1 = l1.length) := hn1
  have HD : Aside (¬ (cutL ep.data.toList).1 = []) := hdir
  clear hn1 hdir
  have hxk' : (xk != 2) = true := bne_iff_ne.2 hxk
  have hek' : (ek == 2) = false := beq_eq_false_iff_ne.2 hek
  go_enter Tryz.func34, Tryz.ntmps34
  go_wp2_with (first
    | (go_at_call 53; refine (hcu _).mono ?_; clear hcu; rintro rr w1 ⟨⟨d, nm, rfl, hd, hnm⟩, hG1⟩; clear hnm; obtain ⟨hB1, hne, hlt, ⟨q0, q1, q2, q3⟩, qf⟩ := boxC HBX.out hG1.below; clear hG1; have HDD : Aside (d.data.toList = (cutL ep.data.toList).1) := hd; clear hd; have hdd := empty_not (d := d) (fun h => HD.out (HDD.out.symm.trans h)))
    | (go_at_call 26; refine (hgd _ d HDD.out (base1 hB1)).mono ?_; clear hgd; rintro rr w2 ⟨rfl, hN⟩; clear hne hlt q0 q1 q2 q3 qf; obtain ⟨hB2x, hne, hlt, ⟨q0, q1, q2, q3⟩, qf⟩ := boxC hB1 hN; clear hN hB1; have hB2 := hB2x.alloc (Nat.succ_le_of_lt hlt) (.cells #[.string xp, .int .i64 xk, .string xt, .bool xo] 28); clear hB2x)
    | (go_at_call 34; refine (hrec _ d HDD.out (base1 hB2)).mono ?_; clear hrec; intro rr w3 hP3; obtain ⟨p3, c3, rfl, HL3, HN3⟩ := rows_parts HN1.out hP3; clear hP3; have HFAR : Aside (w.heap.size < (w2.alloc (.cells #[.string xp, .int .i64 xk, .string xt, .bool xo] 28)).heap.size) := (by show _ < _; simp; omega); clear hne hlt q0 q1 q2 q3 qf; obtain ⟨hB3, hne, hlt, ⟨q0, q1, q2, q3⟩, qf⟩ := boxC hB2 HN3.out; clear HN3 hB2)
    | (go_at_call 26; refine (hge _ p3 c3 (base1 hB3) HL3.out.1).mono ?_; clear hge; rintro rr w4 ⟨rfl, hN⟩; have HL4 : Aside (Lies w4 p3 l1) := HL3.out.1.kept hN; clear hne hlt q0 q1 q2 q3 qf; obtain ⟨hB4x, hne, hlt, ⟨q0, q1, q2, q3⟩, qf⟩ := boxC hB3 hN; clear hN hB3; have hB4 := hB4x.alloc (Nat.succ_le_of_lt hlt) (.cells #[.string zp, .int .i64 zk, .string zt, .bool zo] 28); clear hB4x)
    | (go_at_call 72; refine (hwi _ p3 c3 (base1 hB4) (HL4.out.grown ((Grown.refl w4).alloc (.cells #[.string zp, .int .i64 zk, .string zt, .bool zo] 28)))).mono ?_; clear hwi; rintro rr w6 ⟨⟨v6, rfl, hR6⟩, hN⟩; have HB6 : Aside (Below w.heap.size w w6) := base1 (up1 hB4 hN); have HR6 : Aside (Rows w6 w.heap.size v6 rl) := hR6.mono (base1 hB4).size; clear hR6 hN))
  go_ret
  exact ⟨⟨_, rfl, HR6.out⟩, HB6.out⟩
set_option maxHeartbeats 1000000 in
set_option maxRecDepth 100000 in
theorem su_B1D1 (l1 rl : List Ent) (n1 : Nat) (hn1 : n1 = l1.length) (ep et : ByteArray) (p : Option Addr) (n cap : Nat) (w : World) (hcu : RefCu ep) (xp xt : ByteArray) (xk : Int) (xo : Bool) (hgd : RefGd w ep p n cap xp xk xt xo true) (zp zt : ByteArray) (zk : Int) (hrec : SuRec w ep p n cap l1) (hge : SuGet w ep l1 n1 zp zk zt true true) (hwi : SuWith w (.agg #[.string ep, .int .i64 2, .string et, .bool true]) l1 n1 rl) (hdir : ¬ (cutL ep.data.toList).1 = []) (hxk : ¬ xk = 2) :
    Calls Tryz.prog 34 #[.slice p n cap, .agg #[.string ep, .int .i64 2, .string et, .bool false]] w (RowsPost rl w) := by
  have HBX : Aside (Below (w.heap.size + 1) (w.alloc (.cells #[.string ep, .int .i64 2, .string et, .bool false] 28)) (w.alloc (.cells #[.string ep, .int .i64 2, .string et, .bool false] 28))) := Below.refl _ _
  have HN1 : Aside (n1 = l1.length) := hn1
  have HD : Aside (¬ (cutL ep.data.toList).1 = []) := hdir
  clear hn1 hdir
  have hxk' : (xk != 2) = true := bne_iff_ne.2 hxk
  go_enter Tryz.func34, Tryz.ntmps34
  go_wp2_with (first
    | (go_at_call 53; refine (hcu _).mono ?_; clear hcu; rintro rr w1 ⟨⟨d, nm, rfl, hd, hnm⟩, hG1⟩; clear hnm; obtain ⟨hB1, hne, hlt, ⟨q0, q1, q2, q3⟩, qf⟩ := boxC HBX.out hG1.below; clear hG1; have HDD : Aside (d.data.toList = (cutL ep.data.toList).1) := hd; clear hd; have hdd := empty_not (d := d) (fun h => HD.out (HDD.out.symm.trans h)))
    | (go_at_call 26; refine (hgd _ d HDD.out (base1 hB1)).mono ?_; clear hgd; rintro rr w2 ⟨rfl, hN⟩; clear hne hlt q0 q1 q2 q3 qf; obtain ⟨hB2x, hne, hlt, ⟨q0, q1, q2, q3⟩, qf⟩ := boxC hB1 hN; clear hN hB1; have hB2 := hB2x.alloc (Nat.succ_le_of_lt hlt) (.cells #[.string xp, .int .i64 xk, .string xt, .bool xo] 28); clear hB2x)
    | (go_at_call 34; refine (hrec _ d HDD.out (base1 hB2)).mono ?_; clear hrec; intro rr w3 hP3; obtain ⟨p3, c3, rfl, HL3, HN3⟩ := rows_parts HN1.out hP3; clear hP3; have HFAR : Aside (w.heap.size < (w2.alloc (.cells #[.string xp, .int .i64 xk, .string xt, .bool xo] 28)).heap.size) := (by show _ < _; simp; omega); clear hne hlt q0 q1 q2 q3 qf; obtain ⟨hB3, hne, hlt, ⟨q0, q1, q2, q3⟩, qf⟩ := boxC hB2 HN3.out; clear HN3 hB2)
    | (go_at_call 26; refine (hge _ p3 c3 (base1 hB3) HL3.out.1).mono ?_; clear hge; rintro rr w4 ⟨rfl, hN⟩; have HL4 : Aside (Lies w4 p3 l1) := HL3.out.1.kept hN; clear hne hlt q0 q1 q2 q3 qf; obtain ⟨hB4x, hne, hlt, ⟨q0, q1, q2, q3⟩, qf⟩ := boxC hB3 hN; clear hN hB3)
    | (go_at_call 72; refine (hwi _ p3 c3 (((base1 hB4x).setCell (Nat.le_refl _) (.bool true)).alloc ((base1 hB4x).setCell (Nat.le_refl _) (.bool true)).size (.cells #[.string zp, .int .i64 zk, .string zt, .bool true] 28)) ((lies_far HL4.out ⟨w.heap.size, 3, none⟩ (.bool true) (fun b off s h => by have := HL3.out.2 b off s h; have := HFAR.out; simp only; omega)).grown ((Grown.refl _).alloc (.cells #[.string zp, .int .i64 zk, .string zt, .bool true] 28)))).mono ?_; clear hwi; rintro rr w6 ⟨⟨v6, rfl, hR6⟩, hN⟩; have HB6 : Aside (Below w.heap.size w w6) := Below.onto (((base1 hB4x).setCell (Nat.le_refl _) (.bool true)).alloc ((base1 hB4x).setCell (Nat.le_refl _) (.bool true)).size (.cells #[.string zp, .int .i64 zk, .string zt, .bool true] 28)) hN; have HR6 : Aside (Rows w6 w.heap.size v6 rl) := hR6.mono (((base1 hB4x).setCell (Nat.le_refl _) (.bool true)).alloc ((base1 hB4x).setCell (Nat.le_refl _) (.bool true)).size (.cells #[.string zp, .int .i64 zk, .string zt, .bool true] 28)).size; clear hR6 hN))
  go_ret
  exact ⟨⟨_, rfl, HR6.out⟩, HB6.out⟩
set_option maxHeartbeats 1000000 in
set_option maxRecDepth 100000 in
theorem su_B1D2 (l1 rl : List Ent) (n1 : Nat) (hn1 : n1 = l1.length) (ep et : ByteArray) (p : Option Addr) (n cap : Nat) (w : World) (hcu : RefCu ep) (xp xt : ByteArray) (xk : Int) (xo : Bool) (hgd : RefGd w ep p n cap xp xk xt xo true) (zp zt : ByteArray) (zk : Int) (hrec : SuRec w ep p n cap l1) (hge : SuGet w ep l1 n1 zp zk zt false true) (hwi : SuWith w (.agg #[.string ep, .int .i64 2, .string et, .bool (zk == 4)]) l1 n1 rl) (hdir : ¬ (cutL ep.data.toList).1 = []) (hxk : ¬ xk = 2) :
    Calls Tryz.prog 34 #[.slice p n cap, .agg #[.string ep, .int .i64 2, .string et, .bool false]] w (RowsPost rl w) := by
  have HBX : Aside (Below (w.heap.size + 1) (w.alloc (.cells #[.string ep, .int .i64 2, .string et, .bool false] 28)) (w.alloc (.cells #[.string ep, .int .i64 2, .string et, .bool false] 28))) := Below.refl _ _
  have HN1 : Aside (n1 = l1.length) := hn1
  have HD : Aside (¬ (cutL ep.data.toList).1 = []) := hdir
  clear hn1 hdir
  have hxk' : (xk != 2) = true := bne_iff_ne.2 hxk
  go_enter Tryz.func34, Tryz.ntmps34
  go_wp2_with (first
    | (go_at_call 53; refine (hcu _).mono ?_; clear hcu; rintro rr w1 ⟨⟨d, nm, rfl, hd, hnm⟩, hG1⟩; clear hnm; obtain ⟨hB1, hne, hlt, ⟨q0, q1, q2, q3⟩, qf⟩ := boxC HBX.out hG1.below; clear hG1; have HDD : Aside (d.data.toList = (cutL ep.data.toList).1) := hd; clear hd; have hdd := empty_not (d := d) (fun h => HD.out (HDD.out.symm.trans h)))
    | (go_at_call 26; refine (hgd _ d HDD.out (base1 hB1)).mono ?_; clear hgd; rintro rr w2 ⟨rfl, hN⟩; clear hne hlt q0 q1 q2 q3 qf; obtain ⟨hB2x, hne, hlt, ⟨q0, q1, q2, q3⟩, qf⟩ := boxC hB1 hN; clear hN hB1; have hB2 := hB2x.alloc (Nat.succ_le_of_lt hlt) (.cells #[.string xp, .int .i64 xk, .string xt, .bool xo] 28); clear hB2x)
    | (go_at_call 34; refine (hrec _ d HDD.out (base1 hB2)).mono ?_; clear hrec; intro rr w3 hP3; obtain ⟨p3, c3, rfl, HL3, HN3⟩ := rows_parts HN1.out hP3; clear hP3; have HFAR : Aside (w.heap.size < (w2.alloc (.cells #[.string xp, .int .i64 xk, .string xt, .bool xo] 28)).heap.size) := (by show _ < _; simp; omega); clear hne hlt q0 q1 q2 q3 qf; obtain ⟨hB3, hne, hlt, ⟨q0, q1, q2, q3⟩, qf⟩ := boxC hB2 HN3.out; clear HN3 hB2)
    | (go_at_call 26; refine (hge _ p3 c3 (base1 hB3) HL3.out.1).mono ?_; clear hge; rintro rr w4 ⟨rfl, hN⟩; have HL4 : Aside (Lies w4 p3 l1) := HL3.out.1.kept hN; clear hne hlt q0 q1 q2 q3 qf; obtain ⟨hB4x, hne, hlt, ⟨q0, q1, q2, q3⟩, qf⟩ := boxC hB3 hN; clear hN hB3)
    | (go_at_call 72; refine (hwi _ p3 c3 (((base1 hB4x).setCell (Nat.le_refl _) (.bool (zk == 4))).alloc ((base1 hB4x).setCell (Nat.le_refl _) (.bool (zk == 4))).size (.cells #[.string zp, .int .i64 zk, .string zt, .bool false] 28)) ((lies_far HL4.out ⟨w.heap.size, 3, none⟩ (.bool (zk == 4)) (fun b off s h => by have := HL3.out.2 b off s h; have := HFAR.out; simp only; omega)).grown ((Grown.refl _).alloc (.cells #[.string zp, .int .i64 zk, .string zt, .bool false] 28)))).mono ?_; clear hwi; rintro rr w6 ⟨⟨v6, rfl, hR6⟩, hN⟩; have HB6 : Aside (Below w.heap.size w w6) := Below.onto (((base1 hB4x).setCell (Nat.le_refl _) (.bool (zk == 4))).alloc ((base1 hB4x).setCell (Nat.le_refl _) (.bool (zk == 4))).size (.cells #[.string zp, .int .i64 zk, .string zt, .bool false] 28)) hN; have HR6 : Aside (Rows w6 w.heap.size v6 rl) := hR6.mono (((base1 hB4x).setCell (Nat.le_refl _) (.bool (zk == 4))).alloc ((base1 hB4x).setCell (Nat.le_refl _) (.bool (zk == 4))).size (.cells #[.string zp, .int .i64 zk, .string zt, .bool false] 28)).size; clear hR6 hN))
  go_ret
  exact ⟨⟨_, rfl, HR6.out⟩, HB6.out⟩
end Go.Proofs.YtampldoimpfjgaaGreatDoor
namespace Go.Proofs.YtampldoimpfjgaaGreatDoor
open Go.RowKit PM Go.Sort
set_option linter.unusedVariables false

theorem fix_none {l : List Ent} {e : Ent} (h : getL l e.p = none) : fixE l e = e := by unfold fixE; rw [h]
theorem fix_kind {l : List Ent} {e z : Ent} (h : getL l e.p = some z) (hk : ¬ e.kind = 2) (ho : e.opq = false) : fixE l e = e := by
  rw [← refFix_eq ho]; unfold refFix; rw [h]; simp only; rw [if_neg hk]
theorem fix_dir {l : List Ent} {e z : Ent} (h : getL l e.p = some z) (hk : e.kind = 2) (ho : e.opq = false) : fixE l e = { e with opq := z.opq || z.kind == 4 } := by
  rw [← refFix_eq ho]; unfold refFix; rw [h]; simp only; rw [if_pos hk]
theorem isDir_parts {own : List Ent} {q : List UInt8} (h : ¬ isDirL own q = true) : getL own q = none ∨ ∃ x, getL own q = some x ∧ ¬ x.kind = 2 := by
  unfold isDirL at h
  cases hg : getL own q with
  | none => exact .inl rfl
  | some x => rw [hg] at h; exact .inr ⟨x, rfl, by simpa using h⟩
theorem isDir_some {own : List Ent} {q : List UInt8} (h : isDirL own q = true) : ∃ x, getL own q = some x ∧ x.kind = 2 := by
  unfold isDirL at h
  cases hg : getL own q with
  | none => rw [hg] at h; cases h
  | some x => rw [hg] at h; exact ⟨x, rfl, by simpa using h⟩
theorem refSetU_any : ∀ (k : Nat) (own : List Ent) (e : Ent) (p : Option Addr) (cap : Nat) (w : World), e.p.length ≤ k → SM own → e.p ≠ [] → e.path.size ≤ 1048576 → e.opq = false → own.length + e.path.size + 2 ≤ 10000 → Lies w p own →
    Calls Tryz.prog 34 #[.slice p own.length cap, .agg #[.string e.path, .int .i64 e.kind, .string e.text, .bool e.opq]] w (RowsPost (haveL own e) w) := by
  intro k
  induction k with
  | zero => intro own e p cap w hk _ hne; exact absurd (List.eq_nil_of_length_eq_zero (by omega)) hne
  | succ k ih =>
    rintro own ⟨ep, ek, et, eo⟩ p cap w hk hS hne hsz ho hlen hL
    simp only at hsz ho hlen
    subst ho
    have hne' : ep.data.toList ≠ [] := hne
    have hpl : ep.size = ep.data.toList.length := rfl
    have hk' : ep.data.toList.length ≤ k + 1 := hk
    have hcu : RefCu ep := fun W => refCut_grown ep W (by omega)
    have gd : ∀ (x : Ent) (bb : Bool), (getL own (dirOf ep.data.toList)).getD zeroE = x → (getL own (dirOf ep.data.toList)).isSome = bb → RefGd w ep p own.length cap x.path x.kind x.text x.opq bb := fun x bb hxx hbb W d hd hB => by
      have hd' : d.data.toList = dirOf ep.data.toList := hd
      exact refGet_any own d p cap W (hL.kept hB) (by omega) x bb (by rw [hd']; exact hxx) (by rw [hd']; exact hbb)
    have ge : ∀ (l1 : List Ent), l1.length ≤ 10000 → ∀ (x : Ent) (bb : Bool), (getL l1 ep.data.toList).getD zeroE = x → (getL l1 ep.data.toList).isSome = bb → SuGet w ep l1 l1.length x.path x.kind x.text x.opq bb := fun l1 h1 x bb hxx hbb W p1 c1 hB hL1 =>
      refGet_any l1 ep p1 c1 W hL1 (by omega) x bb hxx hbb
    have wi : ∀ (l1 : List Ent), SM l1 → l1.length ≤ 10000 → ∀ e1 : Ent, e1.path.size ≤ 1048576 → fixE l1 ⟨ep, ek, et, false⟩ = e1 → SuWith w (.agg #[.string e1.path, .int .i64 e1.kind, .string e1.text, .bool e1.opq]) l1 l1.length (standL l1 ⟨ep, ek, et, false⟩) := fun l1 h1 h2 e1 h3 h4 W p1 c1 hB hL1 => by
      have := refWith_wide l1 e1 p1 c1 W hL1 h1.small h3 h2
      rw [withL_put h1.sorted] at this
      unfold standL
      rw [h4]
      exact this
    have hsec : ∀ (l1 : List Ent), (getL l1 ep.data.toList = none) ∨ (∃ z, getL l1 ep.data.toList = some z) := fun l1 => by cases getL l1 ep.data.toList <;> simp
    by_cases hd : isDirL own (dirOf ep.data.toList) = true
    · have hh : haveL own ⟨ep, ek, et, false⟩ = standL own ⟨ep, ek, et, false⟩ := haveL_dir hd
      rw [hh]
      obtain ⟨x, hx, hxk⟩ := isDir_some hd
      obtain ⟨xp, xk, xt, xo⟩ := x
      simp only at hxk
      subst hxk
      have hg0 := gd ⟨xp, 2, xt, xo⟩ true (by rw [hx]; rfl) (by rw [hx]; rfl)
      simp only at hg0
      by_cases h0 : dirOf ep.data.toList = []
      · rcases hsec own with hz | ⟨z, hz⟩
        · exact su_A0N own _ _ rfl ep et ek p _ cap w hcu xp xt 2 xo hg0 zeroE.path zeroE.text zeroE.kind zeroE.opq hL rfl (ge own (by omega) zeroE false (by rw [hz]; rfl) (by rw [hz]; rfl)) (wi own hS (by omega) ⟨ep, ek, et, false⟩ hsz (fix_none hz)) h0
        · have hgz := ge own (by omega) z true (by rw [hz]; rfl) (by rw [hz]; rfl)
          obtain ⟨zp, zk, zt, zo⟩ := z
          simp only at hgz
          by_cases hek : ek = 2
          · subst hek
            have hw := wi own hS (by omega) ⟨ep, 2, et, zo || zk == 4⟩ hsz (fix_dir (e := ⟨ep, 2, et, false⟩) hz rfl rfl)
            cases zo
            · simp only [Bool.false_or] at hw
              exact su_A0D2 own _ _ rfl ep et p _ cap w hcu xp xt 2 xo hg0 zp zt zk hL rfl hgz hw h0
            · simp only [Bool.true_or] at hw
              exact su_A0D1 own _ _ rfl ep et p _ cap w hcu xp xt 2 xo hg0 zp zt zk hL rfl hgz hw h0
          · exact su_A0K own _ _ rfl ep et ek p _ cap w hcu xp xt 2 xo hg0 zp zt zk zo hL rfl hgz (wi own hS (by omega) ⟨ep, ek, et, false⟩ hsz (fix_kind (e := ⟨ep, ek, et, false⟩) hz hek rfl)) h0 hek
      · rcases hsec own with hz | ⟨z, hz⟩
        · exact su_A1N own _ _ rfl ep et ek p _ cap w hcu xp xt xo hg0 zeroE.path zeroE.text zeroE.kind zeroE.opq hL rfl (ge own (by omega) zeroE false (by rw [hz]; rfl) (by rw [hz]; rfl)) (wi own hS (by omega) ⟨ep, ek, et, false⟩ hsz (fix_none hz)) h0
        · have hgz := ge own (by omega) z true (by rw [hz]; rfl) (by rw [hz]; rfl)
          obtain ⟨zp, zk, zt, zo⟩ := z
          simp only at hgz
          by_cases hek : ek = 2
          · subst hek
            have hw := wi own hS (by omega) ⟨ep, 2, et, zo || zk == 4⟩ hsz (fix_dir (e := ⟨ep, 2, et, false⟩) hz rfl rfl)
            cases zo
            · simp only [Bool.false_or] at hw
              exact su_A1D2 own _ _ rfl ep et p _ cap w hcu xp xt xo hg0 zp zt zk hL rfl hgz hw h0
            · simp only [Bool.true_or] at hw
              exact su_A1D1 own _ _ rfl ep et p _ cap w hcu xp xt xo hg0 zp zt zk hL rfl hgz hw h0
          · exact su_A1K own _ _ rfl ep et ek p _ cap w hcu xp xt xo hg0 zp zt zk zo hL rfl hgz (wi own hS (by omega) ⟨ep, ek, et, false⟩ hsz (fix_kind (e := ⟨ep, ek, et, false⟩) hz hek rfl)) h0 hek
    · have hh : haveL own ⟨ep, ek, et, false⟩ = standL (haveL own (mkE (baL (dirOf ep.data.toList)) 2)) ⟨ep, ek, et, false⟩ := haveL_no hd
      rw [hh]
      have h0 : ¬ dirOf ep.data.toList = [] := dir_ne (e := ⟨ep, ek, et, false⟩) hd
      have hsh : (dirOf ep.data.toList).length < ep.data.toList.length := dirOf_short hne'
      have hS1 : SM (haveL own (mkE (baL (dirOf ep.data.toList)) 2)) := SM.have _ (Nat.le_refl _) hS (by rw [baL_p]; exact h0) (by rw [mkE_path, baL_size]; omega)
      have hl1 : (haveL own (mkE (baL (dirOf ep.data.toList)) 2)).length ≤ 10000 := by
        have := have_len (e := mkE (baL (dirOf ep.data.toList)) 2) hS.sorted
        rw [mkE_path, baL_size] at this
        omega
      have hrec : SuRec w ep p own.length cap (haveL own (mkE (baL (dirOf ep.data.toList)) 2)) := fun W d hd' hB => by
        have hd2 : d.data.toList = dirOf ep.data.toList := hd'
        have hds : d.size = (dirOf ep.data.toList).length := by rw [← hd2]; rfl
        have := ih own (mkE d 2) p cap W (by show d.data.toList.length ≤ k; rw [hd2]; omega) hS (by show d.data.toList ≠ []; rw [hd2]; exact h0) (by show d.size ≤ _; omega) rfl (by show _ + d.size + 2 ≤ _; omega) (hL.kept hB)
        rw [mkE_ba d 2, hd2] at this
        have e : baL (dirOf ep.data.toList) = d := by
          have : baL d.data.toList = d := by unfold baL; rw [Array.toArray_toList]
          rw [← hd2]; exact this
        rw [e] at this ⊢
        exact this
      rcases isDir_parts hd with hx | ⟨x, hx, hxk⟩
      · rcases hsec (haveL own (mkE (baL (dirOf ep.data.toList)) 2)) with hz | ⟨z, hz⟩
        · exact su_B0N (haveL own (mkE (baL (dirOf ep.data.toList)) 2)) _ _ rfl ep et ek p _ cap w hcu zeroE.path zeroE.text zeroE.kind zeroE.opq (gd zeroE false (by rw [hx]; rfl) (by rw [hx]; rfl)) zeroE.path zeroE.text zeroE.kind zeroE.opq hrec (ge (haveL own (mkE (baL (dirOf ep.data.toList)) 2)) hl1 zeroE false (by rw [hz]; rfl) (by rw [hz]; rfl)) (wi (haveL own (mkE (baL (dirOf ep.data.toList)) 2)) hS1 hl1 ⟨ep, ek, et, false⟩ hsz (fix_none hz)) h0
        · have hgz := ge (haveL own (mkE (baL (dirOf ep.data.toList)) 2)) hl1 z true (by rw [hz]; rfl) (by rw [hz]; rfl)
          obtain ⟨zp, zk, zt, zo⟩ := z
          simp only at hgz
          by_cases hek : ek = 2
          · subst hek
            have hw := wi (haveL own (mkE (baL (dirOf ep.data.toList)) 2)) hS1 hl1 ⟨ep, 2, et, zo || zk == 4⟩ hsz (fix_dir (e := ⟨ep, 2, et, false⟩) hz rfl rfl)
            cases zo
            · simp only [Bool.false_or] at hw
              exact su_B0D2 (haveL own (mkE (baL (dirOf ep.data.toList)) 2)) _ _ rfl ep et p _ cap w hcu zeroE.path zeroE.text zeroE.kind zeroE.opq (gd zeroE false (by rw [hx]; rfl) (by rw [hx]; rfl)) zp zt zk hrec hgz hw h0
            · simp only [Bool.true_or] at hw
              exact su_B0D1 (haveL own (mkE (baL (dirOf ep.data.toList)) 2)) _ _ rfl ep et p _ cap w hcu zeroE.path zeroE.text zeroE.kind zeroE.opq (gd zeroE false (by rw [hx]; rfl) (by rw [hx]; rfl)) zp zt zk hrec hgz hw h0
          · exact su_B0K (haveL own (mkE (baL (dirOf ep.data.toList)) 2)) _ _ rfl ep et ek p _ cap w hcu zeroE.path zeroE.text zeroE.kind zeroE.opq (gd zeroE false (by rw [hx]; rfl) (by rw [hx]; rfl)) zp zt zk zo hrec hgz (wi (haveL own (mkE (baL (dirOf ep.data.toList)) 2)) hS1 hl1 ⟨ep, ek, et, false⟩ hsz (fix_kind (e := ⟨ep, ek, et, false⟩) hz hek rfl)) h0 hek
      · obtain ⟨xp, xk, xt, xo⟩ := x
        have hg0 := gd ⟨xp, xk, xt, xo⟩ true (by rw [hx]; rfl) (by rw [hx]; rfl)
        simp only at hg0 hxk
        rcases hsec (haveL own (mkE (baL (dirOf ep.data.toList)) 2)) with hz | ⟨z, hz⟩
        · exact su_B1N (haveL own (mkE (baL (dirOf ep.data.toList)) 2)) _ _ rfl ep et ek p _ cap w hcu xp xt xk xo hg0 zeroE.path zeroE.text zeroE.kind zeroE.opq hrec (ge (haveL own (mkE (baL (dirOf ep.data.toList)) 2)) hl1 zeroE false (by rw [hz]; rfl) (by rw [hz]; rfl)) (wi (haveL own (mkE (baL (dirOf ep.data.toList)) 2)) hS1 hl1 ⟨ep, ek, et, false⟩ hsz (fix_none hz)) h0 hxk
        · have hgz := ge (haveL own (mkE (baL (dirOf ep.data.toList)) 2)) hl1 z true (by rw [hz]; rfl) (by rw [hz]; rfl)
          obtain ⟨zp, zk, zt, zo⟩ := z
          simp only at hgz
          by_cases hek : ek = 2
          · subst hek
            have hw := wi (haveL own (mkE (baL (dirOf ep.data.toList)) 2)) hS1 hl1 ⟨ep, 2, et, zo || zk == 4⟩ hsz (fix_dir (e := ⟨ep, 2, et, false⟩) hz rfl rfl)
            cases zo
            · simp only [Bool.false_or] at hw
              exact su_B1D2 (haveL own (mkE (baL (dirOf ep.data.toList)) 2)) _ _ rfl ep et p _ cap w hcu xp xt xk xo hg0 zp zt zk hrec hgz hw h0 hxk
            · simp only [Bool.true_or] at hw
              exact su_B1D1 (haveL own (mkE (baL (dirOf ep.data.toList)) 2)) _ _ rfl ep et p _ cap w hcu xp xt xk xo hg0 zp zt zk hrec hgz hw h0 hxk
          · exact su_B1K (haveL own (mkE (baL (dirOf ep.data.toList)) 2)) _ _ rfl ep et ek p _ cap w hcu xp xt xk xo hg0 zp zt zk zo hrec hgz (wi (haveL own (mkE (baL (dirOf ep.data.toList)) 2)) hS1 hl1 ⟨ep, ek, et, false⟩ hsz (fix_kind (e := ⟨ep, ek, et, false⟩) hz hek rfl)) h0 hxk hek

theorem rows_later {l : List Ent} {w w1 W : World} {r : Ending} (h : RowsPost l w r w1) (hB : Below w1.heap.size w1 W) : RowsPost l w r W := by
  obtain ⟨⟨v, rfl, hR⟩, hB1⟩ := h
  exact ⟨⟨v, rfl, hR.below hB⟩, Below.onto hB1 hB⟩
theorem rows_from_post {l : List Ent} {w w1 : World} {v : Value} (h : RowsPost l w (.returned v) w1) : Rows w1 w.heap.size v l := by
  obtain ⟨⟨v', h1, hR⟩, _⟩ := h
  cases h1
  exact hR
abbrev DrWo (w : World) (q : ByteArray) (p : Option Addr) (n cap : Nat) (l1 : List Ent) : Prop := ∀ W, Below w.heap.size w W → Calls Tryz.prog 81 #[.slice p n cap, .string q] W (RowsPost l1 W)
abbrev DrHi (w : World) (q : ByteArray) (l1 : List Ent) (n1 : Nat) (b : Bool) : Prop := ∀ W p1 c1, Below w.heap.size w W → Lies W p1 l1 → Calls Tryz.prog 82 #[.slice p1 n1 c1, .string q] W fun r w' => r = .returned (.bool b) ∧ Below W.heap.size W w'
abbrev DrSu (w : World) (q : ByteArray) (l1 : List Ent) (n1 : Nat) (l2 : List Ent) : Prop := ∀ W p1 c1, Below w.heap.size w W → Lies W p1 l1 → Calls Tryz.prog 34 #[.slice p1 n1 c1, .agg #[.string q, .int .i64 4, .string ⟨#[]⟩, .bool false]] W (RowsPost l2 W)
set_option maxHeartbeats 1000000 in
set_option maxRecDepth 100000 in
theorem dr_n (l1 l2 : List Ent) (n1 : Nat) (hn1 : n1 = l1.length) (n2 : Nat) (hn2 : n2 = l2.length) (q : ByteArray) (p : Option Addr) (n cap : Nat) (pb : Option Addr) (nb cb : Nat) (w : World) (hwo : DrWo w q p n cap l1) (xp xt : ByteArray) (xk : Int) (xo : Bool) (hge : RefGe w q pb nb cb xp xk xt xo false) :
    Calls Tryz.prog 40 #[.slice p n cap, .slice pb nb cb, .string q] w (RowsPost l1 w) := by
  have HN1 : Aside (n1 = l1.length) := hn1
  have HN2 : Aside (n2 = l2.length) := hn2
  clear hn1 hn2
  go_enter Tryz.func40, Tryz.ntmps40
  go_wp2_with (first
    | (go_at_call 81; refine (hwo _ (Below.refl _ _)).mono ?_; clear hwo; intro r w1 hP; have HP1 : Aside (RowsPost l1 w r w1) := hP; obtain ⟨p1, c1, rfl, HL1, HB1⟩ := rows_parts HN1.out hP; clear hP)
    | (go_at_call 26; refine (hge _ HB1.out).mono ?_; clear hge; rintro r w2 ⟨rfl, hN⟩; have HB2 : Aside (Below w.heap.size w w2 ∧ Below w1.heap.size w1 w2) := ⟨Below.onto HB1.out hN, hN⟩; clear hN))
  go_ret
  exact rows_later HP1.out (Below.onto HB2.out.2 ((Grown.refl w2).alloc _).below)
set_option maxHeartbeats 1000000 in
set_option maxRecDepth 100000 in
theorem dr_h (l1 l2 : List Ent) (n1 : Nat) (hn1 : n1 = l1.length) (n2 : Nat) (hn2 : n2 = l2.length) (q : ByteArray) (p : Option Addr) (n cap : Nat) (pb : Option Addr) (nb cb : Nat) (w : World) (hwo : DrWo w q p n cap l1) (xp xt : ByteArray) (xk : Int) (xo : Bool) (hge : RefGe w q pb nb cb xp xk xt xo true) (hhi : DrHi w q l1 n1 true) :
    Calls Tryz.prog 40 #[.slice p n cap, .slice pb nb cb, .string q] w (RowsPost l1 w) := by
  have HN1 : Aside (n1 = l1.length) := hn1
  have HN2 : Aside (n2 = l2.length) := hn2
  clear hn1 hn2
  go_enter Tryz.func40, Tryz.ntmps40
  go_wp2_with (first
    | (go_at_call 81; refine (hwo _ (Below.refl _ _)).mono ?_; clear hwo; intro r w1 hP; have HP1 : Aside (RowsPost l1 w r w1) := hP; obtain ⟨p1, c1, rfl, HL1, HB1⟩ := rows_parts HN1.out hP; clear hP)
    | (go_at_call 26; refine (hge _ HB1.out).mono ?_; clear hge; rintro r w2 ⟨rfl, hN⟩; have HB2 : Aside (Below w.heap.size w w2 ∧ Below w1.heap.size w1 w2) := ⟨Below.onto HB1.out hN, hN⟩; clear hN)
    | (go_at_call 82; refine (hhi _ p1 c1 (Below.onto HB2.out.1 ((Grown.refl w2).alloc (.cells #[.string xp, .int .i64 xk, .string xt, .bool xo] 28)).below) (HL1.out.1.kept (Below.onto HB2.out.2 ((Grown.refl w2).alloc (.cells #[.string xp, .int .i64 xk, .string xt, .bool xo] 28)).below))).mono ?_; clear hhi; rintro r w3 ⟨rfl, hN⟩; have HB3 : Aside (Below w.heap.size w w3 ∧ Below w1.heap.size w1 w3) := ⟨Below.onto (Below.onto HB2.out.1 ((Grown.refl w2).alloc (.cells #[.string xp, .int .i64 xk, .string xt, .bool xo] 28)).below) hN, Below.onto (Below.onto HB2.out.2 ((Grown.refl w2).alloc (.cells #[.string xp, .int .i64 xk, .string xt, .bool xo] 28)).below) hN⟩; clear hN))
  go_ret
  exact rows_later HP1.out HB3.out.2
set_option maxHeartbeats 1000000 in
set_option maxRecDepth 100000 in
theorem dr_s (l1 l2 : List Ent) (n1 : Nat) (hn1 : n1 = l1.length) (n2 : Nat) (hn2 : n2 = l2.length) (q : ByteArray) (p : Option Addr) (n cap : Nat) (pb : Option Addr) (nb cb : Nat) (w : World) (hwo : DrWo w q p n cap l1) (xp xt : ByteArray) (xk : Int) (xo : Bool) (hge : RefGe w q pb nb cb xp xk xt xo true) (hhi : DrHi w q l1 n1 false) (hsu : DrSu w q l1 n1 l2) :
    Calls Tryz.prog 40 #[.slice p n cap, .slice pb nb cb, .string q] w (RowsPost l2 w) := by
  have HN1 : Aside (n1 = l1.length) := hn1
  have HN2 : Aside (n2 = l2.length) := hn2
  clear hn1 hn2
  go_enter Tryz.func40, Tryz.ntmps40
  go_wp2_with (first
    | (go_at_call 81; refine (hwo _ (Below.refl _ _)).mono ?_; clear hwo; intro r w1 hP; have HP1 : Aside (RowsPost l1 w r w1) := hP; obtain ⟨p1, c1, rfl, HL1, HB1⟩ := rows_parts HN1.out hP; clear hP)
    | (go_at_call 26; refine (hge _ HB1.out).mono ?_; clear hge; rintro r w2 ⟨rfl, hN⟩; have HB2 : Aside (Below w.heap.size w w2 ∧ Below w1.heap.size w1 w2) := ⟨Below.onto HB1.out hN, hN⟩; clear hN)
    | (go_at_call 82; refine (hhi _ p1 c1 (Below.onto HB2.out.1 ((Grown.refl w2).alloc (.cells #[.string xp, .int .i64 xk, .string xt, .bool xo] 28)).below) (HL1.out.1.kept (Below.onto HB2.out.2 ((Grown.refl w2).alloc (.cells #[.string xp, .int .i64 xk, .string xt, .bool xo] 28)).below))).mono ?_; clear hhi; rintro r w3 ⟨rfl, hN⟩; have HB3 : Aside (Below w.heap.size w w3 ∧ Below w1.heap.size w1 w3) := ⟨Below.onto (Below.onto HB2.out.1 ((Grown.refl w2).alloc (.cells #[.string xp, .int .i64 xk, .string xt, .bool xo] 28)).below) hN, Below.onto (Below.onto HB2.out.2 ((Grown.refl w2).alloc (.cells #[.string xp, .int .i64 xk, .string xt, .bool xo] 28)).below) hN⟩; clear hN)
    | (go_at_call 34; refine (hsu _ p1 c1 HB3.out.1 (HL1.out.1.kept HB3.out.2)).mono ?_; clear hsu; intro r w4 hP; have HP4 : Aside (RowsPost l2 w3 r w4) := hP; obtain ⟨p4, c4, rfl, HL4, HB4⟩ := rows_parts HN2.out hP; clear hP))
  go_ret
  exact ⟨⟨_, rfl, (rows_from_post HP4.out).mono HB3.out.1.size⟩, Below.onto HB3.out.1 HB4.out⟩
theorem refDrop_any (own B : List Ent) (q : ByteArray) (p : Option Addr) (cap : Nat) (pb : Option Addr) (cb : Nat) (w : World) (hL : Lies w p own) (hLB : Lies w pb B) (hS : SM own) (hB80 : B.length ≤ 10000) (hq : q.data.toList ≠ []) (hqs : q.size ≤ 1048576) (hlen : own.length + q.size + 2 ≤ 10000) :
    Calls Tryz.prog 40 #[.slice p own.length cap, .slice pb B.length cb, .string q] w (RowsPost (dropL own B q) w) := by
  have hc := cut_len own q.data.toList
  have hwo : DrWo w q p own.length cap (cutW own q.data.toList) := fun W hB => by
    have := refWithout_wide own q p cap W (hL.kept hB) hS.small (by unfold maxLen; omega) (by omega)
    rw [rem_cut] at this
    exact this
  have hge : ∀ (x : Ent) (bb : Bool), (getL B q.data.toList).getD zeroE = x → (getL B q.data.toList).isSome = bb → RefGe w q pb B.length cb x.path x.kind x.text x.opq bb := fun x bb hxx hbb W hB => refGet_any B q pb cb W (hLB.kept hB) (by omega) x bb hxx hbb
  have hSc := hS.cut q.data.toList
  have hhi : DrHi w q (cutW own q.data.toList) (cutW own q.data.toList).length (hidesL (cutW own q.data.toList) q.data.toList) := fun W p1 c1 hB hL1 => by
    rw [← refHid_eqS hSc.sorted (fun e he => (hSc.each e he).1)]
    exact refHides_any _ q p1 c1 W hL1 (by omega) (by omega)
  have hsu : DrSu w q (cutW own q.data.toList) (cutW own q.data.toList).length (haveL (cutW own q.data.toList) (mkE q 4)) := fun W p1 c1 hB hL1 =>
    refSetU_any _ (cutW own q.data.toList) (mkE q 4) p1 c1 W (Nat.le_refl _) hSc hq hqs rfl (by show _ + q.size + 2 ≤ _; omega) hL1
  unfold dropL
  cases hb : (getL B q.data.toList).isSome with
  | false =>
    rw [if_neg (by simp)]
    exact dr_n _ [] _ rfl _ rfl q p _ cap pb _ cb w hwo _ _ _ _ (hge _ false rfl hb)
  | true =>
    cases hh : hidesL (cutW own q.data.toList) q.data.toList with
    | true =>
      rw [if_neg (by simp)]
      rw [hh] at hhi
      exact dr_h _ [] _ rfl _ rfl q p _ cap pb _ cb w hwo _ _ _ _ (hge _ true rfl hb) hhi
    | false =>
      rw [if_pos (by simp)]
      rw [hh] at hhi
      exact dr_s _ _ _ rfl _ rfl q p _ cap pb _ cb w hwo _ _ _ _ (hge _ true rfl hb) hhi hsu
end Go.Proofs.YtampldoimpfjgaaGreatDoor
