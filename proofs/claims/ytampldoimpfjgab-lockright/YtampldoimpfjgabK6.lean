/-
  lock.Take and lock.Free: what comes of them.
-/
import Derived.Test.YtampldoimpfjgabK5
namespace Go.Proofs.Ytampldoimpfjgab
open Go.RowKit Go.Sort KM
set_option linter.unusedVariables false

/-- What comes of a change: locks in new memory, and its error. -/
def ChangePost (free : Bool) (l : List Lk) (x : Lk) (w : World) (e : Ending) (w' : World) : Prop :=
  ∃ v err m, e = .returned (.tuple #[v, .int .i64 err]) ∧ Rows w' w.heap.size v m ∧ SetSpec free l x err m ∧ Below w.heap.size w w'
/-- What the change itself makes, where nothing is wrong. -/
def MadePost (free : Bool) (l : List Lk) (x : Lk) (w : World) (e : Ending) (w' : World) : Prop :=
  ∃ v err m, e = .returned (.tuple #[v, .int .i64 err]) ∧ Rows w' w.heap.size v m ∧ Below w.heap.size w w' ∧
    ((err = 13 ∧ m = [] ∧ free = false ∧ l.any (clash x) = true) ∨ (err = 0 ∧ (free = true ∨ l.any (clash x) = false) ∧ RightK m ∧ HasSpec free l x m))
/-- The boxes of a change: the locks, and the lock. -/
def Boxes (w : World) (B1 B2 : Nat) (p : Option Addr) (n cap : Nat) (x : Lk) : Prop :=
  w.cell? ⟨B1, 0, none⟩ = some (.slice p n cap) ∧ (w.cell? ⟨B2, 0, none⟩ = some (.int .i64 x.o) ∧ w.cell? ⟨B2, 1, none⟩ = some (.int .i64 x.f) ∧ w.cell? ⟨B2, 2, none⟩ = some (.int .i64 x.t) ∧ w.cell? ⟨B2, 3, none⟩ = some (.bool x.a)) ∧ B1 < w.heap.size ∧ B2 < w.heap.size
theorem Boxes.kept {w w' : World} {B1 B2 n cap : Nat} {p : Option Addr} {x : Lk} (h : Boxes w B1 B2 p n cap x) (hB : Below w.heap.size w w') : Boxes w' B1 B2 p n cap x := by
  obtain ⟨h1, ⟨h2, h3, h4, h5⟩, h6, h7⟩ := h
  have hs := hB.size
  exact ⟨(hB.cell (p := ⟨B1, 0, none⟩) h6).trans h1, ⟨(hB.cell (p := ⟨B2, 0, none⟩) h7).trans h2, (hB.cell (p := ⟨B2, 1, none⟩) h7).trans h3, (hB.cell (p := ⟨B2, 2, none⟩) h7).trans h4, (hB.cell (p := ⟨B2, 3, none⟩) h7).trans h5⟩, by omega, by omega⟩
theorem freeP_any (l : List Lk) (x : Lk) (p : Option Addr) (cap B1 B2 : Nat) (w : World) (hL : Lies w p l) (h0 : preErr l x = 0) (hb : Boxes w B1 B2 p l.length cap x) :
    Calls Try.prog 29 #[.pointer (some ⟨B1, 0, none⟩), .pointer (some ⟨B2, 0, none⟩)] w (MadePost true l x w) := by
  have hw := fun W (hB : Below w.heap.size w W) => without_any l x p cap W (hL.kept hB) (preErr_zero.1 h0).1.1
  have HS : Aside (RightK (withoutL l x) ∧ HasSpec true l x (withoutL l x)) := free_spec h0
  obtain ⟨c0, ⟨c1, c2, c3, c4⟩, hb1, hb2⟩ := hb
  generalize l.length = n at hw c0
  clear hL h0
  go_enter Try.func29, Try.ntmps29
  go_wp2_with (go_at_call 26; refine (hw _ (Below.refl _ _)).mono ?_; clear hw; rintro e w1 ⟨v, rfl, hR, hB⟩; have HR : Aside (Rows w1 w.heap.size v (withoutL l x)) := hR; have HB : Aside (Below w.heap.size w w1) := hB; clear hR hB)
  go_ret2
  exact ⟨v, 0, withoutL l x, rfl, HR.out, HB.out, .inr ⟨rfl, .inl rfl, HS.out⟩⟩
theorem step_rows {ops : Array Oper} {o : Oper} {a : Act} {K : Act → World → Prop} {Q : Exit → Act → World → Prop} {E : Prop} {X : World} (hgd : o.guard = none) (s x : Operand)
    (ho : o.op = .call { callee := .builtin .append, args := #[s, x], argTypes := #[22, 22] }) (base : Nat) (v : Value) (l : List Lk) (hs : a.eval s = v) (hrow : Rows X base v l) (hlen : l.length ≤ 1000) (hbase : base ≤ X.heap.size)
    (H : Nat) (y : Lk) (hx : a.eval x = .slice (some ⟨H, 0, none⟩) 1 1) (hL : ∀ j u, (encK y)[j]? = some u → X.cell? ((⟨H, 0, none⟩ : Addr).add j) = some u)
    (h : ∀ v' w', Rows w' base v' (l ++ [y]) → Below base X w' → K (a.put o.dst v') w') :
    if Region.wanted o (yielded ops a.tmps) = true then Oper.wp Try.prog o a X K Q else E := by
  have hw : Region.wanted o (yielded ops a.tmps) = true := by simp [Region.wanted, hgd]
  rw [if_pos hw]
  obtain ⟨i0, hi, hz0, hz1, hz2⟩ := infoK
  refine wp_append_own X s x 22 ho base 24 i0 _ 4 32 Try.underlying22 hi hz0 hz1 hz2 rfl (by decide) v l.length (l.flatMap encK) hs hrow ⟨H, 0, none⟩ 1 1 (encK y) hx rfl hL (fun u hu => flat_one (t := [y]) (by simpa using hu)) (by unfold maxLen; omega) (by omega) hbase ?_
  intro v' w' hown hg _
  exact h v' w' (by simpa [Rows] using hown) ((Below.refl base X).grown hg hbase (fun j hj => (World.ownsRow.lt hrow j hj).1))
theorem old_one {X : World} {H : Nat} {y : Lk} (h : X.cell? ⟨H, 0, none⟩ = some (.int .i64 y.o) ∧ X.cell? ⟨H, 1, none⟩ = some (.int .i64 y.f) ∧ X.cell? ⟨H, 2, none⟩ = some (.int .i64 y.t) ∧ X.cell? ⟨H, 3, none⟩ = some (.bool y.a)) : ∀ j u, (encK y)[j]? = some u → X.cell? ((⟨H, 0, none⟩ : Addr).add j) = some u := by
  intro j u hu
  have hj := encK_lt hu
  rw [Addr.add_lit, Nat.zero_add]
  obtain rfl | rfl | rfl | rfl : j = 0 ∨ j = 1 ∨ j = 2 ∨ j = 3 := by omega
  · obtain rfl : Value.int .i64 y.o = u := by simpa [encK] using hu
    exact h.1
  · obtain rfl : Value.int .i64 y.f = u := by simpa [encK] using hu
    exact h.2.1
  · obtain rfl : Value.int .i64 y.t = u := by simpa [encK] using hu
    exact h.2.2.1
  · obtain rfl : Value.bool y.a = u := by simpa [encK] using hu
    exact h.2.2.2
theorem rows_some {w : World} {base : Nat} {v : Value} {l : List Lk} (h : Rows w base v l) (hl : l ≠ []) : ∃ g c, v = .slice (some ⟨g, 0, none⟩) l.length c ∧ base ≤ g ∧ Own w g c l := by
  obtain ⟨g, c, e, hg, ho⟩ := Own.of_row h (by
    rintro rfl
    obtain ⟨_, ⟨_, h2⟩ | ⟨g, cap, cur, hv', _⟩⟩ := h
    · exact hl (List.eq_nil_of_length_eq_zero h2)
    · cases hv') rfl
  exact ⟨g, c, e, hg, ho⟩
/-- What joined makes of a row of the call's own. -/
theorem joined_row (m : List Lk) (base : Nat) (v : Value) (w : World) (hR : Rows w base v m) (hm : m ≠ []) (hn : m.length ≤ 1000) (hb : base ≤ w.heap.size) :
    Calls Try.prog 25 #[v] w fun e w' => ∃ v' m', e = .returned v' ∧ m'.Perm m ∧ m'.Pairwise (fun a b => ¬ cmpK b a < 0) ∧ Rows w' base v' (joinL m') ∧ Below base w w' := by
  obtain ⟨g, c, rfl, hg, hO⟩ := rows_some hR hm
  refine (joined_any m g c w hO hn).mono ?_
  rintro e w' ⟨v', m', rfl, h1, h2, h3, h4⟩
  exact ⟨v', m', rfl, h1, h2, h3.mono hb, (Below.refl base w).grown h4 hb (fun k hk => by simp at hk; omega)⟩
set_option maxHeartbeats 1000000 in
theorem takeP_any (l : List Lk) (x : Lk) (p : Option Addr) (cap B1 B2 : Nat) (w : World) (hL : Lies w p l) (h0 : preErr l x = 0) (hb : Boxes w B1 B2 p l.length cap x) :
    Calls Try.prog 24 #[.pointer (some ⟨B1, 0, none⟩), .pointer (some ⟨B2, 0, none⟩)] w (MadePost false l x w) := by
  have h40 := (preErr_zero.1 h0).1.1
  have hm := fun W (hB : Below w.heap.size w W) => meets_any l x p cap W (hL.kept hB) (by omega)
  have hw := fun W (hB : Below w.heap.size w W) => without_any l x p cap W (hL.kept hB) h40
  have HZ : Aside (preErr l x = 0) := h0
  have HBX : Aside (Boxes w B1 B2 p l.length cap x) := hb
  obtain ⟨c0, ⟨c1, c2, c3, c4⟩, hb1, hb2⟩ := hb
  generalize l.length = n at hw hm c0 HBX
  clear hL h0
  go_enter Try.func24, Try.ntmps24
  go_wp2_with (go_at_call 9; refine (hm _ (Below.refl _ _)).mono ?_; clear hm; rintro r w1 ⟨y, b, rfl, hM, hB⟩; have HM : Aside (l.any (clash x) = b) := hM.any; have HB1 : Aside (Below w.heap.size w w1) := hB; obtain ⟨d0, ⟨d1, d2, d3, d4⟩, hd1, hd2⟩ := HBX.out.kept hB; clear hM hB; cases b)
  · have hW0 : Below w.heap.size w (w1.alloc (.cells #[.int .i64 y.o, .int .i64 y.f, .int .i64 y.t, .bool y.a] 24)) := HB1.out.alloc HB1.out.size _
    obtain ⟨d0, ⟨d1, d2, d3, d4⟩, hd1, hd2⟩ := HBX.out.kept hW0
    generalize w1.alloc (.cells #[.int .i64 y.o, .int .i64 y.f, .int .i64 y.t, .bool y.a] 24) = W0 at *
    have HT : Aside (∀ m : List Lk, m.Perm (withoutL l x ++ [x]) → m.Pairwise (fun a b => ¬ cmpK b a < 0) → RightK (joinL m) ∧ HasSpec false l x (joinL m)) := fun m hp hs => take_spec HZ.out HM.out hp hs
    have HLn : Aside ((withoutL l x).length ≤ 80) := by have := without_len l x; show _ ≤ _; omega
    clear HZ HBX c0 c1 c2 c3 c4 h40
    have hB0 := hW0.size
    go_region_law (first
      | (refine step_rows rfl _ _ rfl W0.heap.size v (withoutL l x) (by first | (simp [Act.eval]; done) | fail) (hR.below ((Grown.refl w2).alloc _).below) (by have := HLn.out; omega) (by simp; omega) w2.heap.size x (by first | (simp [Act.eval]; done) | fail) (row_one_new w2 x _ rfl) ?_; clear hgo; intro v3 w3 hR3 hB3; have hs3 := hB3.size; (try simp at hs3); have hBB3 : Below W0.heap.size W0 w3 := hBB.trans (Below.trans (by first | exact ((Grown.refl w2).alloc _).below.mono (by omega) | exact Below.refl _ _) hB3); clear hB3)
      | (refine step_rows rfl _ _ rfl W0.heap.size v (withoutL l x) (by first | (simp [Act.eval]; done) | fail) hR (by have := HLn.out; omega) (by omega) W0.heap.size x (by first | (simp [Act.eval]; done) | fail) (old_one hq) ?_; clear hgo; intro v3 w3 hR3 hB3; have hs3 := hB3.size; (try simp at hs3); have hBB3 : Below W0.heap.size W0 w3 := hBB.trans (Below.trans (by first | exact ((Grown.refl w2).alloc _).below.mono (by omega) | exact Below.refl _ _) hB3); clear hB3)
      | (go_simp; go_at_call 26; refine (hw _ hW0.drew).mono ?_; clear hw; rintro e w2 ⟨v, rfl, hR, hB2⟩; replace hR := hR.mono (Nat.le_refl W0.heap.size); have hBB : Below W0.heap.size W0 w2 := (Below.refl _ W0).drew.trans hB2; have hq : True := trivial; clear hB2; obtain ⟨e1, e2, e3, e4⟩ : w2.cell? ⟨B2, 0, none⟩ = some (.int .i64 x.o) ∧ w2.cell? ⟨B2, 1, none⟩ = some (.int .i64 x.f) ∧ w2.cell? ⟨B2, 2, none⟩ = some (.int .i64 x.t) ∧ w2.cell? ⟨B2, 3, none⟩ = some (.bool x.a) := ⟨(hBB.cell (p := ⟨B2, 0, none⟩) hd2).trans d1, (hBB.cell (p := ⟨B2, 1, none⟩) hd2).trans d2, (hBB.cell (p := ⟨B2, 2, none⟩) hd2).trans d3, (hBB.cell (p := ⟨B2, 3, none⟩) hd2).trans d4⟩; have hs2 : W0.heap.size ≤ w2.heap.size := hBB.size; have hgo : True := trivial)
      | (go_simp; go_at_call 26; refine (hw _ (hW0.alloc hB0 (.cells #[.int .i64 x.o, .int .i64 x.f, .int .i64 x.t, .bool x.a] 24)).drew).mono ?_; clear hw; rintro e w2 ⟨v, rfl, hR, hB2⟩; replace hR := hR.mono (base' := W0.heap.size) (by simp); have hBX : Below (W0.heap.size + 1) (W0.alloc (.cells #[.int .i64 x.o, .int .i64 x.f, .int .i64 x.t, .bool x.a] 24)) w2 := (Below.refl _ _).drew.trans (hB2.mono (by simp)); have hBB : Below W0.heap.size W0 w2 := base1 hBX; have hq := (new4 (Nat.lt_succ_self _) hBX).1; clear hB2 hBX; obtain ⟨e1, e2, e3, e4⟩ : w2.cell? ⟨B2, 0, none⟩ = some (.int .i64 x.o) ∧ w2.cell? ⟨B2, 1, none⟩ = some (.int .i64 x.f) ∧ w2.cell? ⟨B2, 2, none⟩ = some (.int .i64 x.t) ∧ w2.cell? ⟨B2, 3, none⟩ = some (.bool x.a) := ⟨(hBB.cell (p := ⟨B2, 0, none⟩) hd2).trans d1, (hBB.cell (p := ⟨B2, 1, none⟩) hd2).trans d2, (hBB.cell (p := ⟨B2, 2, none⟩) hd2).trans d3, (hBB.cell (p := ⟨B2, 3, none⟩) hd2).trans d4⟩; have hs2 : W0.heap.size ≤ w2.heap.size := hBB.size; have hgo : True := trivial)
      | (go_simp; go_at_call 25; refine (joined_row (withoutL l x ++ [x]) W0.heap.size v3 w3 hR3 (by simp) (by have := HLn.out; simp; omega) (by omega)).mono ?_; clear hR3; rintro e w4 ⟨v4, m', rfl, hp, hs, hR4, hB4⟩; have HR4 : Aside (Rows w4 W0.heap.size v4 (joinL m')) := hR4; have HB4 : Aside (Below w.heap.size w w4) := hW0.trans ((hBB3.trans hB4).mono hB0); have HP : Aside (RightK (joinL m') ∧ HasSpec false l x (joinL m')) := HT.out m' hp hs; clear hR4 hB4 hp hs))
    all_goals go_wp2
    all_goals go_ret2
    all_goals exact ⟨v4, 0, joinL m', rfl, HR4.out.mono hB0, HB4.out, .inr ⟨rfl, .inr HM.out, HP.out⟩⟩
  · go_ret2
    exact ⟨.slice none 0 0, 13, [], rfl, Rows.nil _ _, HB1.out.alloc HB1.out.size _, .inl ⟨rfl, rfl, rfl, HM.out⟩⟩
end Go.Proofs.Ytampldoimpfjgab
