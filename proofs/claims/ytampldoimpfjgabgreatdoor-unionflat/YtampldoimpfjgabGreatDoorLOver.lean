/-
  layer.Wrong and layer.Over: what is wrong with a layer, and the tree that is seen.
-/
import Derived.Test.YtampldoimpfjgabGreatDoorLWalks2
import Derived.Test.YtampldoimpfjgabGreatDoorLSort
import Derived.Test.YtampldoimpfjgabGreatDoorTRem
namespace Go.Proofs.YtampldoimpfjgabGreatDoor
open Go.RowKit PM Go.Sort
set_option linter.unusedVariables false

theorem wrongLayer_any (t : List Ent) (m : Int) (p : Option Addr) (cap : Nat) (w : World) (hL : Lies w p t) (hF : Fits t) (hn : t.length < 4611686018427387904) (hcap : t.length ≤ cap) (hm : w.cell? ⟨0, 0, none⟩ = some (.int .i64 m)) :
    Calls Tryz.prog 112 #[.slice p t.length cap] w fun r w' => r = .returned (.agg #[.int .i64 (faultL true t).1, .int .i64 ((faultL true t).2 : Nat)]) ∧ Below w.heap.size w w' := by
  have hs := fun W (hB : Below w.heap.size w W) => firstFault_any t true m p cap W (hL.kept hB) hF hn hcap (held hB hm)
  generalize (faultL true t).1 = a at hs ⊢
  generalize ((faultL true t).2 : Int) = b at hs ⊢
  go_enter Tryz.func112, Tryz.ntmps112
  go_wp2_with (go_at_call 67; refine (hs _ ((Below.refl _ _).alloc (Nat.le_refl _) _)).mono ?_; clear hs; rintro rr w1 ⟨rfl, hB1⟩; obtain ⟨⟨r0, r1⟩, ⟨f0, f1⟩⟩ := new2 (by simp) hB1)
  refine bodyPost_ret (v := .agg #[.int .i64 a, .int .i64 b]) (by simp [results, Tryz.results112, go_sem, r0, r1]) rfl ?_
  exact ⟨rfl, own_store2 (hB1.mono (by simp)) _ _⟩
theorem layerWrong_any (t : List Ent) (m : Int) (p : Option Addr) (cap : Nat) (w : World) (hL : Lies w p t) (hF : Fits t) (hn : t.length < 4611686018427387904) (hcap : t.length ≤ cap) (hm : w.cell? ⟨0, 0, none⟩ = some (.int .i64 m)) :
    Calls Tryz.prog 69 #[.slice p t.length cap] w fun r w' => r = .returned (.agg #[.int .i64 (faultL true t).1, .int .i64 ((faultL true t).2 : Nat)]) ∧ Below w.heap.size w w' := by
  have hs := fun W (hB : Below w.heap.size w W) => wrongLayer_any t m p cap W (hL.kept hB) hF hn hcap (held hB hm)
  generalize (faultL true t).1 = a at hs ⊢
  generalize ((faultL true t).2 : Int) = b at hs ⊢
  go_enter Tryz.func69, Tryz.ntmps69
  go_wp2_with (go_at_call 112; refine (hs _ ((Below.refl _ _).alloc (Nat.le_refl _) _)).mono ?_; clear hs; rintro rr w1 ⟨rfl, hB1⟩; obtain ⟨⟨r0, r1⟩, ⟨f0, f1⟩⟩ := new2 (by simp) hB1)
  refine bodyPost_ret (v := .agg #[.int .i64 a, .int .i64 b]) (by simp [results, Tryz.results69, go_sem, r0, r1]) rfl ?_
  exact ⟨rfl, own_store2 (hB1.mono (by simp)) _ _⟩

/-- 'append(v, t...)': entries behind a row of the call's own. -/
theorem append_rows {ops : Array Oper} {rest : List Oper} {o : Oper} {a : Act} {Q : Exit → Act → World → Prop} (X : World) (hgd : o.guard = none) (s x : Operand)
    (ho : o.op = .call { callee := .builtin .append, args := #[s, x], argTypes := #[23, 23] }) (base : Nat) (v : Value) (l : List Ent) (hs : a.eval s = v) (hrow : Rows X base v l) (hlen : l.length ≤ 80) (hbase : base ≤ X.heap.size)
    (p : Option Addr) (n cap : Nat) (t : List Ent) (hx : a.eval x = .slice p n cap) (hn : n = t.length) (hL : Lies X p t) (hnil : p = none → cap = 0) (h80 : n ≤ 80)
    (h : ∀ v' w', Rows w' base v' (l ++ t) → Below base X w' → wpList Tryz.prog ops Q rest (a.put o.dst v') w') :
    wpList Tryz.prog ops Q (o :: rest) a X := by
  obtain ⟨i0, hi, hz0, hz1, hz2⟩ := info38
  cases p with
  | none =>
    obtain rfl : cap = 0 := hnil rfl
    have ht : t = [] := by
      rcases hL with h | ⟨b, off, he, _⟩
      · exact h
      · cases he
    subst ht
    obtain rfl : n = 0 := hn
    refine wpList_append_own_none hgd s x 23 ho base 28 i0 4 Tryz.underlying23 hi v l.length (l.flatMap encE) hs hrow hx ?_
    exact h v X (by rw [List.append_nil]; exact hrow) (Below.refl _ _)
  | some ad =>
    refine wpList_append_own X hgd s x 23 ho base 28 i0 _ 4 48 Tryz.underlying23 hi hz0 hz1 hz2 rfl (by decide) v l.length (l.flatMap encE) hs hrow ad n cap (t.flatMap encE) hx (by rw [flat_len, hn]) (hL.flat (Below.refl _ _)) (fun u hu => flat_one hu) (by unfold maxLen; omega) (by omega) hbase ?_
    intro v' w' hown hg _
    refine h v' w' ?_ ((Below.refl base X).grown hg hbase (fun j hj => (World.ownsRow.lt hrow j hj).1))
    unfold Rows
    rw [List.length_append, List.flatMap_append, ← hn]
    exact hown

/-- A tree and a number; the tree in memory of the call's own. -/
def NewPost (err : Int) (l : List Ent) (w : World) (e : Ending) (w' : World) : Prop :=
  ∃ p c, e = .returned (.tuple #[.slice p l.length c, .int .i64 err]) ∧ Lies w' p l ∧ l.length ≤ c ∧ (p = none → c = 0) ∧ Below w.heap.size w w' ∧ ∀ b off s, p = some ⟨b, off, s⟩ → w.heap.size ≤ b
theorem NewPost.none {err : Int} {w w' : World} (hB : Below w.heap.size w w') : NewPost err [] w (.returned (.tuple #[.slice .none 0 0, .int .i64 err])) w' := ⟨.none, 0, rfl, Lies.nil _ _, Nat.le_refl _, fun _ => rfl, hB, nofun⟩
theorem NewPost.tree {err : Int} {l : List Ent} {w w' : World} {e : Ending} (h : NewPost err l w e w') : TreePost err l w e w' := by
  obtain ⟨p, c, h1, h2, h3, h4, h5, _⟩ := h
  exact ⟨p, c, h1, h2, h3, h4, h5⟩
/-- The library's sort of a row of the call's own: what is seen. -/
theorem sort_rows {w w7 : World} {v : Value} {l t : List Ent} (h : Rows w7 w.heap.size v (ownL l ++ thruL l t)) (hP : ∀ e ∈ ownL l ++ thruL l t, e.path.size ≤ maxLen) (h80 : (ownL l ++ thruL l t).length ≤ 80) (hB : Below w.heap.size w w7) (hl : Sorted l) (ht : Sorted t) :
    ∃ p c, v = .slice p (ownL l ++ thruL l t).length c ∧ (ownL l ++ thruL l t).length ≤ c ∧ (p = none → c = 0) ∧ (∀ b off s, p = some ⟨b, off, s⟩ → w.heap.size ≤ b) ∧
      Calls Tryz.prog 91 #[.slice p (ownL l ++ thruL l t).length c, .func (.func 75) #[] #[]] w7 fun e w8 => e = .returned (.tuple #[]) ∧ Lies w8 p (overL l t) ∧ Below w.heap.size w w8 := by
  by_cases hv : v = .slice none 0 0
  · obtain ⟨p, c, hvv, hL, hc, hn⟩ := h.form
    rw [hv] at hvv
    have h0 : (ownL l ++ thruL l t).length = 0 := by injection hvv with _ h _; exact h.symm
    have hp : p = none := by injection hvv with h _ _; exact h.symm
    have hc0 : c = 0 := hn hp
    subst hp hc0
    have he := List.eq_nil_of_length_eq_zero h0
    refine ⟨none, 0, by rw [hv, h0], by omega, fun _ => rfl, nofun, ?_⟩
    rw [h0]
    refine (sort_nil w7).mono ?_
    rintro e w8 ⟨rfl, rfl⟩
    have : overL l t = [] := (over_of hl ht (r := []) (by rw [he]) List.Pairwise.nil).symm
    rw [this]
    exact ⟨rfl, Lies.nil _ _, hB⟩
  · obtain ⟨g, c, e, hg, ho⟩ := Own.of_row h hv rfl
    refine ⟨_, c, e, ho.len, nofun, fun b off s he => by cases he; exact hg, ?_⟩
    refine (sort_any _ g c w7 ho hP h80).mono ?_
    rintro e w8 ⟨rfl, l', hp, hs, hL, hG⟩
    rw [over_of hl ht hp hs] at hL
    exact ⟨rfl, hL, hB.grown hG hB.size (fun k hk => by cases hk; exact hg)⟩
set_option maxHeartbeats 8000000 in
set_option maxRecDepth 100000 in
theorem over_new (l t : List Ent) (m : Int) (pl p : Option Addr) (capl cap : Nat) (w : World) (hLl : Lies w pl l) (hL : Lies w p t) (hFl : Fits l) (hF : Fits t) (hnl : l.length < 4611686018427387904) (hn : t.length < 4611686018427387904) (hcapl : l.length ≤ capl) (hcap : t.length ≤ cap) (hm : w.cell? ⟨0, 0, none⟩ = some (.int .i64 m)) :
    Calls Tryz.prog 114 #[.slice pl l.length capl, .slice p t.length cap] w (NewPost (overErr l t) (if overErr l t = 0 then overL l t else []) w) := by
  have hwl := fun W (hB : Below w.heap.size w W) => layerWrong_any l m pl capl W (hLl.kept hB) hFl hnl hcapl (held hB hm)
  have hwt := fun W (hB : Below w.heap.size w W) => wrong_any t m p cap W (hL.kept hB) hF hn hcap (held hB hm)
  have hB : Below w.heap.size w w := Below.refl _ _
  have hfld := field40
  obtain ⟨er, hE⟩ : ∃ er, er = overErr l t := ⟨_, rfl⟩
  obtain ⟨rl, hl⟩ : ∃ rl, rl = if overErr l t = 0 then overL l t else [] := ⟨_, rfl⟩
  rw [← hl, ← hE]
  by_cases h1 : (faultL true l).1 = 0
  · by_cases h2 : (faultL false t).1 = 0
    · have HRl := faultL_zero.1 h1
      have HRt := faultL_zero.1 h2
      have hl80 := HRl.len
      have ht80 := HRt.len
      have how := fun W (hB : Below w.heap.size w W) => own_any l pl capl W (hLl.kept hB) hl80
      have hth := fun W (hB : Below w.heap.size w W) => through_any l t pl p capl cap W (hLl.kept hB) (hL.kept hB) hFl hF HRl.sorted hl80 ht80
      have HS : Aside (Sorted l ∧ Sorted t) := ⟨HRl.sorted, HRt.sorted⟩
      have ho80 : (ownL l).length ≤ 80 := by
        have := own_take_len l l.length
        rw [List.take_length] at this; omega
      have hh80 : (thruL l t).length ≤ 80 := by
        have := thru_take_len l t t.length
        rw [List.take_length] at this; omega
      have HP : Aside (∀ e ∈ ownL l ++ thruL l t, e.path.size ≤ maxLen) := fun e he => by
        rcases List.mem_append.1 he with he | he
        · obtain ⟨y, hy, _, rfl⟩ := mem_ownL.1 he
          exact (hFl y hy).1
        · exact (hF e (mem_thruL.1 he).1).1
      have HN : Aside (overN l t = (ownL l ++ thruL l t).length) := rfl
      have HOV : er = if 80 < overN l t then 5 else 0 := by rw [hE, overErr, if_pos h1, if_pos h2]
      have HRL : Aside (rl = if er = 0 then overL l t else []) := by show _ = _; rw [hl, hE]
      have HON : Aside (overN l t = (overL l t).length) := (over_len HRl.sorted HRt.sorted).symm
      rw [faultL_right HRl] at hwl
      rw [faultL_right HRt] at hwt
      clear hl hE h1 h2 HRl HRt hLl hL hFl hF hm
      obtain ⟨n, hnn⟩ : ∃ n, n = t.length := ⟨_, rfl⟩
      obtain ⟨nl, hnnl⟩ : ∃ nl, nl = l.length := ⟨_, rfl⟩
      rw [← hnn] at hwt hth
      rw [← hnnl] at hwl how hth
      rw [← hnn, ← hnnl]
      clear hnn hnnl hcapl hcap hn hnl hl80 ht80
      by_cases hN : 80 < overN l t
      · have HZ : Aside (er = 5 ∧ rl = []) := by rw [if_pos hN] at HOV; exact ⟨HOV, by rw [HRL.out, HOV]; rfl⟩
        have hNz : (80 : Int) < ((overN l t : Nat) : Int) := by omega
        clear HOV
        go_enter Tryz.func114, Tryz.ntmps114
        go_wp2_with (first
          | (go_at_call 69; refine (hwl _ hB).mono ?_; clear hwl; rintro e w1 ⟨rfl, hN1⟩; replace hB := Below.onto hB hN1; clear hN1)
          | (go_at_call 31; refine (hwt _ hB).mono ?_; clear hwt; rintro e w2 ⟨rfl, hN2⟩; replace hB := Below.onto hB hN2; clear hN2)
          | (go_at_call 38; refine (or2_any _ _ _).mono ?_; rintro e w4 ⟨rfl, hw⟩; subst hw; replace hB := hB.alloc hB.size (.cells #[.int .i64 0, .int .i64 0] 30); rw [show orL [0, 0] = 0 from rfl])
          | (go_at_call 150; refine (how _ hB).mono ?_; clear how; rintro e w5 ⟨⟨v5, rfl, hR5⟩, hN5⟩; replace hR5 := hR5.mono hB.size; replace hB := Below.onto hB hN5; clear hN5)
          | (go_at_call 151; refine (hth _ hB).mono ?_; clear hth; rintro e w6 ⟨⟨v6, rfl, hR6⟩, hN6⟩; replace hR5 := hR5.below hN6; replace hB := Below.onto hB hN6; clear hN6; obtain ⟨p6, c6, rfl, hL6, hc6, hn6⟩ := hR6.form; clear hR6)
          | (at_builtin; refine append_rows w6 rfl _ _ rfl w.heap.size _ (ownL l) rfl hR5 ho80 hB.size p6 _ c6 (thruL l t) rfl rfl hL6 hn6 hh80 ?_; intro v7 w7 hR7 hB7; replace hB := hB.trans hB7; clear hB7 hR5 hL6; obtain ⟨p7, c7, rfl, hL7, hc7, hn7⟩ := hR7.form; rw [← HN.out] at hc7 ⊢))
        go_ret2
        rw [HZ.out.1, HZ.out.2]
        exact NewPost.none hB
      · have HZ : Aside (er = 0 ∧ rl = overL l t) := by rw [if_neg hN] at HOV; exact ⟨HOV, by rw [HRL.out, HOV]; rfl⟩
        have hNz : ¬ (80 : Int) < ((overN l t : Nat) : Int) := by omega
        clear HOV
        go_enter Tryz.func114, Tryz.ntmps114
        go_wp2_with (first
          | (go_at_call 69; refine (hwl _ hB).mono ?_; clear hwl; rintro e w1 ⟨rfl, hN1⟩; replace hB := Below.onto hB hN1; clear hN1)
          | (go_at_call 31; refine (hwt _ hB).mono ?_; clear hwt; rintro e w2 ⟨rfl, hN2⟩; replace hB := Below.onto hB hN2; clear hN2)
          | (go_at_call 38; refine (or2_any _ _ _).mono ?_; rintro e w4 ⟨rfl, hw⟩; subst hw; replace hB := hB.alloc hB.size (.cells #[.int .i64 0, .int .i64 0] 30); rw [show orL [0, 0] = 0 from rfl])
          | (go_at_call 150; refine (how _ hB).mono ?_; clear how; rintro e w5 ⟨⟨v5, rfl, hR5⟩, hN5⟩; replace hR5 := hR5.mono hB.size; replace hB := Below.onto hB hN5; clear hN5)
          | (go_at_call 151; refine (hth _ hB).mono ?_; clear hth; rintro e w6 ⟨⟨v6, rfl, hR6⟩, hN6⟩; replace hR5 := hR5.below hN6; replace hB := Below.onto hB hN6; clear hN6; obtain ⟨p6, c6, rfl, hL6, hc6, hn6⟩ := hR6.form; clear hR6)
          | (at_builtin; refine append_rows w6 rfl _ _ rfl w.heap.size _ (ownL l) rfl hR5 ho80 hB.size p6 _ c6 (thruL l t) rfl rfl hL6 hn6 hh80 ?_; intro v7 w7 hR7 hB7; replace hB := hB.trans hB7; clear hB7 hR5 hL6; obtain ⟨p7, c7, rfl, hc7, hn7, hnw7, hso⟩ := sort_rows hR7 (HP.out) (by rw [← HN.out]; omega) hB HS.out.1 HS.out.2; rw [← HN.out] at hc7 hso ⊢)
          | (go_at_call 91; refine hso.mono ?_; clear hso; rintro e w8 ⟨rfl, hL8, hB8⟩))
        go_ret2
        rw [HZ.out.1, HZ.out.2]
        exact ⟨p7, c7, by rw [← HON.out]; rfl, hL8, by rw [← HON.out]; exact hc7, hn7, hB8, hnw7⟩
    · have HZ : Aside (er = (faultL false t).1 ∧ rl = []) := by
        have : er = (faultL false t).1 := by rw [hE, overErr, if_pos h1, if_neg h2]
        refine ⟨this, ?_⟩
        rw [hl, ← hE, this, if_neg h2]
      rw [h1] at hwl
      generalize (faultL false t).1 = f at hwt h2 HZ
      generalize ((faultL false t).2 : Int) = fa at hwt
      generalize ((faultL true l).2 : Int) = fb at hwl
      clear hl hE hLl hL hFl hF hm
      obtain ⟨n, hnn⟩ : ∃ n, n = t.length := ⟨_, rfl⟩
      obtain ⟨nl, hnnl⟩ : ∃ nl, nl = l.length := ⟨_, rfl⟩
      rw [← hnn] at hwt
      rw [← hnnl] at hwl
      rw [← hnn, ← hnnl]
      clear hnn hnnl hcapl hcap hn hnl
      have HOR : Aside (orL [0, f] = f) := by show _ = _; rw [orL, if_pos rfl, orL]; split <;> simp_all
      go_enter Tryz.func114, Tryz.ntmps114
      go_wp2_with (first
        | (go_at_call 69; refine (hwl _ hB).mono ?_; clear hwl; rintro e w1 ⟨rfl, hN1⟩; replace hB := Below.onto hB hN1; clear hN1)
        | (go_at_call 31; refine (hwt _ hB).mono ?_; clear hwt; rintro e w2 ⟨rfl, hN2⟩; replace hB := Below.onto hB hN2; clear hN2)
        | (go_at_call 38; refine (or2_any _ _ _).mono ?_; rintro e w4 ⟨rfl, hw⟩; subst hw; replace hB := hB.alloc hB.size (.cells #[.int .i64 0, .int .i64 f] 30); rw [HOR.out]))
      go_ret2
      rw [HZ.out.1, HZ.out.2]
      exact NewPost.none hB
  · have HZ : Aside (er = (faultL true l).1 ∧ rl = []) := by
      have : er = (faultL true l).1 := by rw [hE, overErr, if_neg h1]
      refine ⟨this, ?_⟩
      rw [hl, ← hE, this, if_neg h1]
    generalize (faultL false t).1 = f at hwt
    generalize ((faultL false t).2 : Int) = fa at hwt
    generalize (faultL true l).1 = g at hwl h1 HZ
    generalize ((faultL true l).2 : Int) = fb at hwl
    clear hl hE hLl hL hFl hF hm
    obtain ⟨n, hnn⟩ : ∃ n, n = t.length := ⟨_, rfl⟩
    obtain ⟨nl, hnnl⟩ : ∃ nl, nl = l.length := ⟨_, rfl⟩
    rw [← hnn] at hwt
    rw [← hnnl] at hwl
    rw [← hnn, ← hnnl]
    clear hnn hnnl hcapl hcap hn hnl
    have HOR : Aside (orL [g, f] = g) := by show _ = _; rw [orL, if_neg h1]
    go_enter Tryz.func114, Tryz.ntmps114
    go_wp2_with (first
      | (go_at_call 69; refine (hwl _ hB).mono ?_; clear hwl; rintro e w1 ⟨rfl, hN1⟩; replace hB := Below.onto hB hN1; clear hN1)
      | (go_at_call 31; refine (hwt _ hB).mono ?_; clear hwt; rintro e w2 ⟨rfl, hN2⟩; replace hB := Below.onto hB hN2; clear hN2)
      | (go_at_call 38; refine (or2_any _ _ _).mono ?_; rintro e w4 ⟨rfl, hw⟩; subst hw; replace hB := hB.alloc hB.size (.cells #[.int .i64 g, .int .i64 f] 30); rw [HOR.out]))
    go_ret2
    rw [HZ.out.1, HZ.out.2]
    exact NewPost.none hB
theorem over_any (l t : List Ent) (m : Int) (pl p : Option Addr) (capl cap : Nat) (w : World) (hLl : Lies w pl l) (hL : Lies w p t) (hFl : Fits l) (hF : Fits t) (hnl : l.length < 4611686018427387904) (hn : t.length < 4611686018427387904) (hcapl : l.length ≤ capl) (hcap : t.length ≤ cap) (hm : w.cell? ⟨0, 0, none⟩ = some (.int .i64 m)) :
    Calls Tryz.prog 114 #[.slice pl l.length capl, .slice p t.length cap] w (TreePost (overErr l t) (if overErr l t = 0 then overL l t else []) w) :=
  (over_new l t m pl p capl cap w hLl hL hFl hF hnl hn hcapl hcap hm).mono fun _ _ h => h.tree
end Go.Proofs.YtampldoimpfjgabGreatDoor
