/-
  tree.without: a copy in new memory, but for what is at a path.
-/
import Derived.Test.YtampldoimpfjgabGreatDoorTDel
namespace Go.Proofs.YtampldoimpfjgabGreatDoor
open Go.RowKit PM Go.Sort
set_option linter.unusedVariables false

theorem info38 : ∃ i0, Tryz.prog.info? 28 = some i0 ∧ i0.zero = some (.agg #[.string ⟨#[]⟩, .int .i64 0, .string ⟨#[]⟩, .bool false]) ∧ i0.size = 4 ∧ i0.bytes = 48 := by
  have h : (Tryz.prog.info? 28).map (fun i => (i.zero, i.size, i.bytes)) = some (some (.agg #[.string ⟨#[]⟩, .int .i64 0, .string ⟨#[]⟩, .bool false]), 4, 48) := by kernel_rfl
  cases hi : Tryz.prog.info? 28 with
  | none => rw [hi] at h; cases h
  | some i0 =>
    rw [hi] at h
    simp only [Option.map_some, Option.some.injEq, Prod.mk.injEq] at h
    exact ⟨i0, rfl, h.1, h.2.1, h.2.2⟩
theorem flat_get {t : List Ent} {k : Nat} {u : Value} (h : (t.flatMap encE)[k]? = some u) : ∃ j e i, t[j]? = some e ∧ (encE e)[i]? = some u ∧ k = j * 4 + i := by
  induction t generalizing k with
  | nil => simp at h
  | cons x r ih =>
    rw [List.flatMap_cons] at h
    by_cases hk : k < 4
    · rw [List.getElem?_append_left (by rw [encE_len]; exact hk)] at h
      exact ⟨0, x, k, rfl, h, by omega⟩
    · rw [List.getElem?_append_right (by rw [encE_len]; omega), encE_len] at h
      obtain ⟨j, e, i, h1, h2, h3⟩ := ih h
      exact ⟨j + 1, e, i, by simpa using h1, h2, by omega⟩
theorem flat_at {t : List Ent} {j i : Nat} {e : Ent} {v : Value} (h : t[j]? = some e) (hv : (encE e)[i]? = some v) : (t.flatMap encE)[j * 4 + i]? = some v := by
  have hi := encE_lt hv
  induction t generalizing j with
  | nil => simp at h
  | cons x r ih =>
    rw [List.flatMap_cons]
    cases j with
    | zero => simp at h; subst h; rw [List.getElem?_append_left (by rw [encE_len]; omega)]; simpa using hv
    | succ j =>
      rw [List.getElem?_append_right (by rw [encE_len]; omega), encE_len, show (j + 1) * 4 + i - 4 = j * 4 + i by omega]
      exact ih (by simpa using h)
theorem flat_one {t : List Ent} {u : Value} (h : u ∈ t.flatMap encE) : u.oneCell' = true := by
  obtain ⟨e, _, he⟩ := List.mem_flatMap.1 h
  simp [encE] at he
  rcases he with rfl | rfl | rfl | rfl <;> rfl
theorem Lies.flat {w : World} {ad : Addr} {t : List Ent} (h : Lies w (some ad) t) {W : World} (hW : Below w.heap.size w W) : ∀ j u, (t.flatMap encE)[j]? = some u → W.cell? (ad.add j) = some u := by
  intro k u hu
  obtain ⟨j, e, i, h1, h2, rfl⟩ := flat_get hu
  rcases h with rfl | ⟨b, off, he, hb, hc⟩
  · simp at h1
  · cases he
    rw [Addr.add_lit, hW.cell (p := ⟨b, off + (j * 4 + i), none⟩) hb, ← Nat.add_assoc]
    exact hc j e h1 i u h2
theorem Own.of_row {w : World} {base n : Nat} {v : Value} {t : List Ent} (h : w.ownsRow base 28 4 v n (t.flatMap encE)) (hv : v ≠ .slice none 0 0) (hn : n = t.length) : ∃ g c, v = .slice (some ⟨g, 0, none⟩) t.length c ∧ base ≤ g ∧ Own w g c t := by
  obtain ⟨h1, h2 | ⟨g, cap, cur, hv', hg, hh, hnc, hm, hs, ht⟩⟩ := h
  · exact absurd h2.1 hv
  · subst hn
    refine ⟨g, cap, hv', hg, cur, hh, hs, hnc, hm, fun j e he i v hvv => ?_⟩
    have := flat_at he hvv
    rw [← ht, List.getElem?_take] at this
    split at this
    · rw [← Array.getElem?_toList]; exact this
    · cases this
theorem empty_row (w : World) (H : Nat) (hH : H = w.heap.size) : (w.alloc (.cells #[] 28)).ownsRow H 28 4 (.slice (some ⟨H, 0, none⟩) 0 0) 0 [] := by
  subst hH
  exact ⟨rfl, .inr ⟨w.heap.size, 0, #[], rfl, Nat.le_refl _, (by show (w.heap.push _)[w.heap.size]? = _; simp), Nat.le_refl _, by decide, rfl, rfl⟩⟩
/-- 'append(api.Tree{}, t...)': a copy in memory of the call's own. -/
theorem append_copy {ops : Array Oper} {rest : List Oper} {o : Oper} {a : Act} {Q : Exit → Act → World → Prop} (W : World) (hgd : o.guard = none) (s x : Operand)
    (ho : o.op = .call { callee := .builtin .append, args := #[s, x], argTypes := #[23, 23] }) (H : Nat) (hs : a.eval s = .slice (some ⟨H, 0, none⟩) 0 0) (hown : W.ownsRow H 28 4 (.slice (some ⟨H, 0, none⟩) 0 0) 0 [])
    (p : Option Addr) (n cap : Nat) (t : List Ent) (hx : a.eval x = .slice p n cap) (hn : n = t.length) (hL : Lies W p t) (hnil : p = none → cap = 0) (h80 : n ≤ 80) (hH : H ≤ W.heap.size)
    (h : ∀ g c w', Own w' g c t → H ≤ g → Below H W w' → wpList Tryz.prog ops Q rest (a.put o.dst (.slice (some ⟨g, 0, none⟩) n c)) w') : wpList Tryz.prog ops Q (o :: rest) a W := by
  obtain ⟨i0, hi, hz0, hz1, hz2⟩ := info38
  cases p with
  | none =>
    obtain rfl : cap = 0 := hnil rfl
    have ht : t = [] := by
      rcases hL with h | ⟨b, off, he, _⟩
      · exact h
      · cases he
    subst ht
    obtain rfl : n = 0 := hn
    refine wpList_append_own_none hgd s x 23 ho H 28 i0 4 Tryz.underlying23 hi _ 0 [] hs hown hx ?_
    obtain ⟨g, c, hv, hg, ho'⟩ := Own.of_row (t := []) hown (by simp) rfl
    simp only [List.length_nil] at hv
    rw [hv]
    exact h g c W ho' hg (Below.refl _ _)
  | some ad =>
    refine wpList_append_own W hgd s x 23 ho H 28 i0 _ 4 48 Tryz.underlying23 hi hz0 hz1 hz2 rfl (by decide) _ 0 [] hs hown ad n cap (t.flatMap encE) hx (by rw [flat_len, hn]) (hL.flat (Below.refl _ _)) (fun u hu => flat_one hu) (by unfold maxLen; omega) (by omega) hH ?_
    intro v' w' hrow hg hiff
    rw [List.nil_append, Nat.zero_add] at hrow
    obtain ⟨g, c, hv, hgg, ho'⟩ := Own.of_row hrow (by intro e; have := (hiff.1 e).1; cases this) hn
    rw [hv, ← hn]
    exact h g c w' ho' hgg ((Below.refl H W).grown hg hH (fun k hk => by simp [Value.ownBlock] at hk; omega))

def WithoutPost (t : List Ent) (q : List UInt8) (w : World) (e : Ending) (w' : World) : Prop :=
  ∃ g c, e = .returned (.slice (some ⟨g, 0, none⟩) (remL t q).length c) ∧ w.heap.size ≤ g ∧ Own w' g c (remL t q) ∧ Below w.heap.size w w'
set_option maxHeartbeats 4000000 in
theorem without_any (t : List Ent) (q : ByteArray) (p : Option Addr) (cap : Nat) (w : World) (hL : Lies w p t) (hnil : p = none → cap = 0) (hn : t.length ≤ 80) :
    Calls Tryz.prog 49 #[.slice p t.length cap, .string q] w (WithoutPost t q.data.toList w) := by
  have eg : ∀ args w, (callFunc 88 args).run Tryz.prog w = .ok (.enter 88 args) w := enters_of Tryz.func88 (by kernel_rfl) rfl
  have hdel : ∀ (g c : Nat) (W : World), Own W g c t → w.heap.size + 1 ≤ g → Below (w.heap.size + 1) (w.alloc (.cells #[.string q] 9)) W →
      Calls Tryz.prog 82 #[.slice (some ⟨g, 0, none⟩) t.length c, .func (.func 88) #[] #[.pointer (some ⟨w.heap.size, 0, none⟩)]] W fun e w' => e = .returned (.slice (some ⟨g, 0, none⟩) (remL t q.data.toList).length c) ∧ Own w' g c (remL t q.data.toList) ∧ Below (w.heap.size + 1) (w.alloc (.cells #[.string q] 9)) w' := by
    intro g c W hO hg hB
    have hBs := hB.size
    simp at hBs
    refine (delete_any (fun e => decide (e.p = q.data.toList)) 88 #[.pointer (some ⟨w.heap.size, 0, none⟩)] eg t g c W hO (by omega) (fun W2 x hG hx => withoutP_any x q w.heap.size W2 (by have := hG.size; omega) ?_)).mono ?_
    · rw [gby_cell hG (by show w.heap.size < W.heap.size; omega) (by show w.heap.size ≠ g; omega), hB.cell (p := ⟨w.heap.size, 0, none⟩) (by simp)]
      simp
    · rintro e w' ⟨rfl, hO', hG⟩
      exact ⟨rfl, hO', hB.grown hG (by simpa using hBs) (fun k hk => by simp at hk; omega)⟩
  have HL : Aside (Lies w p t) := hL
  clear hL eg
  obtain ⟨n, hnl⟩ : ∃ n, n = t.length := ⟨_, rfl⟩
  have HN : Aside (n = t.length) := hnl
  rw [← hnl] at hn hdel ⊢
  clear hnl
  generalize hrl : (remL t q.data.toList).length = rl at hdel
  have HR : Aside ((remL t q.data.toList).length = rl) := hrl
  clear hrl
  go_enter Tryz.func49, Tryz.ntmps49
  go_wp2_with (at_builtin; refine append_copy _ rfl _ _ rfl (w.heap.size + 1) rfl ?_ p n cap t rfl HN.out ?_ hnil hn ?_ ?_)
  · exact empty_row (w.alloc (.cells #[.string q] 9)) _ (by simp)
  · exact (HL.out.grown ((Grown.refl w).alloc _)).grown ((Grown.refl _).alloc _)
  · simp
  · intro g c w1 hO hg hB
    have hB' : Below (w.heap.size + 1) (w.alloc (.cells #[.string q] 9)) w1 := ((Below.refl _ _).alloc (by simp) _).trans hB
    have hcall := hdel g c w1 hO hg hB'
    clear hdel
    have H1 : Aside (w.heap.size + 1 ≤ g) := hg
    clear hO hB hg
    go_wp2_with (go_at_call 82; refine hcall.mono ?_; clear hcall; rintro e w2 ⟨rfl, hO2, hB2⟩)
    go_ret
    exact ⟨g, c, by rw [HR.out]; rfl, by have := H1.out; omega, hO2, base1 hB2⟩
end Go.Proofs.YtampldoimpfjgabGreatDoor
