/-
  tree.without: a copy in new memory, but for what is at a path.
-/
import Derived.Test.YthfeoiffoeagkaaGreatDoorQA4
import Derived.Shelf.Spec.SlicesInsertGrow
namespace Go.Proofs.YthfeoiffoeagkaaGreatDoor
open Go.RowKit PM Go.Sort
set_option linter.unusedVariables false
theorem info38 : ∃ i0, Tryz.prog.info? 53 = some i0 ∧ i0.zero = some (.agg #[.string ⟨#[]⟩, .int .i64 0, .string ⟨#[]⟩, .bool false]) ∧ i0.size = 4 ∧ i0.bytes = 48 := by
 have h : (Tryz.prog.info? 53).map (fun i => (i.zero, i.size, i.bytes)) = some (some (.agg #[.string ⟨#[]⟩, .int .i64 0, .string ⟨#[]⟩, .bool false]), 4, 48) := by kernel_rfl
 cases hi : Tryz.prog.info? 53 with
 | none => rw [hi] at h; cases h
 | some i0 =>
  rw [hi] at h
  simp only [Option.map_some, Option.some.injEq, Prod.mk.injEq] at h
  exact ⟨i0, rfl, h.1, h.2.1, h.2.2⟩
theorem flat_get {t : List Ent} {k : Nat} {u : Value} (h : (t.flatMap encE)[k]? = some u) : ∃ j e i, t[j]? = some e ∧ (encE e)[i]? = some u ∧ k = j * 4 + i := by
 induction t generalizing k with
 | nil => simp at h
 | cons x r ih =>
  rw [List.flatMap_cons] at h
  by_cases hk : k < 4
  ·rw [List.getElem?_append_left (by rw [encE_len]; exact hk)] at h
   exact ⟨0, x, k, rfl, h, by omega⟩
  ·rw [List.getElem?_append_right (by rw [encE_len]; omega), encE_len] at h
   obtain ⟨j, e, i, h1, h2, h3⟩ := ih h
   exact ⟨j + 1, e, i, by simpa using h1, h2, by omega⟩
theorem flat_at {t : List Ent} {j i : Nat} {e : Ent} {v : Value} (h : t[j]? = some e) (hv : (encE e)[i]? = some v) : (t.flatMap encE)[j * 4 + i]? = some v := by
 have hi := encE_lt hv
 induction t generalizing j with
 | nil => simp at h
 | cons x r ih =>
  rw [List.flatMap_cons]
  cases j with
  | zero => simp at h; subst h; rw [List.getElem?_append_left (by rw [encE_len]; omega)]; simpa using hv
  | succ j =>
   rw [List.getElem?_append_right (by rw [encE_len]; omega), encE_len, show (j + 1) * 4 + i - 4 = j * 4 + i by omega]
   exact ih (by simpa using h)
theorem flat_one {t : List Ent} {u : Value} (h : u ∈ t.flatMap encE) : u.oneCell' = true := by
 obtain ⟨e, _, he⟩ := List.mem_flatMap.1 h
 simp [encE] at he
 rcases he with rfl | rfl | rfl | rfl <;> rfl
theorem Lies.flat {w : World} {ad : Addr} {t : List Ent} (h : Lies w (some ad) t) {W : World} (hW : Below w.heap.size w W) : ∀ j u, (t.flatMap encE)[j]? = some u → W.cell? (ad.add j) = some u := by
 intro k u hu
 obtain ⟨j, e, i, h1, h2, rfl⟩ := flat_get hu
 rcases h with rfl | ⟨b, off, he, hb, hc⟩
 ·simp at h1
 ·cases he
  rw [Addr.add_lit, hW.cell (p := ⟨b, off + (j * 4 + i), none⟩) hb, ← Nat.add_assoc]
  exact hc j e h1 i u h2
theorem Own.of_row {w : World} {base n : Nat} {v : Value} {t : List Ent} (h : w.ownsRow base 53 4 v n (t.flatMap encE)) (hv : v ≠ .slice none 0 0) (hn : n = t.length) : ∃ g c, v = .slice (some ⟨g, 0, none⟩) t.length c ∧ base ≤ g ∧ Own w g c t := by
 obtain ⟨h1, h2 | ⟨g, cap, cur, hv', hg, hh, hnc, hm, hs, ht⟩⟩ := h
 ·exact absurd h2.1 hv
 ·subst hn
  refine ⟨g, cap, hv', hg, cur, hh, hs, hnc, hm, fun j e he i v hvv => ?_⟩
  have := flat_at he hvv
  rw [← ht, List.getElem?_take] at this
  split at this
  ·rw [← Array.getElem?_toList]; exact this
  ·cases this
theorem empty_row (w : World) (H : Nat) (hH : H = w.heap.size) : (w.alloc (.cells #[] 53)).ownsRow H 53 4 (.slice (some ⟨H, 0, none⟩) 0 0) 0 [] := by
 subst hH
 exact ⟨rfl, .inr ⟨w.heap.size, 0, #[], rfl, Nat.le_refl _, (by show (w.heap.push _)[w.heap.size]? = _; simp), Nat.le_refl _, by decide, rfl, rfl⟩⟩
theorem append_copy {ops : Array Oper} {rest : List Oper} {o : Oper} {a : Act} {Q : Exit → Act → World → Prop} (W : World) (hgd : o.guard = none) (s x : Operand)
  (ho : o.op = .call { callee := .builtin .append, args := #[s, x], argTypes := #[23, 23] }) (H : Nat) (hs : a.eval s = .slice (some ⟨H, 0, none⟩) 0 0) (hown : W.ownsRow H 53 4 (.slice (some ⟨H, 0, none⟩) 0 0) 0 [])
  (p : Option Addr) (n cap : Nat) (t : List Ent) (hx : a.eval x = .slice p n cap) (hn : n = t.length) (hL : Lies W p t) (hnil : p = none → cap = 0) (h80 : n ≤ 80) (hH : H ≤ W.heap.size)
  (h : ∀ g c w', Own w' g c t → H ≤ g → Below H W w' → wpList Tryz.prog ops Q rest (a.put o.dst (.slice (some ⟨g, 0, none⟩) n c)) w') : wpList Tryz.prog ops Q (o :: rest) a W := by
 obtain ⟨i0, hi, hz0, hz1, hz2⟩ := info38
 cases p with
 | none =>
  obtain rfl : cap = 0 := hnil rfl
  have ht : t = [] := by
   rcases hL with h | ⟨b, off, he, _⟩
   ·exact h
   ·cases he
  subst ht
  obtain rfl : n = 0 := hn
  refine wpList_append_own_none hgd s x 23 ho H 53 i0 4 Tryz.underlying23 hi _ 0 [] hs hown hx ?_
  obtain ⟨g, c, hv, hg, ho'⟩ := Own.of_row (t := []) hown (by simp) rfl
  simp only [List.length_nil] at hv
  rw [hv]
  exact h g c W ho' hg (Below.refl _ _)
 | some ad =>
  refine wpList_append_own W hgd s x 23 ho H 53 i0 _ 4 48 Tryz.underlying23 hi hz0 hz1 hz2 rfl (by decide) _ 0 [] hs hown ad n cap (t.flatMap encE) hx (by rw [flat_len, hn]) (hL.flat (Below.refl _ _)) (fun u hu => flat_one hu) (by unfold maxLen; omega) (by omega) hH ?_
  intro v' w' hrow hg hiff
  rw [List.nil_append, Nat.zero_add] at hrow
  obtain ⟨g, c, hv, hgg, ho'⟩ := Own.of_row hrow (by intro e; have := (hiff.1 e).1; cases this) hn
  rw [hv, ← hn]
  exact h g c w' ho' hgg ((Below.refl H W).grown hg hH (fun k hk => by simp [Value.ownBlock] at hk; omega))
def WithoutPost (t : List Ent) (q : List UInt8) (w : World) (e : Ending) (w' : World) : Prop :=
 ∃ g c, e = .returned (.slice (some ⟨g, 0, none⟩) (remL t q).length c) ∧ w.heap.size ≤ g ∧ Own w' g c (remL t q) ∧ Below w.heap.size w w'
set_option maxHeartbeats 4000000 in
theorem without_any (t : List Ent) (q : ByteArray) (p : Option Addr) (cap : Nat) (w : World) (hL : Lies w p t) (hnil : p = none → cap = 0) (hn : t.length ≤ 80) :
  Calls Tryz.prog 219 #[.slice p t.length cap, .string q] w (WithoutPost t q.data.toList w) := by
 have eg : ∀ args w, (callFunc 255 args).run Tryz.prog w = .ok (.enter 255 args) w := enters_of Tryz.func255 (by kernel_rfl) rfl
 have hdel : ∀ (g c : Nat) (W : World), Own W g c t → w.heap.size + 1 ≤ g → Below (w.heap.size + 1) (w.alloc (.cells #[.string q] 9)) W →
   Calls Tryz.prog 220 #[.slice (some ⟨g, 0, none⟩) t.length c, .func (.func 255) #[] #[.pointer (some ⟨w.heap.size, 0, none⟩)]] W fun e w' => e = .returned (.slice (some ⟨g, 0, none⟩) (remL t q.data.toList).length c) ∧ Own w' g c (remL t q.data.toList) ∧ Below (w.heap.size + 1) (w.alloc (.cells #[.string q] 9)) w' := by
  intro g c W hO hg hB
  have hBs := hB.size
  simp at hBs
  refine (delete_any (fun e => decide (e.p = q.data.toList)) 255 #[.pointer (some ⟨w.heap.size, 0, none⟩)] eg t g c W hO (by omega) (fun W2 x hG hx => withoutP_any x q w.heap.size W2 (by have := hG.size; omega) ?_)).mono ?_
  ·rw [gby_cell hG (by show w.heap.size < W.heap.size; omega) (by show w.heap.size ≠ g; omega), hB.cell (p := ⟨w.heap.size, 0, none⟩) (by simp)]
   simp
  ·rintro e w' ⟨rfl, hO', hG⟩
   exact ⟨rfl, hO', hB.grown hG (by simpa using hBs) (fun k hk => by simp at hk; omega)⟩
 have HL : Aside (Lies w p t) := hL
 clear hL eg
 obtain ⟨n, hnl⟩ : ∃ n, n = t.length := ⟨_, rfl⟩
 have HN : Aside (n = t.length) := hnl
 rw [← hnl] at hn hdel ⊢
 clear hnl
 generalize hrl : (remL t q.data.toList).length = rl at hdel
 have HR : Aside ((remL t q.data.toList).length = rl) := hrl
 clear hrl
 go_enter Tryz.func219, Tryz.ntmps219
 go_wp2_with (at_builtin; refine append_copy _ rfl _ _ rfl (w.heap.size + 1) rfl ?_ p n cap t rfl HN.out ?_ hnil hn ?_ ?_)
 ·exact empty_row (w.alloc (.cells #[.string q] 9)) _ (by simp)
 ·exact (HL.out.grown ((Grown.refl w).alloc _)).grown ((Grown.refl _).alloc _)
 ·simp
 ·intro g c w1 hO hg hB
  have hB' : Below (w.heap.size + 1) (w.alloc (.cells #[.string q] 9)) w1 := ((Below.refl _ _).alloc (by simp) _).trans hB
  have hcall := hdel g c w1 hO hg hB'
  clear hdel
  have H1 : Aside (w.heap.size + 1 ≤ g) := hg
  clear hO hB hg
  go_wp2_with (go_at_call 220; refine hcall.mono ?_; clear hcall; rintro e w2 ⟨rfl, hO2, hB2⟩)
  go_ret
  exact ⟨g, c, by rw [HR.out]; rfl, by have := H1.out; omega, hO2, base1 hB2⟩
theorem or3_any (a b c : Int) (W : World) : Calls Tryz.prog 157 #[.slice (some ⟨W.heap.size, 0, none⟩) 3 3] (W.alloc (.cells #[.int .i64 a, .int .i64 b, .int .i64 c] 31)) fun e w' => e = .returned (.int .i64 (orL [a, b, c])) ∧ w' = W.alloc (.cells #[.int .i64 a, .int .i64 b, .int .i64 c] 31) :=
 or_any [a, b, c] W.heap.size 3 _ (by simp) (fun j x hx => by
  match j, hx with
  | 0, hx => simp at hx; subst hx; simp
  | 1, hx => simp at hx; subst hx; simp
  | 2, hx => simp at hx; subst hx; simp
  | j + 3, hx => simp at hx)
theorem or2_any (a b : Int) (W : World) : Calls Tryz.prog 157 #[.slice (some ⟨W.heap.size, 0, none⟩) 2 2] (W.alloc (.cells #[.int .i64 a, .int .i64 b] 31)) fun e w' => e = .returned (.int .i64 (orL [a, b])) ∧ w' = W.alloc (.cells #[.int .i64 a, .int .i64 b] 31) :=
 or_any [a, b] W.heap.size 2 _ (by simp) (fun j x hx => by
  match j, hx with
  | 0, hx => simp at hx; subst hx; simp
  | 1, hx => simp at hx; subst hx; simp
  | j + 2, hx => simp at hx)
def TreePost (err : Int) (l : List Ent) (w : World) (e : Ending) (w' : World) : Prop :=
 ∃ p c, e = .returned (.tuple #[.slice p l.length c, .int .i64 err]) ∧ Lies w' p l ∧ l.length ≤ c ∧ (p = none → c = 0) ∧ Below w.heap.size w w'
theorem TreePost.none {err : Int} {w w' : World} (hB : Below w.heap.size w w') : TreePost err [] w (.returned (.tuple #[.slice .none 0 0, .int .i64 err])) w' := ⟨.none, 0, rfl, Lies.nil _ _, Nat.le_refl _, fun _ => rfl, hB⟩
def remErr (t : List Ent) (q : List UInt8) : Int := orL [(faultL false t).1, missL t q, fullL t q]
theorem remErr_of (t : List Ent) (q : List UInt8) (r : Int) (hr : Sorted t → r = missL t q) : orL [(faultL false t).1, r, fullL t q] = remErr t q := by
 unfold remErr
 by_cases h : (faultL false t).1 = 0
 ·rw [hr (faultL_zero.1 h).sorted]
 ·simp [orL, h]
theorem orL_zero {a : Int} {r : List Int} : orL (a :: r) = 0 ↔ a = 0 ∧ orL r = 0 := by
 rw [orL]
 by_cases h : a = 0 <;> simp [h]
theorem remErr_zero {t : List Ent} {q : List UInt8} (h : remErr t q = 0) : Right false t ∧ (∃ e ∈ t, e.p = q) ∧ ∀ x ∈ t, under x.p q = false := by
 unfold remErr at h
 obtain ⟨h1, h⟩ := orL_zero.1 h
 obtain ⟨h2, h⟩ := orL_zero.1 h
 obtain ⟨h3, _⟩ := orL_zero.1 h
 refine ⟨faultL_zero.1 h1, ?_, ?_⟩
 ·unfold missL at h2
  split at h2
  ·assumption
  ·omega
 ·unfold fullL at h3
  split at h3
  ·omega
  ·rename_i g; intro x hx; simpa using fun hu => g (List.any_eq_true.2 ⟨x, hx, hu⟩)
theorem field40 (a b : Value) (w : World) : Sem.run Tryz.prog (Instr.field 46 (.agg #[a, b]) 0) w = .ok a w := by
 first | kernel_rfl | simp [go_sem] | rfl
set_option maxHeartbeats 2000000 in
set_option maxRecDepth 100000 in
theorem remove_any (t : List Ent) (q : ByteArray) (m : Int) (p : Option Addr) (cap : Nat) (w : World) (hL : Lies w p t) (hF : Fits t) (hn : t.length < 4611686018427387904) (hcap : t.length ≤ cap) (hnil : p = none → cap = 0) (hq : q.size ≤ maxLen) (hm : w.cell? ⟨0, 0, none⟩ = some (.int .i64 m)) :
  Calls Tryz.prog 178 #[.slice p t.length cap, .string q] w (TreePost (remErr t q.data.toList) (if remErr t q.data.toList = 0 then remL t q.data.toList else []) w) := by
 have hwr := fun W (hB : Below w.heap.size w W) => wrong_any t m p cap W (hL.kept hB) hF hn hcap (held hB hm)
 have hms := fun W (hB : Below w.heap.size w W) => missing_any t q p cap W (hL.kept hB) hF hn hq
 have hfu := fun W (hB : Below w.heap.size w W) => full_any t q p cap W (hL.kept hB) hF hn hq
 have hwo := fun (h : remErr t q.data.toList = 0) W (hB : Below w.heap.size w W) => without_any t q p cap W (hL.kept hB) hnil (remErr_zero h).1.len
 have HRE : Aside (∀ r : Int, (Sorted t → r = missL t q.data.toList) → orL [(faultL false t).1, r, fullL t q.data.toList] = remErr t q.data.toList) := remErr_of t q.data.toList
 have hB : Below w.heap.size w w := Below.refl _ _
 clear hL hF hcap hnil hm
 generalize t.length = n at *
 generalize (faultL false t).1 = f at hwr HRE
 generalize ((faultL false t).2 : Int) = fa at hwr
 generalize fullL t q.data.toList = u at hfu HRE
 obtain ⟨l, hl⟩ : ∃ l, l = if remErr t q.data.toList = 0 then remL t q.data.toList else [] := ⟨_, rfl⟩
 rw [← hl]
 have HL : Aside (l = if remErr t q.data.toList = 0 then remL t q.data.toList else []) := hl
 clear hl
 generalize remErr t q.data.toList = er at HRE hwo HL ⊢
 have hfld := field40
 go_enter Tryz.func178, Tryz.ntmps178
 go_wp2_with (first
  | (go_at_call 24; refine (hwr _ hB).mono ?_; clear hwr; rintro e w1 ⟨rfl, hN⟩; replace hB := Below.onto hB hN; clear hN)
  | (go_at_call 217; refine (hms _ hB).mono ?_; clear hms; rintro e w2 ⟨r, rfl, hr, hN⟩; have HE : Aside (orL [f, r, u] = er) := HRE.out r hr; clear hr HRE; replace hB := Below.onto hB hN; clear hN)
  | (go_at_call 218; refine (hfu _ hB).mono ?_; clear hfu; rintro e w3 ⟨rfl, hN⟩; replace hB := Below.onto hB hN; clear hN)
  | (go_at_call 157; refine (or3_any _ _ _ _).mono ?_; rintro e w4 ⟨rfl, hw⟩; subst hw; replace hB := hB.alloc hB.size (.cells #[.int .i64 f, .int .i64 r, .int .i64 u] 31); rw [HE.out]; by_cases her : er = 0)
  | (go_at_call 219; refine (hwo her _ hB).mono ?_; clear hwo; rintro e w5 ⟨g, c, rfl, hg, hO, hN⟩; replace hB := Below.onto hB hN; clear hN))
 ·go_ret2
  have hl := HL.out
  rw [if_pos her] at hl
  subst hl her
  exact ⟨some ⟨g, 0, none⟩, c, rfl, hO.lies, hO.len, nofun, hB⟩
 ·go_ret2
  have hl := HL.out
  rw [if_neg her] at hl
  subst hl
  exact TreePost.none hB
theorem own_alloc (w : World) (cs : Array Value) (cap : Nat) (l : List Ent) (hs : cs.size = cap * 4) (hl : l.length ≤ cap) (hm : cap ≤ maxLen) (hc : ∀ (k : Nat) (v : Value), (l.flatMap encE)[k]? = some v → cs[k]? = some v) : Own (w.alloc (.cells cs 53)) w.heap.size cap l :=
 ⟨cs, (by show (w.heap.push _)[w.heap.size]? = _; simp), hs, hl, hm, fun j e he i v hv => hc _ v (flat_at he hv)⟩
theorem zero_size (n : Nat) : (Builtin.zeroCells #[.string ⟨#[]⟩, .int .i64 0, .string ⟨#[]⟩, .bool false] n).size = n * 4 := by simp [Builtin.zeroCells]
theorem append_left {cs : List Value} {r : Array Value} {k : Nat} {v : Value} (h : cs[k]? = some v) : (cs.toArray ++ r)[k]? = some v := by
 have hk := (List.getElem?_eq_some_iff.1 h).1
 rw [Array.getElem?_append_left (by simpa using hk)]; simpa using h
theorem run_copy4 (W : World) (dT sT ty : TypeId) (hu : Tryz.prog.underlying dT = some (.slice 53)) (g o dLen dCap : Nat) (a : Addr) (sLen sCap : Nat) (ns : List Ent) (hn : ns.length = Nat.min sLen dLen)
  (hsrc : ∀ j v, (ns.flatMap encE)[j]? = some v → W.cell? (a.add j) = some v) (hc : ∀ j, j < ns.length * 4 → (W.cell? ⟨g, o + j, none⟩).isSome = true) (hf : ∀ j, j < ns.length * 4 → W.frozen? ⟨g, o + j, none⟩ = false) :
  (Builtin.copy_ #[dT, sT] ty #[.slice (some ⟨g, o, none⟩) dLen dCap, .slice (some a) sLen sCap]).run Tryz.prog W = .ok (goInt ns.length) (W.setCells g o (ns.flatMap encE)) := by
 obtain ⟨i0, hi, hz0, hz1, hz2⟩ := info38
 have hl := run_loadCells_list (P := Tryz.prog) W a (ns.flatMap encE) hsrc
 have hst := run_storeCells_cells (P := Tryz.prog) g o (ns.flatMap encE) 0 W (fun j hj => by rw [flat_len] at hj; exact hc j hj) (fun j hj => by rw [flat_len] at hj; exact hf j hj) (fun v hv => flat_one hv)
 rw [flat_len] at hl
 simp [Builtin.copy_, run_underlying hu, Builtin.lenOf, Builtin.firstCells, sizeOf, typeInfo, hi, hz1, ← hn, hl, hst]
theorem run_append35 (l : List Ent) (e : Ent) (g cap : Nat) (w : World) (hO : Own w g cap l) (vb : Nat) (hv : ∀ j u, (encE e)[j]? = some u → w.cell? ⟨vb, j, none⟩ = some u) (hn : l.length ≤ 10000) :
  ∃ g' c' w', (∀ ty, (Builtin.append_ #[23, 22] ty #[.slice (some ⟨g, 0, none⟩) l.length cap, .slice (some ⟨vb, 0, none⟩) 1 1]).run Tryz.prog w = .ok (.slice (some ⟨g', 0, none⟩) (l.length + 1) c') w') ∧ Own w' g' c' (l ++ [e]) ∧ (g' = g ∨ w.heap.size ≤ g') ∧ w.grownBy w' (some g) := by
 obtain ⟨i0, hi, hz0, hz1, hz2⟩ := info38
 have hsrc : Src Tryz.prog i0.size 22 (.slice (some ⟨vb, 0, none⟩) 1 1) 1 (encE e) w := by
  rw [hz1]
  exact Src.ofSlice w Tryz.underlying22 ⟨vb, 0, none⟩ 1 1 (encE e) rfl (fun j u hj => by rw [Addr.add_lit, Nat.zero_add]; exact hv j u hj) (fun u hu => flat_one (t := [e]) (by simpa using hu))
 by_cases hroom : l.length + 1 ≤ cap
 ·refine ⟨g, cap, w.setCells g (l.length * 4) (encE e), fun ty => ?_, ?_, .inl rfl, gby_setCells _ _ _ (gby_refl _ _)⟩
  ·have := run_append_room_src (P := Tryz.prog) w 23 22 ty 53 i0 Tryz.underlying23 hi g 0 l.length cap _ 1 (encE e) hsrc hroom
    (fun j hj => by rw [hz1, Nat.zero_add]; rw [encE_len] at hj; exact hO.there (by omega)) (fun j _ => hO.frozen _)
   rw [hz1, Nat.zero_add] at this
   exact this
  ·have := hO.over (ns := [e]) (j := l.length) (Nat.le_refl _) (by simpa using hroom)
   rw [List.take_length, List.drop_of_length_le (by simp), List.append_nil] at this
   simpa using this
 ·have hold : (Builtin.firstCells i0.size l.length (.slice (some ⟨g, 0, none⟩) l.length cap)).run Tryz.prog w.drew = .ok (l.flatMap encE).toArray w.drew := by
   rw [hz1]
   exact run_firstCells_some w.drew 4 l.length ⟨g, 0, none⟩ l.length cap (l.flatMap encE) (flat_len l) (hO.lies.flat (W := w.drew) ((Below.refl _ _).drew))
  have hr := fun ty => run_append_grow_src (P := Tryz.prog) w 23 22 ty 53 i0 _ Tryz.underlying23 hi hz0 (some ⟨g, 0, none⟩) l.length cap (l.flatMap encE) hold _ 1 (encE e) hsrc (by omega) (by omega) (by rw [hz2]; exact growslice_fits (by omega) (by omega))
  refine ⟨_, _, _, hr, ?_, .inr (Nat.le_refl _), gby_below (gby_refl w _) (((Below.refl w.heap.size w).drew).alloc (Nat.le_refl _) _)⟩
  have hge := grownCap_ge w (l.length + 1) cap 53
  refine own_alloc w.drew _ _ _ ?_ (by simpa using hge) (grownCap_le_maxLen w _ _ _ (by unfold maxLen; omega)) (fun k v hk => append_left (by simpa using hk))
  rw [Array.size_append]
  simp only [Value.cells, zero_size, List.size_toArray, List.length_append, flat_len, encE_len]
  omega
theorem ins_list (l : List Ent) (e : Ent) (i : Nat) (hi : i < l.length) : (l.take (i + 1) ++ l.drop i).take i ++ [e] ++ (l.take (i + 1) ++ l.drop i).drop (i + 1) = l.take i ++ e :: l.drop i := by
 rw [List.take_append_of_le_length (by rw [List.length_take]; omega), List.take_take, Nat.min_eq_left (by omega), List.drop_append, List.length_take, Nat.min_eq_left (by omega), Nat.sub_self, List.drop_of_length_le (by rw [List.length_take]; omega)]
 simp
theorem own_shift {w : World} {g cap : Nat} {l : List Ent} (h : Own w g cap l) (e : Ent) {i : Nat} (hi : i < l.length) (hr : l.length + 1 ≤ cap) :
  Own ((w.setCells g ((i + 1) * 4) ((l.drop i).flatMap encE)).setCells g (i * 4) (encE e)) g cap (l.take i ++ e :: l.drop i) := by
 have h1 := h.over (ns := l.drop i) (j := i + 1) (by omega) (by rw [List.length_drop]; omega)
 have hz : l.drop (i + 1 + (l.drop i).length) = [] := List.drop_of_length_le (by rw [List.length_drop]; omega)
 rw [hz, List.append_nil] at h1
 have h2 := h1.over (ns := [e]) (j := i) (by simp; omega) (by simp; omega)
 rw [List.length_singleton, ins_list l e i hi] at h2
 simpa using h2
def InsPost (l : List Ent) (g : Nat) (w : World) (r : Ending) (w' : World) : Prop :=
 ∃ g' c', r = .returned (.slice (some ⟨g', 0, none⟩) l.length c') ∧ Own w' g' c' l ∧ (g' = g ∨ w.heap.size ≤ g') ∧ w.grownBy w' (some g)
set_option maxHeartbeats 4000000 in
set_option maxRecDepth 100000 in
theorem insert_end (l : List Ent) (e : Ent) (g cap : Nat) (w : World) (hO : Own w g cap l) (vb : Nat) (hv : ∀ j u, (encE e)[j]? = some u → w.cell? ⟨vb, j, none⟩ = some u) (hn : l.length ≤ 10000) :
  Calls Tryz.prog 214 #[.slice (some ⟨g, 0, none⟩) l.length cap, .int .i64 l.length, .slice (some ⟨vb, 0, none⟩) 1 1] w (InsPost (l ++ [e]) g w) := by
 obtain ⟨g', c', w', hr, hO', hg', hgb⟩ := run_append35 l e g cap w hO vb hv hn
 have hcap := hO.len
 have hc63 := hO.max
 unfold maxLen at hc63
 have HN : Aside (l.length + 1 = (l ++ [e]).length) := by show _ = _; simp
 clear hO hv
 generalize l.length = n at *
 go_enter Tryz.func214, Tryz.ntmps214
 go_wp2_with (at_builtin; refine Lib.wpList_append_run _ rfl _ _ _ _ rfl _ _ rfl rfl _ _ (hr _) ?_)
 all_goals go_ret
 all_goals exact ⟨g', c', by rw [← HN.out]; rfl, hO', hg', hgb⟩
theorem shape_of {w : World} {b : Nat} {cs : Array Value} {t : TypeId} {f : Nat × Nat} (h : w.heap[b]? = some (.cells cs t f)) : w.shape? b = some (t, cs.size) := by simp [World.shape?, h]
theorem own_shape {w : World} {g cap : Nat} {l : List Ent} (h : Own w g cap l) : w.shape? g = some (53, cap * 4) := by
 obtain ⟨cur, hc, hs, _⟩ := h
 rw [shape_of hc, hs]
set_option maxHeartbeats 4000000 in
set_option maxRecDepth 100000 in
theorem insert_shift (l : List Ent) (e : Ent) (i g cap : Nat) (w : World) (hO : Own w g cap l) (vb : Nat) (hb : w.heap[vb]? = some (.cells (encE e).toArray 53 (0, 0))) (hvb : vb ≠ g) (hi : i < l.length) (hroom : l.length + 1 ≤ cap) (hn : l.length ≤ 10000) :
  Calls Tryz.prog 214 #[.slice (some ⟨g, 0, none⟩) l.length cap, .int .i64 i, .slice (some ⟨vb, 0, none⟩) 1 1] w (InsPost (l.take i ++ e :: l.drop i) g w) := by
 have hc63 := hO.max
 unfold maxLen at hc63
 have hov : ∀ lb cb, (callFunc 252 #[.slice (some ⟨vb, 0, none⟩) 1 1, .slice (some ⟨g, (i + 1) * 4, none⟩) lb cb]).run Tryz.prog w = .ok (.value (.bool false)) w := fun lb cb => by
  rw [run_callFunc_extern Tryz.func252 (by kernel_rfl) (by kernel_rfl) (by kernel_rfl) (e := Extern.SlicesOverlaps.overlaps #[22, 22] #[4]) (by kernel_rfl),
   Lib.run_overlaps_apart w 22 4 53 Tryz.underlying22 4 Tryz.sizeOf53 ⟨vb, 0, none⟩ ⟨g, (i + 1) * 4, none⟩ 1 1 lb cb hvb 53 53 4 (cap * 4) (shape_of hb) (own_shape hO) (by omega) (by simp [World.frozen?, hb]) (by simp [World.frozen?, hb])]
  rfl
 have hcp1 : ∀ ty dc sc, (Builtin.copy_ #[23, 23] ty #[.slice (some ⟨g, (i + 1) * 4, none⟩) (l.length + 1 - (i + 1)) dc, .slice (some ⟨g, i * 4, none⟩) (l.length + 1 - i) sc]).run Tryz.prog w.drew = .ok (goInt (l.drop i).length) (w.drew.setCells g ((i + 1) * 4) ((l.drop i).flatMap encE)) := fun ty dc sc =>
  run_copy4 w.drew _ _ ty Tryz.underlying23 g ((i + 1) * 4) _ dc ⟨g, i * 4, none⟩ _ sc (l.drop i) (by rw [List.length_drop]; simp only [Nat.min_def]; split <;> omega)
   (fun j v hj => by
     obtain ⟨a, x, b, h1, h2, rfl⟩ := flat_get hj
     rw [List.getElem?_drop] at h1
     rw [Addr.add_lit, show i * 4 + (a * 4 + b) = (i + a) * 4 + b by omega]
     exact hO.cell h1 h2)
   (fun j hj => by rw [List.length_drop] at hj; exact hO.there (by omega)) (fun j _ => hO.frozen _)
 have hO1 : Own (w.drew.setCells g ((i + 1) * 4) ((l.drop i).flatMap encE)) g cap (l.take (i + 1)) := ((hO.kept (w' := w.drew) rfl).take (i + 1)).beyond (by rw [List.length_take]; omega)
 have hcell1 : ∀ j u, (encE e)[j]? = some u → (w.drew.setCells g ((i + 1) * 4) ((l.drop i).flatMap encE)).cell? ⟨vb, j, none⟩ = some u := fun j u hu => by
  rw [World.cell?_setCells_out g _ _ _ ⟨vb, j, none⟩ (fun h _ => absurd h hvb)]
  simp only [World.cell?, World.drew, hb]
  simpa using hu
 obtain ⟨W1, hW1⟩ : ∃ W1, W1 = w.drew.setCells g ((i + 1) * 4) ((l.drop i).flatMap encE) := ⟨_, rfl⟩
 have HO : Aside (Own (W1.setCells g (i * 4) (encE e)) g cap (l.take i ++ e :: l.drop i)) := by rw [hW1]; exact own_shift (hO.kept (w' := w.drew) rfl) e hi hroom
 have HG : Aside (w.grownBy (W1.setCells g (i * 4) (encE e)) (some g)) := by rw [hW1]; exact gby_setCells _ _ _ (gby_setCells _ _ _ (gby_below (gby_refl w _) (Below.refl _ _).drew))
 rw [← hW1] at hcp1 hO1 hcell1
 have hcp2 : ∀ (W : World), (∀ x, W.cell? x = W1.cell? x) → (∀ x, W.frozen? x = W1.frozen? x) → ∀ ty dc, (Builtin.copy_ #[23, 22] ty #[.slice (some ⟨g, i * 4, none⟩) (l.length + 1 - i) dc, .slice (some ⟨vb, 0, none⟩) 1 1]).run Tryz.prog W = .ok (goInt 1) (W.setCells g (i * 4) (encE e)) := fun W hWc hWf ty dc => by
  have := run_copy4 W 23 22 ty Tryz.underlying23 g (i * 4) (l.length + 1 - i) dc ⟨vb, 0, none⟩ 1 1 [e] (by simp only [Nat.min_def, List.length_singleton]; split <;> omega)
   (fun j v hj => by rw [Addr.add_lit, Nat.zero_add, hWc]; exact hcell1 j v (by simpa using hj))
   (fun j hj => by rw [hWc]; simp at hj; exact hO1.there (by omega)) (fun j _ => by rw [hWf]; exact hO1.frozen _)
  simpa using this
 have HN : Aside (l.length + 1 = (l.take i ++ e :: l.drop i).length) := by show _ = _; simp; omega
 have hdl : (l.drop i).length = l.length - i := List.length_drop ..
 rw [hdl] at hcp1
 generalize l.length = n at *
 have mixed : Tryz.prog.follows .mixedOrders = true := by kernel_rfl
 have hz2 : ¬ ((i : Int) = (n : Int)) := by omega
 have hw1 : IntKind.i64.wrap ((i : Int) + 1) = (i : Int) + 1 := by rw [IntKind.wrap_i64]; omega
 have hb1 : (0 : Int) ≤ (i : Int) + 1 := by omega
 have hin : i ≤ n := by omega
 have htn : ((i : Int) + 1).toNat = i + 1 := by omega
 have hb2 : ¬ (cap = i + 1) := by omega
 have hb3 : (i : Int) ≤ (n : Int) + 1 := by omega
 have hb4 : ¬ (cap = i) := by omega
 clear hO hO1 hcell1 hdl hb hW1 
 go_enter Tryz.func214, Tryz.ntmps214
 go_wp2_with (simp only [hov])
 go_region_law_o (refine step_copy_runI rfl _ _ 23 23 rfl (.slice (some ⟨g, (i + 1) * 4, none⟩) (n + 1 - (i + 1)) (cap - (i + 1))) (.slice (some ⟨g, i * 4, none⟩) (n + 1 - i) (cap - i)) (by simp [Act.eval, Act.put]) (by simp [Act.eval, Act.put]) (hcp1 _ _ _) ?_)
 go_wp2_with (at_builtin; refine wpList_copy_runI _ rfl _ _ 23 22 rfl _ _ rfl rfl (hcp2 _ (fun _ => rfl) (fun _ => rfl) _ _) ?_)
 go_ret
 exact ⟨g, cap, by rw [← HN.out]; rfl, HO.out, .inl rfl, HG.out⟩
set_option maxHeartbeats 4000000 in
set_option maxRecDepth 100000 in
theorem insert_grow (l : List Ent) (e : Ent) (i g cap : Nat) (w : World) (hO : Own w g cap l) (vb : Nat) (hv : ∀ j u, (encE e)[j]? = some u → w.cell? ⟨vb, j, none⟩ = some u) (hi : i < l.length) (hroom : ¬ l.length + 1 ≤ cap) (hn : l.length ≤ 10000) :
  Calls Tryz.prog 214 #[.slice (some ⟨g, 0, none⟩) l.length cap, .int .i64 i, .slice (some ⟨vb, 0, none⟩) 1 1] w (InsPost (l.take i ++ e :: l.drop i) g w) := by
 obtain ⟨i0, hi0, hz0, hz1, hz2⟩ := info38
 have hlen := hO.len
 have hglt := hO.lt
 have hvlt : vb < w.heap.size := by
  have := hv 0 _ rfl
  rcases Nat.lt_or_ge vb w.heap.size with h' | h'
  ·exact h'
  ·simp [World.cell?, Array.getElem?_eq_none h'] at this
 have hold : (Builtin.firstCells i0.size i (.slice (some ⟨g, 0, none⟩) i cap)).run Tryz.prog w.drew = .ok ((l.take i).flatMap encE).toArray w.drew := by
  rw [hz1]
  exact run_firstCells_some w.drew 4 i ⟨g, 0, none⟩ i cap ((l.take i).flatMap encE) (by rw [flat_len, List.length_take]; omega) ((hO.take i).lies.flat (W := w.drew) ((Below.refl _ _).drew))
 have hrz0 := fun ty => Lib.run_append_grow_zeros (P := Tryz.prog) w 23 3 ty 53 i0 _ .i64 .i64 Tryz.underlying23 Tryz.underlying3 hi0 hz0 (some ⟨g, 0, none⟩) i cap ((l.take i).flatMap encE) hold (l.length + 1 - i) (by omega) (by omega) (by omega) (by omega) (by rw [hz2]; omega) (by rw [hz2]; exact growslice_fits (by omega) (by omega))
 rw [show i + (l.length + 1 - i) = l.length + 1 by omega, show ((l.length + 1 - i : Nat) : Int) = (l.length : Int) + 1 - (i : Int) by omega] at hrz0
 obtain ⟨G, hG⟩ : ∃ G, G = grownCap w (l.length + 1) cap 53 := ⟨_, rfl⟩
 obtain ⟨ROW, hROW⟩ : ∃ ROW : Array Value, ROW = ((l.take i).flatMap encE).toArray ++ Builtin.zeroCells (Value.agg #[.string ⟨#[]⟩, .int .i64 0, .string ⟨#[]⟩, .bool false]).cells (l.length + 1 - i) ++ Builtin.zeroCells (Value.agg #[.string ⟨#[]⟩, .int .i64 0, .string ⟨#[]⟩, .bool false]).cells (G - (l.length + 1)) := ⟨_, rfl⟩
 rw [← hG] at hrz0
 rw [← hROW] at hrz0
 have hGn : l.length + 1 ≤ G := by rw [hG]; exact grownCap_ge w _ _ _
 have hGm : G ≤ maxLen := by rw [hG]; exact grownCap_le_maxLen w _ _ _ (by unfold maxLen; omega)
 have hO1 : Own (w.drew.alloc (.cells ROW 53)) w.heap.size G (l.take i) := by
  refine own_alloc w.drew _ _ _ ?_ (by rw [List.length_take]; omega) hGm (fun k v hk => by rw [hROW, Array.append_assoc]; exact append_left hk)
  rw [hROW]
  simp only [Array.size_append, Value.cells, zero_size, List.size_toArray, flat_len, List.length_take]
  omega
 have hcellv : ∀ j u, (encE e)[j]? = some u → (w.drew.alloc (.cells ROW 53)).cell? ⟨vb, j, none⟩ = some u := fun j u hu => by
  rw [((Below.refl w.heap.size w).drew.alloc (Nat.le_refl _) _).cell (p := ⟨vb, j, none⟩) hvlt]; exact hv j u hu
 have hcellg : ∀ j u, ((l.drop i).flatMap encE)[j]? = some u → (w.drew.alloc (.cells ROW 53)).cell? ⟨g, i * 4 + j, none⟩ = some u := fun j u hu => by
  rw [((Below.refl w.heap.size w).drew.alloc (Nat.le_refl _) _).cell (p := ⟨g, i * 4 + j, none⟩) hglt]
  obtain ⟨a, x, b, h1, h2, rfl⟩ := flat_get hu
  rw [List.getElem?_drop] at h1
  rw [show i * 4 + (a * 4 + b) = (i + a) * 4 + b by omega]
  exact hO.cell h1 h2
 obtain ⟨W1, hW1⟩ : ∃ W1, W1 = w.drew.alloc (.cells ROW 53) := ⟨_, rfl⟩
 have hW1' : W1 = (w.alloc (.cells ROW 53)).drew := by rw [hW1]; rfl
 have hgb1 : w.grownBy W1 (some g) := by rw [hW1]; exact gby_below (gby_refl w _) ((Below.refl w.heap.size w).drew.alloc (Nat.le_refl _) _)
 rw [← hW1] at hrz0 hO1 hcellv hcellg
 have hli : (l.take i).length = i := by rw [List.length_take]; omega
 have hcpA : ∀ ty dc, (Builtin.copy_ #[23, 22] ty #[.slice (some ⟨w.heap.size, i * 4, none⟩) (l.length + 1 - i) dc, .slice (some ⟨vb, 0, none⟩) 1 1]).run Tryz.prog W1 = .ok (goInt 1) (W1.setCells w.heap.size (i * 4) (encE e)) := fun ty dc => by
  have := run_copy4 W1 23 22 ty Tryz.underlying23 w.heap.size (i * 4) (l.length + 1 - i) dc ⟨vb, 0, none⟩ 1 1 [e] (by simp only [Nat.min_def, List.length_singleton]; split <;> omega)
   (fun j v hj => by rw [Addr.add_lit, Nat.zero_add]; exact hcellv j v (by simpa using hj))
   (fun j hj => by simp at hj; exact hO1.there (by omega)) (fun j _ => hO1.frozen _)
  simpa using this
 have hO2 : Own (W1.setCells w.heap.size (i * 4) (encE e)) w.heap.size G (l.take i ++ [e]) := by
  have := hO1.over (ns := [e]) (j := i) (by omega) (by simp; omega)
  rw [List.take_of_length_le (by omega), List.drop_of_length_le (by simp [hli]), List.append_nil] at this
  simpa using this
 obtain ⟨W2, hW2⟩ : ∃ W2, W2 = W1.setCells w.heap.size (i * 4) (encE e) := ⟨_, rfl⟩
 have hcellg2 : ∀ j u, ((l.drop i).flatMap encE)[j]? = some u → W2.cell? ⟨g, i * 4 + j, none⟩ = some u := fun j u hu => by
  rw [hW2, World.cell?_setCells_out _ _ _ _ ⟨g, i * 4 + j, none⟩ (fun h _ => by simp at h; omega)]
  exact hcellg j u hu
 rw [← hW2] at hO2 hcpA
 have hcpB : ∀ ty dc sc, (Builtin.copy_ #[23, 23] ty #[.slice (some ⟨w.heap.size, (i + 1) * 4, none⟩) (l.length + 1 - (i + 1)) dc, .slice (some ⟨g, i * 4, none⟩) (l.length - i) sc]).run Tryz.prog W2.drew = .ok (goInt ((l.length - i : Nat) : Int)) (W2.drew.setCells w.heap.size ((i + 1) * 4) ((l.drop i).flatMap encE)) := fun ty dc sc => by
  have := run_copy4 W2.drew 23 23 ty Tryz.underlying23 w.heap.size ((i + 1) * 4) (l.length + 1 - (i + 1)) dc ⟨g, i * 4, none⟩ (l.length - i) sc (l.drop i) (by rw [List.length_drop]; simp only [Nat.min_def]; split <;> omega)
   (fun j v hj => by rw [Addr.add_lit]; exact hcellg2 j v hj)
   (fun j hj => by rw [List.length_drop] at hj; exact hO2.there (by omega)) (fun j _ => hO2.frozen _)
  rw [List.length_drop] at this
  exact this
 have HO : Aside (Own (W2.drew.setCells w.heap.size ((i + 1) * 4) ((l.drop i).flatMap encE)) w.heap.size G (l.take i ++ e :: l.drop i)) := by
  have := (hO2.kept (w' := W2.drew) rfl).over (ns := l.drop i) (j := i + 1) (by simp [hli]) (by rw [List.length_drop]; omega)
  have hd : (l.take i ++ [e]).drop (i + 1 + (l.drop i).length) = [] := List.drop_of_length_le (by simp [hli])
  rw [List.take_of_length_le (by simp [hli]), hd] at this
  show Own _ _ _ _
  simpa using this
 have HG : Aside (w.grownBy (W2.drew.setCells w.heap.size ((i + 1) * 4) ((l.drop i).flatMap encE)) (some g)) := by
  have key : ∀ (vs : List Value) (o : Nat) (W : World), w.grownBy W (some g) → w.grownBy (W.setCells w.heap.size o vs) (some g) := by
   intro vs
   induction vs with
   | nil => intro o W h; exact h
   | cons v r ih =>
    intro o W h
    exact ih (o + 1) _ ⟨h.os, h.tape, h.output, by simp [World.setCell]; exact h.size, fun k hk hnn => (Below.heap_setCell _ _ _ _ (by show k ≠ w.heap.size; omega)).trans (h.block k hk hnn)⟩
  refine key _ _ _ (gby_below (W := W2) ?_ (Below.refl _ _).drew)
  rw [hW2]; exact key _ _ _ hgb1
 have HN : Aside (l.length + 1 = (l.take i ++ e :: l.drop i).length) := by show _ = _; simp; omega
 generalize l.length = n at *
 have mixed : Tryz.prog.follows .mixedOrders = true := by kernel_rfl
 have hz2' : ((i : Int) == (n : Int)) = false := beq_eq_false_iff_ne.2 (by omega)
 have hz3 : (cap : Int) < (n : Int) + 1 := by omega
 have hw1 : IntKind.i64.wrap ((i : Int) + 1) = (i : Int) + 1 := by rw [IntKind.wrap_i64]; omega
 have hb1 : (0 : Int) ≤ (i : Int) + 1 := by omega
 have hin : i ≤ n := by omega
 have htn : ((i : Int) + 1).toNat = i + 1 := by omega
 have hb3 : (i : Int) ≤ (n : Int) := by omega
 have hGi : ¬ (G = i) := by omega
 have hGim : ¬ (G = i + 1) := by omega
 have hci : ¬ (cap = i) := by omega
 unfold maxLen at hGm
 have HD : Aside (W1 = w.drew.alloc (.cells ROW 53)) := hW1
 clear hO hO1 hO2 hcellv hcellg hcellg2 hold hROW hG hli hgb1 hW1 hW1' hW2 hv hi0 hz0 hz1 hz2
 go_enter Tryz.func214, Tryz.ntmps214
 go_wp2_with (first
  | (at_builtin; refine Lib.wpList_append_run _ rfl _ _ 23 3 rfl _ _ rfl rfl _ _ (hrz0 _) ?_)
  | (at_builtin; refine wpList_copy_runI _ rfl _ _ 23 22 rfl _ _ rfl rfl (hcpA _ _) ?_))
 go_region_law_o (refine step_copy_runI rfl _ _ 23 23 rfl (.slice (some ⟨w.heap.size, (i + 1) * 4, none⟩) (n + 1 - (i + 1)) (G - (i + 1))) (.slice (some ⟨g, i * 4, none⟩) (n - i) (cap - i)) (by simp [Act.eval, Act.put]) (by simp [Act.eval, Act.put]) (hcpB _ _ _) ?_)
 go_wp2
 go_ret
 exact ⟨w.heap.size, G, by rw [← HN.out]; rfl, HO.out, .inr (Nat.le_refl _), HG.out⟩
theorem insert_any (l : List Ent) (e : Ent) (i g cap : Nat) (w : World) (hO : Own w g cap l) (vb : Nat) (hb : w.heap[vb]? = some (.cells (encE e).toArray 53 (0, 0))) (hvb : vb ≠ g) (hi : i ≤ l.length) (hn : l.length ≤ 10000) :
  Calls Tryz.prog 214 #[.slice (some ⟨g, 0, none⟩) l.length cap, .int .i64 i, .slice (some ⟨vb, 0, none⟩) 1 1] w (InsPost (l.take i ++ e :: l.drop i) g w) := by
 have hv : ∀ j u, (encE e)[j]? = some u → w.cell? ⟨vb, j, none⟩ = some u := fun j u hu => by
  simp only [World.cell?, hb]
  simpa using hu
 by_cases h1 : i < l.length
 ·by_cases h2 : l.length + 1 ≤ cap
  ·exact insert_shift l e i g cap w hO vb hb hvb h1 h2 hn
  ·exact insert_grow l e i g cap w hO vb hv h1 h2 hn
 ·obtain rfl : i = l.length := by omega
  rw [List.take_length, List.drop_length]
  exact insert_end l e g cap w hO vb hv hn
end Go.Proofs.YthfeoiffoeagkaaGreatDoor
