/-
  Plain mathematics for traceref1.Move: what is made there entry by entry is what is moved.
-/
import Derived.Test.YtampldoimpfjgaaGreatDoorGF
import Derived.Test.YtampldoimpfjgaaGreatDoorGI
import Derived.Test.YtampldoimpfjgaaGreatDoorGH
namespace Go.Proofs.YtampldoimpfjgaaGreatDoor
open Go.RowKit PM Go.Sort
set_option linter.unusedVariables false

theorem puts_sorted : ∀ (ms b : List Ent), Sorted b → Sorted (putsL b ms)
  | [], b, h => h
  | m :: ms, b, h => puts_sorted ms (putL b m) (sorted_putL h m)
theorem puts_le : ∀ (ms b : List Ent), Sorted b → (putsL b ms).length ≤ b.length + ms.length
  | [], b, h => Nat.le_refl _
  | m :: ms, b, h => by
    have h1 := puts_le ms (putL b m) (sorted_putL h m)
    have h2 := putL_length (e := m) h
    have h3 : (putL b m).length ≤ b.length + 1 := by rw [h2]; split <;> omega
    show (putsL (putL b m) ms).length ≤ _
    rw [List.length_cons]; omega
theorem puts_all {P : Ent → Prop} : ∀ (ms b : List Ent), (∀ x ∈ b, P x) → (∀ m ∈ ms, P m) → ∀ x ∈ putsL b ms, P x
  | [], b, hb, _ => hb
  | m :: ms, b, hb, hm => puts_all ms (putL b m) (fun x hx => by
      rcases mem_putL.1 hx with rfl | ⟨hx, _⟩
      · exact hm _ (by simp)
      · exact hb x hx) (fun y hy => hm y (List.mem_cons_of_mem _ hy))
theorem puts_snoc (b ms : List Ent) (m : Ent) : putsL b (ms ++ [m]) = putL (putsL b ms) m := by simp [putsL]

def baseL (t : List Ent) (f to : List UInt8) : List Ent := remUnder (remUnder t f) to
theorem mem_remUnder {t : List Ent} {q : List UInt8} {x : Ent} : x ∈ remUnder t q ↔ x ∈ t ∧ inM q x = false := by
  unfold remUnder inM
  rw [List.mem_filter]
  simp
theorem mem_baseL {t : List Ent} {f to : List UInt8} {x : Ent} : x ∈ baseL t f to ↔ x ∈ t ∧ inM f x = false ∧ inM to x = false := by
  unfold baseL
  rw [mem_remUnder, mem_remUnder, and_assoc]
theorem sorted_remUnder {t : List Ent} {q : List UInt8} (h : Sorted t) : Sorted (remUnder t q) := List.Pairwise.filter _ h
theorem sorted_baseL {t : List Ent} {f to : List UInt8} (h : Sorted t) : Sorted (baseL t f to) := sorted_remUnder (sorted_remUnder h)
/-- What the loop has made behind k entries. -/
def rmK (t : List Ent) (frm to : ByteArray) (k : Nat) : List Ent := putsL (baseL t frm.data.toList to.data.toList) (((t.take k).filter (inM frm.data.toList)).map (mvE frm to))
theorem rmK_zero (t : List Ent) (frm to : ByteArray) : rmK t frm to 0 = baseL t frm.data.toList to.data.toList := rfl
theorem rmK_skip {t : List Ent} {frm to : ByteArray} {k : Nat} {y : Ent} (hy : t[k]? = some y) (h : inM frm.data.toList y = false) : rmK t frm to (k + 1) = rmK t frm to k := by
  unfold rmK
  rw [take_step hy, List.filter_append]
  simp [h]
theorem rmK_step {t : List Ent} {frm to : ByteArray} {k : Nat} {y : Ent} (hs : Sorted t) (hy : t[k]? = some y) (h : inM frm.data.toList y = true) : rmK t frm to (k + 1) = withL (rmK t frm to k) (mvE frm to y) := by
  unfold rmK
  rw [withL_put (puts_sorted _ _ (sorted_baseL hs))]
  rw [take_step hy, List.filter_append, List.map_append]
  simp [h, putsL]
theorem rmK_len {t : List Ent} {frm to : ByteArray} {k : Nat} (hs : Sorted t) : (rmK t frm to k).length ≤ t.length := by
  have h1 := puts_le (((t.take k).filter (inM frm.data.toList)).map (mvE frm to)) _ (sorted_baseL (f := frm.data.toList) (to := to.data.toList) hs)
  unfold rmK
  rw [List.length_map] at h1
  have h2 : ((t.take k).filter (inM frm.data.toList)).length ≤ (t.filter (inM frm.data.toList)).length := ((List.take_sublist k t).filter _).length_le
  have h3 : (baseL t frm.data.toList to.data.toList).length ≤ (t.filter (fun x => !inM frm.data.toList x)).length := by
    unfold baseL
    refine Nat.le_trans (List.length_filter_le _ _) ?_
    unfold remUnder
    refine Nat.le_of_eq (congrArg List.length (List.filter_congr fun x _ => ?_))
    simp [inM]
  have h4 := List.length_eq_countP_add_countP (inM frm.data.toList) (l := t)
  rw [List.countP_eq_length_filter, List.countP_eq_length_filter] at h4
  have h5 : (t.filter (fun x => decide ¬inM frm.data.toList x = true)).length = (t.filter (fun x => !inM frm.data.toList x)).length := congrArg List.length (List.filter_congr fun x _ => by cases inM frm.data.toList x <;> rfl)
  omega
theorem rmK_all {P : Ent → Prop} {t : List Ent} {frm to : ByteArray} {k : Nat} (h1 : ∀ x ∈ t, P x) (h2 : ∀ x ∈ t.take k, inM frm.data.toList x = true → P (mvE frm to x)) : ∀ x ∈ rmK t frm to k, P x := by
  refine puts_all _ _ (fun x hx => h1 x (mem_baseL.1 hx).1) fun m hm => ?_
  obtain ⟨y, hy, rfl⟩ := List.mem_map.1 hm
  exact h2 y (List.mem_filter.1 hy).1 (List.mem_filter.1 hy).2

def moveL (t : List Ent) (frm to : ByteArray) : List Ent := if moveErr t frm to = 0 then (if frm.data.toList = to.data.toList then t else rmK t frm to t.length) else []
theorem MvOK.notTo {t : List Ent} {frm to : ByteArray} (h : MvOK t frm to) {y : Ent} (hi : inM frm.data.toList y = true) : y.p ≠ to.data.toList := fun e => by
  unfold inM at hi
  rw [e] at hi
  rcases Bool.or_eq_true _ _ ▸ hi with h1 | h1
  · exact h.ne (of_decide_eq_true h1).symm
  · rw [h.nund] at h1; cases h1
theorem rm_eq {t : List Ent} {frm to : ByteArray} (h : MvOK t frm to) {l : List Ent} (hp : l.Perm (movedPre t frm to)) (hs : l.Pairwise fun a b => ¬ cmp b.p a.p < 0) : l = rmK t frm to t.length := by
  have hd : (((t.take t.length).filter (inM frm.data.toList)).map (mvE frm to)).Pairwise fun a b => a.p ≠ b.p := by
    rw [List.take_length, List.pairwise_map]
    have h1 : (t.filter (inM frm.data.toList)).Pairwise fun a b => a.p ≠ b.p := sorted_distinct (List.Pairwise.filter _ h.right.sorted)
    refine h1.imp_of_mem fun {a b} ha hb hab => ?_
    rw [List.mem_filter] at ha hb
    have := h.inj ha.1 hb.1 (h.notTo ha.2) (h.notTo hb.2) hab
    unfold mvF at this
    rwa [if_pos ha.2, if_pos hb.2] at this
  obtain ⟨h1, h2⟩ := puts_mem _ _ (sorted_baseL (f := frm.data.toList) (to := to.data.toList) h.right.sorted) hd
  refine sorted_ext (h.rightL hp hs).sorted h1 fun x => ?_
  rw [h.mem hp]
  show _ ↔ x ∈ putsL _ _
  rw [h2, mem_baseL, List.take_length]
  constructor
  · rintro ⟨y, hy, hT, rfl⟩
    cases hi : inM frm.data.toList y with
    | true => exact .inl (List.mem_map.2 ⟨y, List.mem_filter.2 ⟨hy, hi⟩, by rw [mvF, if_pos hi]⟩)
    | false =>
      have hm : mvF frm to y = y := by rw [mvF, hi]; rfl
      rw [hm]
      refine .inr ⟨⟨hy, hi, ?_⟩, fun m hmm => ?_⟩
      · unfold inM
        rw [h.free y hy]
        simpa using hT
      · obtain ⟨z, hz, rfl⟩ := List.mem_map.1 hmm
        rw [List.mem_filter] at hz
        have := h.inj hy hz.1 hT (h.notTo hz.2) (fun e => by
          have h1 : inM frm.data.toList y = inM frm.data.toList z := by unfold inM; rw [e]
          rw [hi, hz.2] at h1; cases h1)
        rw [hm] at this
        unfold mvF at this
        rwa [if_pos hz.2] at this
  · rintro (hx | ⟨⟨hx, hi, ht⟩, _⟩)
    · obtain ⟨y, hy, rfl⟩ := List.mem_map.1 hx
      rw [List.mem_filter] at hy
      exact ⟨y, hy.1, h.notTo hy.2, by rw [mvF, if_pos hy.2]⟩
    · refine ⟨x, hx, fun e => ?_, by rw [mvF, hi]; rfl⟩
      unfold inM at ht
      simp [e] at ht
theorem MovePost.tree {t : List Ent} {frm to : ByteArray} {w w' : World} {r : Ending} (h : MovePost t frm to w r w') : TreePost (moveErr t frm to) (moveL t frm to) w r w' := by
  obtain ⟨l, hT, h1, h2⟩ := h
  have : l = moveL t frm to := by
    unfold moveL
    by_cases h0 : moveErr t frm to = 0
    · rw [if_pos h0]
      by_cases hft : frm.data.toList = to.data.toList
      · rw [if_pos hft]; exact (h2 h0).1 hft
      · rw [if_neg hft]
        exact rm_eq (mvOK_of h0 hft) ((h2 h0).2 hft).1 ((h2 h0).2 hft).2
    · rw [if_neg h0]; exact h1 h0
  rw [← this]; exact hT
theorem bad_all {t : List Ent} {frm to : ByteArray} (hne : frm.data.toList ≠ to.data.toList) (hnu : under to.data.toList frm.data.toList = false) : badMove t frm to = t.any fun e => inM frm.data.toList e && !clean (mvE frm to e).p := by
  rw [Bool.eq_iff_iff]
  unfold badMove
  rw [List.any_eq_true, List.any_eq_true]
  constructor
  · rintro ⟨x, hx, h⟩; exact ⟨x, (mem_remL.1 hx).1, h⟩
  · rintro ⟨x, hx, h⟩
    refine ⟨x, mem_remL.2 ⟨hx, fun e => ?_⟩, h⟩
    have hi : inM frm.data.toList x = true := by
      cases hh : inM frm.data.toList x with
      | true => rfl
      | false => rw [hh] at h; simp at h
    unfold inM at hi
    rw [e, hnu, Bool.or_false] at hi
    exact hne (of_decide_eq_true hi).symm
end Go.Proofs.YtampldoimpfjgaaGreatDoor
namespace Go.Proofs.YtampldoimpfjgaaGreatDoor
open Go.RowKit PM Go.Sort
set_option linter.unusedVariables false

/-- The box of an entry, behind a call. -/
theorem box4 {w W w1 : World} {e : Ent} (h : Below (w.heap.size + 1) (w.alloc (.cells #[.string e.path, .int .i64 e.kind, .string e.text, .bool e.opq] 28)) W) (g : Below W.heap.size W w1) :
    Below (w.heap.size + 1) (w.alloc (.cells #[.string e.path, .int .i64 e.kind, .string e.text, .bool e.opq] 28)) w1 ∧ w.heap.size ≠ w1.heap.size ∧ w.heap.size < w1.heap.size ∧
    w1.cell? ⟨w.heap.size, 0, none⟩ = some (.string e.path) ∧ w1.cell? ⟨w.heap.size, 1, none⟩ = some (.int .i64 e.kind) ∧ w1.cell? ⟨w.heap.size, 2, none⟩ = some (.string e.text) ∧ w1.cell? ⟨w.heap.size, 3, none⟩ = some (.bool e.opq) := by
  have hB := up1 h g
  have hs := hB.size
  simp at hs
  obtain ⟨⟨a, b, c, d⟩, _⟩ := new4 (Nat.lt_succ_self _) hB
  exact ⟨hB, by omega, by omega, a, b, c, d⟩
theorem getL_cases (t : List Ent) (q : List UInt8) : (getL t q = none ∧ noDirL t q = 6) ∨ (∃ x, getL t q = some x ∧ ¬ x.kind = 2 ∧ noDirL t q = 10) ∨ (∃ x, getL t q = some x ∧ x.kind = 2 ∧ noDirL t q = 0) := by
  unfold noDirL
  cases h : getL t q with
  | none => exact .inl ⟨rfl, rfl⟩
  | some x =>
    by_cases hk : x.kind = 2
    · exact .inr (.inr ⟨x, rfl, hk, by simp [hk]⟩)
    · exact .inr (.inl ⟨x, rfl, hk, by simp [hk]⟩)
theorem putAsk_1 {t : List Ent} {e : Ent} (h : ¬ (faultL false t).1 = 0) : putErr t e = (faultL false t).1 := by
  have : putAsk t e = (faultL false t).1 := by rw [putAsk, orL, if_neg h]
  rw [putErr_asked (by rw [this]; exact h), this]
theorem putAsk_2 {t : List Ent} {e : Ent} (h0 : (faultL false t).1 = 0) (h : ¬ wrongE e false = 0) : putErr t e = wrongE e false := by
  have : putAsk t e = wrongE e false := by rw [putAsk, orL, if_pos h0, orL, if_neg h]
  rw [putErr_asked (by rw [this]; exact h), this]
theorem putAsk_3 {t : List Ent} {e : Ent} (h0 : (faultL false t).1 = 0) (h1 : wrongE e false = 0) : putAsk t e = noDirL t (dirOf e.p) := by
  rw [putAsk, orL, if_pos h0, orL, if_pos h1, orL]
  split
  · rename_i h; rw [h]; rfl
  · rfl

theorem rows_end {w w6 : World} {v : Value} {r l : List Ent} (h : Rows w6 w.heap.size v r) (hr : r = l) (hB : Below w.heap.size w w6) : TreePost 0 l w (.returned (.tuple #[v, .int .i64 0])) w6 := by
  subst hr
  obtain ⟨p, c, rfl, h1, h2, h3⟩ := h.form
  exact ⟨p, c, rfl, h1, h2, h3, hB⟩
abbrev PutWr (w : World) (p : Option Addr) (n cap : Nat) (f1 f2 : Int) : Prop := ∀ W, Below w.heap.size w W → Calls Tryz.prog 21 #[.slice p n cap, .bool false] W fun r w' => r = .returned (.agg #[.int .i64 f1, .int .i64 f2]) ∧ Below W.heap.size W w'
abbrev PutWe (e : Ent) (r2 : Int) : Prop := ∀ W, Calls Tryz.prog 51 #[.agg #[.string e.path, .int .i64 e.kind, .string e.text, .bool e.opq], .bool false] W fun r w' => r = .returned (.int .i64 r2) ∧ Below W.heap.size W w'
abbrev RefCu (s : ByteArray) : Prop := ∀ W, Calls Tryz.prog 53 #[.string s] W fun e w' => (∃ d n : ByteArray, e = .returned (.tuple #[.string d, .string n]) ∧ d.data.toList = (cutL s.data.toList).1 ∧ n.data.toList = (cutL s.data.toList).2) ∧ Grown W w'
abbrev RefGd (w : World) (s : ByteArray) (p : Option Addr) (n cap : Nat) (xp : ByteArray) (xk : Int) (xt : ByteArray) (xo bb : Bool) : Prop := ∀ W (d : ByteArray), d.data.toList = (cutL s.data.toList).1 → Below w.heap.size w W → Calls Tryz.prog 26 #[.slice p n cap, .string d] W fun r w' => r = .returned (.tuple #[.agg #[.string xp, .int .i64 xk, .string xt, .bool xo], .bool bb]) ∧ Below W.heap.size W w'
abbrev RefGe (w : World) (s : ByteArray) (p : Option Addr) (n cap : Nat) (zp : ByteArray) (zk : Int) (zt : ByteArray) (zo zb : Bool) : Prop := ∀ W, Below w.heap.size w W → Calls Tryz.prog 26 #[.slice p n cap, .string s] W fun r w' => r = .returned (.tuple #[.agg #[.string zp, .int .i64 zk, .string zt, .bool zo], .bool zb]) ∧ Below W.heap.size W w'
abbrev RefWi (w : World) (e : Ent) (p : Option Addr) (n cap : Nat) (rl : List Ent) : Prop := ∀ W, Below w.heap.size w W → Calls Tryz.prog 72 #[.slice p n cap, .agg #[.string e.path, .int .i64 e.kind, .string e.text, .bool e.opq]] W (RowsPost rl W)

set_option maxHeartbeats 8000000 in
set_option maxRecDepth 100000 in
theorem putW_1 (e : Ent) (p : Option Addr) (n cap : Nat) (w : World) (hn : n < 4611686018427387904) (hcap : n ≤ cap) (f1 : Int) (f2 : Nat) (h1 : ¬ f1 = 0) (hwr : PutWr w p n cap f1 (f2 : Int)) :
    Calls Tryz.prog 32 #[.slice p n cap, .agg #[.string e.path, .int .i64 e.kind, .string e.text, .bool e.opq]] w (TreePost f1 [] w) := by
  have HBX : Aside (Below (w.heap.size + 1) (w.alloc (.cells #[.string e.path, .int .i64 e.kind, .string e.text, .bool e.opq] 28)) (w.alloc (.cells #[.string e.path, .int .i64 e.kind, .string e.text, .bool e.opq] 28))) := Below.refl _ _
  go_enter Tryz.func32, Tryz.ntmps32
  go_wp2_with (go_at_call 21; refine (hwr _ (base1 HBX.out)).mono ?_; clear hwr; rintro rr w1 ⟨rfl, hN⟩; obtain ⟨hB, hne, hlt, e0, e1, e2, e3⟩ := box4 HBX.out hN; clear hN; replace hB := hB.alloc (Nat.succ_le_of_lt hlt) (.cells #[.int .i64 f1, .int .i64 (f2 : Int)] 33))
  go_quiet (fail)
  replace hB := below_drewN hB nq
  go_wp2
  go_ret2
  exact TreePost.none (base1 hB)
set_option maxHeartbeats 8000000 in
set_option maxRecDepth 100000 in
theorem putW_2 (e : Ent) (p : Option Addr) (n cap : Nat) (w : World) (hn : n < 4611686018427387904) (hcap : n ≤ cap) (hwr : PutWr w p n cap 0 0) (r2 : Int) (h2 : ¬ r2 = 0) (hwe : PutWe e r2) :
    Calls Tryz.prog 32 #[.slice p n cap, .agg #[.string e.path, .int .i64 e.kind, .string e.text, .bool e.opq]] w (TreePost r2 [] w) := by
  have HBX : Aside (Below (w.heap.size + 1) (w.alloc (.cells #[.string e.path, .int .i64 e.kind, .string e.text, .bool e.opq] 28)) (w.alloc (.cells #[.string e.path, .int .i64 e.kind, .string e.text, .bool e.opq] 28))) := Below.refl _ _
  go_enter Tryz.func32, Tryz.ntmps32
  go_wp2_with (first
    | (go_at_call 21; refine (hwr _ (base1 HBX.out)).mono ?_; clear hwr; rintro rr w1 ⟨rfl, hN⟩; obtain ⟨hB, hne, hlt, e0, e1, e2, e3⟩ := box4 HBX.out hN; clear hN; replace hB := hB.alloc (Nat.succ_le_of_lt hlt) (.cells #[.int .i64 0, .int .i64 0] 33))
    | (go_at_call 51; refine (hwe _).mono ?_; clear hwe; rintro rr w2 ⟨rfl, hN⟩; have HB2 : Aside (Below w.heap.size w w2) := base1 (up1 hB hN); clear hN))
  go_ret2
  exact TreePost.none HB2.out
set_option maxHeartbeats 8000000 in
set_option maxRecDepth 100000 in
theorem putW_3 (e : Ent) (p : Option Addr) (n cap : Nat) (w : World) (hn : n < 4611686018427387904) (hcap : n ≤ cap) (hwr : PutWr w p n cap 0 0) (hwe : PutWe e 0) (hcu : RefCu e.path) (xp xt : ByteArray) (xk : Int) (xo : Bool) (hge : RefGd w e.path p n cap xp xk xt xo false)  :
    Calls Tryz.prog 32 #[.slice p n cap, .agg #[.string e.path, .int .i64 e.kind, .string e.text, .bool e.opq]] w (TreePost 6 [] w) := by
  have HBX : Aside (Below (w.heap.size + 1) (w.alloc (.cells #[.string e.path, .int .i64 e.kind, .string e.text, .bool e.opq] 28)) (w.alloc (.cells #[.string e.path, .int .i64 e.kind, .string e.text, .bool e.opq] 28))) := Below.refl _ _
  go_enter Tryz.func32, Tryz.ntmps32
  go_wp2_with (first
    | (go_at_call 21; refine (hwr _ (base1 HBX.out)).mono ?_; clear hwr; rintro rr w1 ⟨rfl, hN⟩; obtain ⟨hB, hne, hlt, e0, e1, e2, e3⟩ := box4 HBX.out hN; clear hN; replace hB := hB.alloc (Nat.succ_le_of_lt hlt) (.cells #[.int .i64 0, .int .i64 0] 33))
    | (go_at_call 51; refine (hwe _).mono ?_; clear hwe; rintro rr w2 ⟨rfl, hN⟩; clear hne hlt e0 e1 e2 e3; obtain ⟨hB2, hne, hlt, e0, e1, e2, e3⟩ := box4 hB hN; clear hN hB)
    | (go_at_call 53; refine (hcu _).mono ?_; clear hcu; rintro rr w3 ⟨⟨d, nm, rfl, hd, hnm⟩, hG3⟩; clear hnm hne hlt e0 e1 e2 e3; obtain ⟨hB3, hne, hlt, e0, e1, e2, e3⟩ := box4 hB2 hG3.below; clear hG3 hB2)
    | (go_at_call 26; refine (hge _ d hd (base1 hB3)).mono ?_; clear hge; rintro rr w4 ⟨rfl, hN⟩; clear hne hlt e0 e1 e2 e3; obtain ⟨hB4, hne, hlt, e0, e1, e2, e3⟩ := box4 hB3 hN; clear hN hB3; replace hB4 := hB4.alloc (Nat.succ_le_of_lt hlt) (.cells #[.string xp, .int .i64 xk, .string xt, .bool xo] 28)))
  go_ret2
  exact TreePost.none (base1 hB4)
set_option maxHeartbeats 8000000 in
set_option maxRecDepth 100000 in
theorem putW_4 (e : Ent) (p : Option Addr) (n cap : Nat) (w : World) (hn : n < 4611686018427387904) (hcap : n ≤ cap) (hwr : PutWr w p n cap 0 0) (hwe : PutWe e 0) (hcu : RefCu e.path) (xp xt : ByteArray) (xk : Int) (xo : Bool) (hge : RefGd w e.path p n cap xp xk xt xo true) (hkk : ¬ xk = 2) :
    Calls Tryz.prog 32 #[.slice p n cap, .agg #[.string e.path, .int .i64 e.kind, .string e.text, .bool e.opq]] w (TreePost 10 [] w) := by
  have HBX : Aside (Below (w.heap.size + 1) (w.alloc (.cells #[.string e.path, .int .i64 e.kind, .string e.text, .bool e.opq] 28)) (w.alloc (.cells #[.string e.path, .int .i64 e.kind, .string e.text, .bool e.opq] 28))) := Below.refl _ _
  go_enter Tryz.func32, Tryz.ntmps32
  go_wp2_with (first
    | (go_at_call 21; refine (hwr _ (base1 HBX.out)).mono ?_; clear hwr; rintro rr w1 ⟨rfl, hN⟩; obtain ⟨hB, hne, hlt, e0, e1, e2, e3⟩ := box4 HBX.out hN; clear hN; replace hB := hB.alloc (Nat.succ_le_of_lt hlt) (.cells #[.int .i64 0, .int .i64 0] 33))
    | (go_at_call 51; refine (hwe _).mono ?_; clear hwe; rintro rr w2 ⟨rfl, hN⟩; clear hne hlt e0 e1 e2 e3; obtain ⟨hB2, hne, hlt, e0, e1, e2, e3⟩ := box4 hB hN; clear hN hB)
    | (go_at_call 53; refine (hcu _).mono ?_; clear hcu; rintro rr w3 ⟨⟨d, nm, rfl, hd, hnm⟩, hG3⟩; clear hnm hne hlt e0 e1 e2 e3; obtain ⟨hB3, hne, hlt, e0, e1, e2, e3⟩ := box4 hB2 hG3.below; clear hG3 hB2)
    | (go_at_call 26; refine (hge _ d hd (base1 hB3)).mono ?_; clear hge; rintro rr w4 ⟨rfl, hN⟩; clear hne hlt e0 e1 e2 e3; obtain ⟨hB4, hne, hlt, e0, e1, e2, e3⟩ := box4 hB3 hN; clear hN hB3; replace hB4 := hB4.alloc (Nat.succ_le_of_lt hlt) (.cells #[.string xp, .int .i64 xk, .string xt, .bool xo] 28)))
  go_ret2
  exact TreePost.none (base1 hB4)
end Go.Proofs.YtampldoimpfjgaaGreatDoor
namespace Go.Proofs.YtampldoimpfjgaaGreatDoor
open Go.RowKit PM Go.Sort
set_option linter.unusedVariables false

set_option maxHeartbeats 8000000 in
set_option maxRecDepth 100000 in
theorem putW_5 (e : Ent) (p : Option Addr) (n cap : Nat) (w : World) (hn : n < 4611686018427387904) (hcap : n ≤ cap) (hwr : PutWr w p n cap 0 0) (hwe : PutWe e 0) (hcu : RefCu e.path) (xp xt : ByteArray) (xk : Int) (xo : Bool) (hge : RefGd w e.path p n cap xp 2 xt xo true) (zp zt : ByteArray) (zk : Int) (zo : Bool) (hg2 : RefGe w e.path p n cap zp zk zt zo true) (hkz : (zk == 2) = true) (hke : (e.kind == 2) = true) (rl : List Ent) (hwi : RefWi w e p n cap rl)  :
    Calls Tryz.prog 32 #[.slice p n cap, .agg #[.string e.path, .int .i64 e.kind, .string e.text, .bool e.opq]] w (TreePost 0 rl w) := by
  have HBX : Aside (Below (w.heap.size + 1) (w.alloc (.cells #[.string e.path, .int .i64 e.kind, .string e.text, .bool e.opq] 28)) (w.alloc (.cells #[.string e.path, .int .i64 e.kind, .string e.text, .bool e.opq] 28))) := Below.refl _ _
  have hkb : decide (e.kind = 2) = true := hke
  have hkd : decide (zk = 2) = true := hkz
  go_enter Tryz.func32, Tryz.ntmps32
  go_wp2_with (first
    | (go_at_call 21; refine (hwr _ (base1 HBX.out)).mono ?_; clear hwr; rintro rr w1 ⟨rfl, hN⟩; obtain ⟨hB, hne, hlt, e0, e1, e2, e3⟩ := box4 HBX.out hN; clear hN; replace hB := hB.alloc (Nat.succ_le_of_lt hlt) (.cells #[.int .i64 0, .int .i64 0] 33))
    | (go_at_call 51; refine (hwe _).mono ?_; clear hwe; rintro rr w2 ⟨rfl, hN⟩; clear hne hlt e0 e1 e2 e3; obtain ⟨hB2, hne, hlt, e0, e1, e2, e3⟩ := box4 hB hN; clear hN hB)
    | (go_at_call 53; refine (hcu _).mono ?_; clear hcu; rintro rr w3 ⟨⟨d, nm, rfl, hd, hnm⟩, hG3⟩; clear hnm hne hlt e0 e1 e2 e3; obtain ⟨hB3, hne, hlt, e0, e1, e2, e3⟩ := box4 hB2 hG3.below; clear hG3 hB2)
    | (go_at_call 26; refine (hge _ d hd (base1 hB3)).mono ?_; clear hge; rintro rr w4 ⟨rfl, hN⟩; clear hne hlt e0 e1 e2 e3; obtain ⟨hB4, hne, hlt, e0, e1, e2, e3⟩ := box4 hB3 hN; clear hN hB3; replace hB4 := hB4.alloc (Nat.succ_le_of_lt hlt) (.cells #[.string xp, .int .i64 2, .string xt, .bool xo] 28))
    | (go_at_call 26; refine (hg2 _ (base1 hB4)).mono ?_; clear hg2; rintro rr w5 ⟨rfl, hN⟩; clear hne hlt e0 e1 e2 e3; obtain ⟨hB5, hne, hlt, e0, e1, e2, e3⟩ := box4 hB4 hN; clear hN hB4; replace hB5 := hB5.alloc (Nat.succ_le_of_lt hlt) (.cells #[.string zp, .int .i64 zk, .string zt, .bool zo] 28))
    | (go_at_call 72; refine (hwi _ (base1 hB5)).mono ?_; clear hwi; rintro rr w6 ⟨⟨v6, rfl, hR6⟩, hN⟩; have HB6 : Aside (Below w.heap.size w w6) := base1 (up1 hB5 hN); have HR6 : Aside (Rows w6 w.heap.size v6 rl) := hR6.mono (base1 hB5).size; clear hR6 hN))
  go_ret2
  exact rows_end HR6.out rfl HB6.out
end Go.Proofs.YtampldoimpfjgaaGreatDoor
namespace Go.Proofs.YtampldoimpfjgaaGreatDoor
open Go.RowKit PM Go.Sort
set_option linter.unusedVariables false

set_option maxHeartbeats 8000000 in
set_option maxRecDepth 100000 in
theorem putW_6 (e : Ent) (p : Option Addr) (n cap : Nat) (w : World) (hn : n < 4611686018427387904) (hcap : n ≤ cap) (hwr : PutWr w p n cap 0 0) (hwe : PutWe e 0) (hcu : RefCu e.path) (xp xt : ByteArray) (xk : Int) (xo : Bool) (hge : RefGd w e.path p n cap xp 2 xt xo true) (zp zt : ByteArray) (zk : Int) (zo : Bool) (hg2 : RefGe w e.path p n cap zp zk zt zo true) (hkz : (zk == 2) = false) (hke : (e.kind == 2) = false) (rl : List Ent) (hwi : RefWi w e p n cap rl)  :
    Calls Tryz.prog 32 #[.slice p n cap, .agg #[.string e.path, .int .i64 e.kind, .string e.text, .bool e.opq]] w (TreePost 0 rl w) := by
  have HBX : Aside (Below (w.heap.size + 1) (w.alloc (.cells #[.string e.path, .int .i64 e.kind, .string e.text, .bool e.opq] 28)) (w.alloc (.cells #[.string e.path, .int .i64 e.kind, .string e.text, .bool e.opq] 28))) := Below.refl _ _
  have hkb : decide (e.kind = 2) = false := hke
  have hkd : decide (zk = 2) = false := hkz
  go_enter Tryz.func32, Tryz.ntmps32
  go_wp2_with (first
    | (go_at_call 21; refine (hwr _ (base1 HBX.out)).mono ?_; clear hwr; rintro rr w1 ⟨rfl, hN⟩; obtain ⟨hB, hne, hlt, e0, e1, e2, e3⟩ := box4 HBX.out hN; clear hN; replace hB := hB.alloc (Nat.succ_le_of_lt hlt) (.cells #[.int .i64 0, .int .i64 0] 33))
    | (go_at_call 51; refine (hwe _).mono ?_; clear hwe; rintro rr w2 ⟨rfl, hN⟩; clear hne hlt e0 e1 e2 e3; obtain ⟨hB2, hne, hlt, e0, e1, e2, e3⟩ := box4 hB hN; clear hN hB)
    | (go_at_call 53; refine (hcu _).mono ?_; clear hcu; rintro rr w3 ⟨⟨d, nm, rfl, hd, hnm⟩, hG3⟩; clear hnm hne hlt e0 e1 e2 e3; obtain ⟨hB3, hne, hlt, e0, e1, e2, e3⟩ := box4 hB2 hG3.below; clear hG3 hB2)
    | (go_at_call 26; refine (hge _ d hd (base1 hB3)).mono ?_; clear hge; rintro rr w4 ⟨rfl, hN⟩; clear hne hlt e0 e1 e2 e3; obtain ⟨hB4, hne, hlt, e0, e1, e2, e3⟩ := box4 hB3 hN; clear hN hB3; replace hB4 := hB4.alloc (Nat.succ_le_of_lt hlt) (.cells #[.string xp, .int .i64 2, .string xt, .bool xo] 28))
    | (go_at_call 26; refine (hg2 _ (base1 hB4)).mono ?_; clear hg2; rintro rr w5 ⟨rfl, hN⟩; clear hne hlt e0 e1 e2 e3; obtain ⟨hB5, hne, hlt, e0, e1, e2, e3⟩ := box4 hB4 hN; clear hN hB4; replace hB5 := hB5.alloc (Nat.succ_le_of_lt hlt) (.cells #[.string zp, .int .i64 zk, .string zt, .bool zo] 28))
    | (go_at_call 72; refine (hwi _ (base1 hB5)).mono ?_; clear hwi; rintro rr w6 ⟨⟨v6, rfl, hR6⟩, hN⟩; have HB6 : Aside (Below w.heap.size w w6) := base1 (up1 hB5 hN); have HR6 : Aside (Rows w6 w.heap.size v6 rl) := hR6.mono (base1 hB5).size; clear hR6 hN))
  go_ret2
  exact rows_end HR6.out rfl HB6.out
end Go.Proofs.YtampldoimpfjgaaGreatDoor
namespace Go.Proofs.YtampldoimpfjgaaGreatDoor
open Go.RowKit PM Go.Sort
set_option linter.unusedVariables false

set_option maxHeartbeats 8000000 in
set_option maxRecDepth 100000 in
theorem putW_7 (e : Ent) (p : Option Addr) (n cap : Nat) (w : World) (hn : n < 4611686018427387904) (hcap : n ≤ cap) (hwr : PutWr w p n cap 0 0) (hwe : PutWe e 0) (hcu : RefCu e.path) (xp xt : ByteArray) (xk : Int) (xo : Bool) (hge : RefGd w e.path p n cap xp 2 xt xo true) (zp zt : ByteArray) (zk : Int) (zo : Bool) (hg2 : RefGe w e.path p n cap zp zk zt zo true) (hkz : (zk == 2) = false) (hke : (e.kind == 2) = true)  :
    Calls Tryz.prog 32 #[.slice p n cap, .agg #[.string e.path, .int .i64 e.kind, .string e.text, .bool e.opq]] w (TreePost 7 [] w) := by
  have HBX : Aside (Below (w.heap.size + 1) (w.alloc (.cells #[.string e.path, .int .i64 e.kind, .string e.text, .bool e.opq] 28)) (w.alloc (.cells #[.string e.path, .int .i64 e.kind, .string e.text, .bool e.opq] 28))) := Below.refl _ _
  have hkb : decide (e.kind = 2) = true := hke
  have hkd : decide (zk = 2) = false := hkz
  go_enter Tryz.func32, Tryz.ntmps32
  go_wp2_with (first
    | (go_at_call 21; refine (hwr _ (base1 HBX.out)).mono ?_; clear hwr; rintro rr w1 ⟨rfl, hN⟩; obtain ⟨hB, hne, hlt, e0, e1, e2, e3⟩ := box4 HBX.out hN; clear hN; replace hB := hB.alloc (Nat.succ_le_of_lt hlt) (.cells #[.int .i64 0, .int .i64 0] 33))
    | (go_at_call 51; refine (hwe _).mono ?_; clear hwe; rintro rr w2 ⟨rfl, hN⟩; clear hne hlt e0 e1 e2 e3; obtain ⟨hB2, hne, hlt, e0, e1, e2, e3⟩ := box4 hB hN; clear hN hB)
    | (go_at_call 53; refine (hcu _).mono ?_; clear hcu; rintro rr w3 ⟨⟨d, nm, rfl, hd, hnm⟩, hG3⟩; clear hnm hne hlt e0 e1 e2 e3; obtain ⟨hB3, hne, hlt, e0, e1, e2, e3⟩ := box4 hB2 hG3.below; clear hG3 hB2)
    | (go_at_call 26; refine (hge _ d hd (base1 hB3)).mono ?_; clear hge; rintro rr w4 ⟨rfl, hN⟩; clear hne hlt e0 e1 e2 e3; obtain ⟨hB4, hne, hlt, e0, e1, e2, e3⟩ := box4 hB3 hN; clear hN hB3; replace hB4 := hB4.alloc (Nat.succ_le_of_lt hlt) (.cells #[.string xp, .int .i64 2, .string xt, .bool xo] 28))
    | (go_at_call 26; refine (hg2 _ (base1 hB4)).mono ?_; clear hg2; rintro rr w5 ⟨rfl, hN⟩; clear hne hlt e0 e1 e2 e3; obtain ⟨hB5, hne, hlt, e0, e1, e2, e3⟩ := box4 hB4 hN; clear hN hB4; replace hB5 := hB5.alloc (Nat.succ_le_of_lt hlt) (.cells #[.string zp, .int .i64 zk, .string zt, .bool zo] 28)))
  go_ret2
  exact TreePost.none (base1 hB5)
end Go.Proofs.YtampldoimpfjgaaGreatDoor
namespace Go.Proofs.YtampldoimpfjgaaGreatDoor
open Go.RowKit PM Go.Sort
set_option linter.unusedVariables false

set_option maxHeartbeats 8000000 in
set_option maxRecDepth 100000 in
theorem putW_8 (e : Ent) (p : Option Addr) (n cap : Nat) (w : World) (hn : n < 4611686018427387904) (hcap : n ≤ cap) (hwr : PutWr w p n cap 0 0) (hwe : PutWe e 0) (hcu : RefCu e.path) (xp xt : ByteArray) (xk : Int) (xo : Bool) (hge : RefGd w e.path p n cap xp 2 xt xo true) (zp zt : ByteArray) (zk : Int) (zo : Bool) (hg2 : RefGe w e.path p n cap zp zk zt zo true) (hkz : (zk == 2) = true) (hke : (e.kind == 2) = false)  :
    Calls Tryz.prog 32 #[.slice p n cap, .agg #[.string e.path, .int .i64 e.kind, .string e.text, .bool e.opq]] w (TreePost 7 [] w) := by
  have HBX : Aside (Below (w.heap.size + 1) (w.alloc (.cells #[.string e.path, .int .i64 e.kind, .string e.text, .bool e.opq] 28)) (w.alloc (.cells #[.string e.path, .int .i64 e.kind, .string e.text, .bool e.opq] 28))) := Below.refl _ _
  have hkb : decide (e.kind = 2) = false := hke
  have hkd : decide (zk = 2) = true := hkz
  go_enter Tryz.func32, Tryz.ntmps32
  go_wp2_with (first
    | (go_at_call 21; refine (hwr _ (base1 HBX.out)).mono ?_; clear hwr; rintro rr w1 ⟨rfl, hN⟩; obtain ⟨hB, hne, hlt, e0, e1, e2, e3⟩ := box4 HBX.out hN; clear hN; replace hB := hB.alloc (Nat.succ_le_of_lt hlt) (.cells #[.int .i64 0, .int .i64 0] 33))
    | (go_at_call 51; refine (hwe _).mono ?_; clear hwe; rintro rr w2 ⟨rfl, hN⟩; clear hne hlt e0 e1 e2 e3; obtain ⟨hB2, hne, hlt, e0, e1, e2, e3⟩ := box4 hB hN; clear hN hB)
    | (go_at_call 53; refine (hcu _).mono ?_; clear hcu; rintro rr w3 ⟨⟨d, nm, rfl, hd, hnm⟩, hG3⟩; clear hnm hne hlt e0 e1 e2 e3; obtain ⟨hB3, hne, hlt, e0, e1, e2, e3⟩ := box4 hB2 hG3.below; clear hG3 hB2)
    | (go_at_call 26; refine (hge _ d hd (base1 hB3)).mono ?_; clear hge; rintro rr w4 ⟨rfl, hN⟩; clear hne hlt e0 e1 e2 e3; obtain ⟨hB4, hne, hlt, e0, e1, e2, e3⟩ := box4 hB3 hN; clear hN hB3; replace hB4 := hB4.alloc (Nat.succ_le_of_lt hlt) (.cells #[.string xp, .int .i64 2, .string xt, .bool xo] 28))
    | (go_at_call 26; refine (hg2 _ (base1 hB4)).mono ?_; clear hg2; rintro rr w5 ⟨rfl, hN⟩; clear hne hlt e0 e1 e2 e3; obtain ⟨hB5, hne, hlt, e0, e1, e2, e3⟩ := box4 hB4 hN; clear hN hB4; replace hB5 := hB5.alloc (Nat.succ_le_of_lt hlt) (.cells #[.string zp, .int .i64 zk, .string zt, .bool zo] 28)))
  go_ret2
  exact TreePost.none (base1 hB5)
end Go.Proofs.YtampldoimpfjgaaGreatDoor
namespace Go.Proofs.YtampldoimpfjgaaGreatDoor
open Go.RowKit PM Go.Sort
set_option linter.unusedVariables false

set_option maxHeartbeats 8000000 in
set_option maxRecDepth 100000 in
theorem putW_9 (e : Ent) (p : Option Addr) (n cap : Nat) (w : World) (hn : n < 4611686018427387904) (hcap : n ≤ cap) (hwr : PutWr w p n cap 0 0) (hwe : PutWe e 0) (hcu : RefCu e.path) (xp xt : ByteArray) (xk : Int) (xo : Bool) (hge : RefGd w e.path p n cap xp 2 xt xo true) (zp zt : ByteArray) (zk : Int) (zo : Bool) (hg2 : RefGe w e.path p n cap zp zk zt zo false) (h8 : 80 ≤ n) :
    Calls Tryz.prog 32 #[.slice p n cap, .agg #[.string e.path, .int .i64 e.kind, .string e.text, .bool e.opq]] w (TreePost 5 [] w) := by
  have HBX : Aside (Below (w.heap.size + 1) (w.alloc (.cells #[.string e.path, .int .i64 e.kind, .string e.text, .bool e.opq] 28)) (w.alloc (.cells #[.string e.path, .int .i64 e.kind, .string e.text, .bool e.opq] 28))) := Below.refl _ _
  have h8z : (80 : Int) ≤ (n : Int) := by omega
  go_enter Tryz.func32, Tryz.ntmps32
  go_wp2_with (first
    | (go_at_call 21; refine (hwr _ (base1 HBX.out)).mono ?_; clear hwr; rintro rr w1 ⟨rfl, hN⟩; obtain ⟨hB, hne, hlt, e0, e1, e2, e3⟩ := box4 HBX.out hN; clear hN; replace hB := hB.alloc (Nat.succ_le_of_lt hlt) (.cells #[.int .i64 0, .int .i64 0] 33))
    | (go_at_call 51; refine (hwe _).mono ?_; clear hwe; rintro rr w2 ⟨rfl, hN⟩; clear hne hlt e0 e1 e2 e3; obtain ⟨hB2, hne, hlt, e0, e1, e2, e3⟩ := box4 hB hN; clear hN hB)
    | (go_at_call 53; refine (hcu _).mono ?_; clear hcu; rintro rr w3 ⟨⟨d, nm, rfl, hd, hnm⟩, hG3⟩; clear hnm hne hlt e0 e1 e2 e3; obtain ⟨hB3, hne, hlt, e0, e1, e2, e3⟩ := box4 hB2 hG3.below; clear hG3 hB2)
    | (go_at_call 26; refine (hge _ d hd (base1 hB3)).mono ?_; clear hge; rintro rr w4 ⟨rfl, hN⟩; clear hne hlt e0 e1 e2 e3; obtain ⟨hB4, hne, hlt, e0, e1, e2, e3⟩ := box4 hB3 hN; clear hN hB3; replace hB4 := hB4.alloc (Nat.succ_le_of_lt hlt) (.cells #[.string xp, .int .i64 2, .string xt, .bool xo] 28))
    | (go_at_call 26; refine (hg2 _ (base1 hB4)).mono ?_; clear hg2; rintro rr w5 ⟨rfl, hN⟩; clear hne hlt e0 e1 e2 e3; obtain ⟨hB5, hne, hlt, e0, e1, e2, e3⟩ := box4 hB4 hN; clear hN hB4; replace hB5 := hB5.alloc (Nat.succ_le_of_lt hlt) (.cells #[.string zp, .int .i64 zk, .string zt, .bool zo] 28)))
  go_ret2
  exact TreePost.none (base1 hB5)
end Go.Proofs.YtampldoimpfjgaaGreatDoor
namespace Go.Proofs.YtampldoimpfjgaaGreatDoor
open Go.RowKit PM Go.Sort
set_option linter.unusedVariables false

set_option maxHeartbeats 8000000 in
set_option maxRecDepth 100000 in
theorem putW_10 (e : Ent) (p : Option Addr) (n cap : Nat) (w : World) (hn : n < 4611686018427387904) (hcap : n ≤ cap) (hwr : PutWr w p n cap 0 0) (hwe : PutWe e 0) (hcu : RefCu e.path) (xp xt : ByteArray) (xk : Int) (xo : Bool) (hge : RefGd w e.path p n cap xp 2 xt xo true) (zp zt : ByteArray) (zk : Int) (zo : Bool) (hg2 : RefGe w e.path p n cap zp zk zt zo false) (h8 : ¬ 80 ≤ n) (rl : List Ent) (hwi : RefWi w e p n cap rl)  :
    Calls Tryz.prog 32 #[.slice p n cap, .agg #[.string e.path, .int .i64 e.kind, .string e.text, .bool e.opq]] w (TreePost 0 rl w) := by
  have HBX : Aside (Below (w.heap.size + 1) (w.alloc (.cells #[.string e.path, .int .i64 e.kind, .string e.text, .bool e.opq] 28)) (w.alloc (.cells #[.string e.path, .int .i64 e.kind, .string e.text, .bool e.opq] 28))) := Below.refl _ _
  have h8z : ¬ (80 : Int) ≤ (n : Int) := by omega
  go_enter Tryz.func32, Tryz.ntmps32
  go_wp2_with (first
    | (go_at_call 21; refine (hwr _ (base1 HBX.out)).mono ?_; clear hwr; rintro rr w1 ⟨rfl, hN⟩; obtain ⟨hB, hne, hlt, e0, e1, e2, e3⟩ := box4 HBX.out hN; clear hN; replace hB := hB.alloc (Nat.succ_le_of_lt hlt) (.cells #[.int .i64 0, .int .i64 0] 33))
    | (go_at_call 51; refine (hwe _).mono ?_; clear hwe; rintro rr w2 ⟨rfl, hN⟩; clear hne hlt e0 e1 e2 e3; obtain ⟨hB2, hne, hlt, e0, e1, e2, e3⟩ := box4 hB hN; clear hN hB)
    | (go_at_call 53; refine (hcu _).mono ?_; clear hcu; rintro rr w3 ⟨⟨d, nm, rfl, hd, hnm⟩, hG3⟩; clear hnm hne hlt e0 e1 e2 e3; obtain ⟨hB3, hne, hlt, e0, e1, e2, e3⟩ := box4 hB2 hG3.below; clear hG3 hB2)
    | (go_at_call 26; refine (hge _ d hd (base1 hB3)).mono ?_; clear hge; rintro rr w4 ⟨rfl, hN⟩; clear hne hlt e0 e1 e2 e3; obtain ⟨hB4, hne, hlt, e0, e1, e2, e3⟩ := box4 hB3 hN; clear hN hB3; replace hB4 := hB4.alloc (Nat.succ_le_of_lt hlt) (.cells #[.string xp, .int .i64 2, .string xt, .bool xo] 28))
    | (go_at_call 26; refine (hg2 _ (base1 hB4)).mono ?_; clear hg2; rintro rr w5 ⟨rfl, hN⟩; clear hne hlt e0 e1 e2 e3; obtain ⟨hB5, hne, hlt, e0, e1, e2, e3⟩ := box4 hB4 hN; clear hN hB4; replace hB5 := hB5.alloc (Nat.succ_le_of_lt hlt) (.cells #[.string zp, .int .i64 zk, .string zt, .bool zo] 28))
    | (go_at_call 72; refine (hwi _ (base1 hB5)).mono ?_; clear hwi; rintro rr w6 ⟨⟨v6, rfl, hR6⟩, hN⟩; have HB6 : Aside (Below w.heap.size w w6) := base1 (up1 hB5 hN); have HR6 : Aside (Rows w6 w.heap.size v6 rl) := hR6.mono (base1 hB5).size; clear hR6 hN))
  go_ret2
  exact rows_end HR6.out rfl HB6.out
end Go.Proofs.YtampldoimpfjgaaGreatDoor
namespace Go.Proofs.YtampldoimpfjgaaGreatDoor
open Go.RowKit PM Go.Sort
set_option linter.unusedVariables false

theorem refPut_any (t : List Ent) (e : Ent) (p : Option Addr) (cap : Nat) (w : World) (hL : Lies w p t) (hF : ∀ e ∈ t, e.path.size ≤ 1048576 ∧ e.text.size ≤ 1048576) (hn : t.length < 4611686018427387904) (hcap : t.length ≤ cap)
    (he : e.path.size ≤ 1048576) (het : e.text.size ≤ 1048576) :
    Calls Tryz.prog 32 #[.slice p t.length cap, .agg #[.string e.path, .int .i64 e.kind, .string e.text, .bool e.opq]] w (TreePost (putErr t e) (if putErr t e = 0 then putL t e else []) w) := by
  have hwr : PutWr w p t.length cap (faultL false t).1 ((faultL false t).2 : Nat) := fun W hB => refWrong_any t false p cap W (hL.kept hB) hF hn hcap
  have hwe : PutWe e (wrongE e false) := fun W => refWrongEntry_any e false W (by omega) (by unfold maxLen; omega)
  by_cases h1 : (faultL false t).1 = 0
  · have HR : Right false t := faultL_zero.1 h1
    have hfe := faultL_right HR
    have h80 := HR.len
    rw [hfe] at hwr
    have hwr : PutWr w p t.length cap 0 0 := hwr
    by_cases h2 : wrongE e false = 0
    · have HW2 := h2
      rw [h2] at hwe
      have HA := putAsk_3 h1 h2
      have hcu : RefCu e.path := fun W => refCut_grown e.path W (by omega)
      have hwi : RefWi w e p t.length cap (withL t e) := fun W hB => refWith_any t e p cap W (hL.kept hB) (fun x hx => (hF x hx).1) he h80
      rw [withL_put HR.sorted e] at hwi
      have hge : ∀ x : Ent, ∀ bb, (getL t (dirOf e.p)).getD zeroE = x → (getL t (dirOf e.p)).isSome = bb → RefGd w e.path p t.length cap x.path x.kind x.text x.opq bb := fun x bb hxx hbb W d hd hB => by
        have hd' : d.data.toList = dirOf e.p := hd
        exact refGet_any t d p cap W (hL.kept hB) hn x bb (by rw [hd']; exact hxx) (by rw [hd']; exact hbb)
      have hg2 : ∀ x : Ent, ∀ bb, (getL t e.p).getD zeroE = x → (getL t e.p).isSome = bb → RefGe w e.path p t.length cap x.path x.kind x.text x.opq bb := fun x bb hxx hbb W hB => refGet_any t e.path p cap W (hL.kept hB) hn x bb hxx hbb
      have hne : e.p ≠ [] := clean_ne (wrongE_clean HW2)
      rcases getL_cases t (dirOf e.p) with ⟨a, b⟩ | ⟨x, a, b, c⟩ | ⟨x, a, b, c⟩
      · have hE : putErr t e = 6 := by rw [putErr_asked (by rw [HA, b]; decide), HA, b]
        rw [hE, if_neg (by decide)]
        exact putW_3 e p t.length cap w hn hcap hwr hwe hcu _ _ _ _ (hge zeroE false (by rw [a]; rfl) (by rw [a]; rfl))
      · have hE : putErr t e = 10 := by rw [putErr_asked (by rw [HA, c]; decide), HA, c]
        rw [hE, if_neg (by decide)]
        exact putW_4 e p t.length cap w hn hcap hwr hwe hcu _ _ _ _ (hge x true (by rw [a]; rfl) (by rw [a]; rfl)) b
      · have ha : putAsk t e = 0 := HA.trans c
        have hgd := hge x true (by rw [a]; rfl) (by rw [a]; rfl)
        rw [b] at hgd
        cases hg : getL t e.p with
        | none =>
          have hg3 := hg2 zeroE false (by rw [hg]; rfl) (by rw [hg]; rfl)
          have hE := putErr_not ha (getL_none hg).2
          by_cases h8 : t.length = 80
          · rw [if_pos h8] at hE
            rw [hE, if_neg (by decide)]
            exact putW_9 e p t.length cap w hn hcap hwr hwe hcu _ _ 0 _ hgd _ _ _ _ hg3 (by omega)
          · rw [if_neg h8] at hE
            rw [hE, if_pos rfl]
            exact putW_10 e p t.length cap w hn hcap hwr hwe hcu _ _ 0 _ hgd _ _ _ _ hg3 (by omega) _ hwi
        | some z =>
          have hg3 := hg2 z true (by rw [hg]; rfl) (by rw [hg]; rfl)
          obtain ⟨hm, hp⟩ := getL_some hne hg
          have hE := putErr_there ha hm hp
          cases hke : (e.kind == 2) <;> cases hkz : (z.kind == 2) <;> rw [hke, hkz] at hE
          · rw [if_pos rfl] at hE
            rw [hE, if_pos rfl]
            exact putW_6 e p t.length cap w hn hcap hwr hwe hcu _ _ 0 _ hgd _ _ _ _ hg3 hkz hke _ hwi
          · rw [if_neg (by decide)] at hE
            rw [hE, if_neg (by decide)]
            exact putW_8 e p t.length cap w hn hcap hwr hwe hcu _ _ 0 _ hgd _ _ _ _ hg3 hkz hke
          · rw [if_neg (by decide)] at hE
            rw [hE, if_neg (by decide)]
            exact putW_7 e p t.length cap w hn hcap hwr hwe hcu _ _ 0 _ hgd _ _ _ _ hg3 hkz hke
          · rw [if_pos rfl] at hE
            rw [hE, if_pos rfl]
            exact putW_5 e p t.length cap w hn hcap hwr hwe hcu _ _ 0 _ hgd _ _ _ _ hg3 hkz hke _ hwi
    · rw [putAsk_2 h1 h2, if_neg h2]
      exact putW_2 e p t.length cap w hn hcap hwr _ h2 hwe
  · rw [putAsk_1 h1, if_neg h1]
    exact putW_1 e p t.length cap w hn hcap _ _ h1 hwr
end Go.Proofs.YtampldoimpfjgaaGreatDoor
namespace Go.Proofs.YtampldoimpfjgaaGreatDoor
open Go.RowKit PM Go.Sort
set_option linter.unusedVariables false

abbrev RefNa (w : World) (s : ByteArray) (p : Option Addr) (n cap k : Nat) : Prop := ∀ W, Below w.heap.size w W → Calls Tryz.prog 80 #[.slice p n cap, .string s] W fun r w' => (∃ p' c, r = .returned (.slice p' k c)) ∧ Below W.heap.size W w'
abbrev RefWo (w : World) (s : ByteArray) (p : Option Addr) (n cap : Nat) (rl : List Ent) : Prop := ∀ W, Below w.heap.size w W → Calls Tryz.prog 81 #[.slice p n cap, .string s] W (RowsPost rl W)
theorem refNa (t : List Ent) (q : ByteArray) (p : Option Addr) (cap : Nat) (w : World) (hL : Lies w p t) (hF : ∀ e ∈ t, e.path.size ≤ 1048576 ∧ e.text.size ≤ 1048576) (hn80 : t.length ≤ 80) : RefNa w q p t.length cap (namesL t q.data.toList).length :=
  fun W hB => (refNames_any t q p cap W (hL.kept hB) (fun x hx => (hF x hx).1) hn80).mono fun r w' ⟨⟨v, bs, hr, hS, hb⟩, hN⟩ => by
    obtain ⟨a, c, rfl⟩ := hS.form
    have : (namesL t q.data.toList).length = bs.length := by rw [← hb, List.length_map]
    exact ⟨⟨a, c, by rw [this]; exact hr⟩, hN⟩
set_option maxHeartbeats 8000000 in
set_option maxRecDepth 100000 in
theorem remW_1 (q : ByteArray) (p : Option Addr) (n cap : Nat) (w : World) (f1 : Int) (f2 : Nat) (h1 : ¬ f1 = 0) (hwr : PutWr w p n cap f1 (f2 : Int)) :
    Calls Tryz.prog 39 #[.slice p n cap, .string q] w (TreePost f1 [] w) := by
  have hB : Below w.heap.size w w := Below.refl _ _
  go_enter Tryz.func39, Tryz.ntmps39
  go_wp2_with (go_at_call 21; refine (hwr _ hB).mono ?_; clear hwr hB; rintro rr w1 ⟨rfl, hB⟩; replace hB := hB.alloc hB.size (.cells #[.int .i64 f1, .int .i64 (f2 : Int)] 33))
  go_quiet (fail)
  replace hB := below_drewN hB nq
  go_wp2
  go_ret2
  exact TreePost.none hB
set_option maxHeartbeats 8000000 in
set_option maxRecDepth 100000 in
theorem remW_2 (q : ByteArray) (p : Option Addr) (n cap : Nat) (w : World) (hwr : PutWr w p n cap 0 0) (zp zt : ByteArray) (zk : Int) (zo : Bool) (hg2 : RefGe w q p n cap zp zk zt zo false) :
    Calls Tryz.prog 39 #[.slice p n cap, .string q] w (TreePost 6 [] w) := by
  have hB : Below w.heap.size w w := Below.refl _ _
  go_enter Tryz.func39, Tryz.ntmps39
  go_wp2_with (first
    | (go_at_call 21; refine (hwr _ hB).mono ?_; clear hwr; rintro rr w1 ⟨rfl, hN⟩; replace hB := (Below.onto hB hN).alloc (Below.onto hB hN).size (.cells #[.int .i64 0, .int .i64 0] 33); clear hN)
    | (go_at_call 26; refine (hg2 _ hB).mono ?_; clear hg2; rintro rr w2 ⟨rfl, hN⟩; replace hB := (Below.onto hB hN).alloc (Below.onto hB hN).size (.cells #[.string zp, .int .i64 zk, .string zt, .bool zo] 28); clear hN))
  go_ret2
  exact TreePost.none hB
set_option maxHeartbeats 8000000 in
set_option maxRecDepth 100000 in
theorem remW_3 (q : ByteArray) (p : Option Addr) (n cap : Nat) (w : World) (hwr : PutWr w p n cap 0 0) (zp zt : ByteArray) (zk : Int) (zo : Bool) (hg2 : RefGe w q p n cap zp zk zt zo true) (hq : q.data.toList = []) :
    Calls Tryz.prog 39 #[.slice p n cap, .string q] w (TreePost 6 [] w) := by
  have hB : Below w.heap.size w w := Below.refl _ _
  have h1 := empty_of hq
  go_enter Tryz.func39, Tryz.ntmps39
  go_wp2_with (first
    | (go_at_call 21; refine (hwr _ hB).mono ?_; clear hwr; rintro rr w1 ⟨rfl, hN⟩; replace hB := (Below.onto hB hN).alloc (Below.onto hB hN).size (.cells #[.int .i64 0, .int .i64 0] 33); clear hN)
    | (go_at_call 26; refine (hg2 _ hB).mono ?_; clear hg2; rintro rr w2 ⟨rfl, hN⟩; replace hB := (Below.onto hB hN).alloc (Below.onto hB hN).size (.cells #[.string zp, .int .i64 zk, .string zt, .bool zo] 28); clear hN))
  go_ret2
  exact TreePost.none hB
set_option maxHeartbeats 8000000 in
set_option maxRecDepth 100000 in
theorem remW_4 (q : ByteArray) (p : Option Addr) (n cap : Nat) (w : World) (hwr : PutWr w p n cap 0 0) (zp zt : ByteArray) (zk : Int) (zo : Bool) (hg2 : RefGe w q p n cap zp zk zt zo true) (hq : ¬ q.data.toList = []) (k : Nat) (hk : 0 < k) (hna : RefNa w q p n cap k) :
    Calls Tryz.prog 39 #[.slice p n cap, .string q] w (TreePost 11 [] w) := by
  have hB : Below w.heap.size w w := Below.refl _ _
  have h1 := empty_not hq
  have hkz : (0 : Int) < (k : Int) := by omega
  go_enter Tryz.func39, Tryz.ntmps39
  go_wp2_with (first
    | (go_at_call 21; refine (hwr _ hB).mono ?_; clear hwr; rintro rr w1 ⟨rfl, hN⟩; replace hB := (Below.onto hB hN).alloc (Below.onto hB hN).size (.cells #[.int .i64 0, .int .i64 0] 33); clear hN)
    | (go_at_call 26; refine (hg2 _ hB).mono ?_; clear hg2; rintro rr w2 ⟨rfl, hN⟩; replace hB := (Below.onto hB hN).alloc (Below.onto hB hN).size (.cells #[.string zp, .int .i64 zk, .string zt, .bool zo] 28); clear hN)
    | (go_at_call 80; refine (hna _ hB).mono ?_; clear hna; rintro rr w3 ⟨⟨a3, c3, rfl⟩, hN⟩; replace hB := Below.onto hB hN; clear hN))
  go_ret2
  exact TreePost.none hB
set_option maxHeartbeats 8000000 in
set_option maxRecDepth 100000 in
theorem remW_5 (q : ByteArray) (p : Option Addr) (n cap : Nat) (w : World) (hwr : PutWr w p n cap 0 0) (zp zt : ByteArray) (zk : Int) (zo : Bool) (hg2 : RefGe w q p n cap zp zk zt zo true) (hq : ¬ q.data.toList = []) (hna : RefNa w q p n cap 0) (rl : List Ent) (hwo : RefWo w q p n cap rl) :
    Calls Tryz.prog 39 #[.slice p n cap, .string q] w (TreePost 0 rl w) := by
  have hB : Below w.heap.size w w := Below.refl _ _
  have h1 := empty_not hq
  go_enter Tryz.func39, Tryz.ntmps39
  go_wp2_with (first
    | (go_at_call 21; refine (hwr _ hB).mono ?_; clear hwr; rintro rr w1 ⟨rfl, hN⟩; replace hB := (Below.onto hB hN).alloc (Below.onto hB hN).size (.cells #[.int .i64 0, .int .i64 0] 33); clear hN)
    | (go_at_call 26; refine (hg2 _ hB).mono ?_; clear hg2; rintro rr w2 ⟨rfl, hN⟩; replace hB := (Below.onto hB hN).alloc (Below.onto hB hN).size (.cells #[.string zp, .int .i64 zk, .string zt, .bool zo] 28); clear hN)
    | (go_at_call 80; refine (hna _ hB).mono ?_; clear hna; rintro rr w3 ⟨⟨a3, c3, rfl⟩, hN⟩; replace hB := Below.onto hB hN; clear hN)
    | (go_at_call 81; refine (hwo _ hB).mono ?_; clear hwo; rintro rr w4 ⟨⟨v4, rfl, hR4⟩, hN⟩; have HR4 : Aside (Rows w4 w.heap.size v4 rl) := hR4.mono hB.size; replace hB := Below.onto hB hN; clear hN hR4))
  go_ret2
  exact rows_end HR4.out rfl hB

theorem remErr_1 {t : List Ent} {q : List UInt8} (h : ¬ (faultL false t).1 = 0) : remErr t q = (faultL false t).1 := by rw [remErr, orL, if_neg h]
theorem remErr_2 {t : List Ent} {q : List UInt8} (h : (faultL false t).1 = 0) (hm : ¬ ∃ e ∈ t, e.p = q) : remErr t q = 6 := by
  rw [remErr, orL, if_pos h, orL, missL, if_neg hm]; rfl
theorem remErr_3 {t : List Ent} {q : List UInt8} (h : (faultL false t).1 = 0) (hm : ∃ e ∈ t, e.p = q) : remErr t q = fullL t q := by
  rw [remErr, orL, if_pos h, orL, missL, if_pos hm, if_pos rfl, orL]
  split
  · rename_i h; rw [h]; rfl
  · rfl
theorem refRemove_any (t : List Ent) (q : ByteArray) (p : Option Addr) (cap : Nat) (w : World) (hL : Lies w p t) (hF : ∀ e ∈ t, e.path.size ≤ 1048576 ∧ e.text.size ≤ 1048576) (hn : t.length < 4611686018427387904) (hcap : t.length ≤ cap) (hq : q.size ≤ maxLen) :
    Calls Tryz.prog 39 #[.slice p t.length cap, .string q] w (TreePost (remErr t q.data.toList) (if remErr t q.data.toList = 0 then remL t q.data.toList else []) w) := by
  have hwr : PutWr w p t.length cap (faultL false t).1 ((faultL false t).2 : Nat) := fun W hB => refWrong_any t false p cap W (hL.kept hB) hF hn hcap
  by_cases h1 : (faultL false t).1 = 0
  · have HR : Right false t := faultL_zero.1 h1
    have h80 := HR.len
    rw [faultL_right HR] at hwr
    have hwr : PutWr w p t.length cap 0 0 := hwr
    have hg2 : ∀ x : Ent, ∀ bb, (getL t q.data.toList).getD zeroE = x → (getL t q.data.toList).isSome = bb → RefGe w q p t.length cap x.path x.kind x.text x.opq bb := fun x bb hxx hbb W hB => refGet_any t q p cap W (hL.kept hB) hn x bb hxx hbb
    by_cases h0 : q.data.toList = []
    · have hE : remErr t q.data.toList = 6 := remErr_2 h1 (by rintro ⟨e, he, hp⟩; exact HR.ne he (hp.trans h0))
      rw [hE, if_neg (by decide)]
      exact remW_3 q p t.length cap w hwr _ _ _ _ (hg2 dirE true (by rw [h0, getL_nil]; rfl) (by rw [h0, getL_nil]; rfl)) h0
    cases hg : getL t q.data.toList with
    | none =>
      have hE : remErr t q.data.toList = 6 := remErr_2 h1 (by rintro ⟨e, he, hp⟩; exact (getL_none hg).2 e he hp)
      rw [hE, if_neg (by decide)]
      exact remW_2 q p t.length cap w hwr _ _ _ _ (hg2 zeroE false (by rw [hg]; rfl) (by rw [hg]; rfl))
    | some z =>
      obtain ⟨hm, hp⟩ := getL_some h0 hg
      have hg3 := hg2 z true (by rw [hg]; rfl) (by rw [hg]; rfl)
      have hE := remErr_3 h1 ⟨z, hm, hp⟩
      have hna := refNa t q p cap w hL hF h80
      by_cases hk : (namesL t q.data.toList).length = 0
      · have hu := (names_none HR h0).1 hk
        have hf0 : fullL t q.data.toList = 0 := by
          unfold fullL
          rw [if_neg]
          intro h
          obtain ⟨x, hx, hux⟩ := List.any_eq_true.1 h
          rw [hu x hx] at hux
          cases hux
        rw [hE, hf0, if_pos rfl]
        rw [hk] at hna
        refine remW_5 q p t.length cap w hwr _ _ _ _ hg3 h0 hna _ ?_
        intro W hB
        rw [← remUnder_rem hu]
        exact refWithout_any t q p cap W (hL.kept hB) (fun x hx => (hF x hx).1) hq h80
      · have hf1 : fullL t q.data.toList = 11 := by
          unfold fullL
          rw [if_pos]
          apply Classical.byContradiction
          intro hc
          apply hk
          rw [names_none HR h0]
          intro x hx
          cases hu : under x.p q.data.toList with
          | false => rfl
          | true => exact absurd (List.any_eq_true.2 ⟨x, hx, hu⟩) hc
        rw [hE, hf1, if_neg (by decide)]
        exact remW_4 q p t.length cap w hwr _ _ _ _ hg3 h0 _ (by omega) hna
  · rw [remErr_1 h1, if_neg h1]
    exact remW_1 q p t.length cap w _ _ h1 hwr
end Go.Proofs.YtampldoimpfjgaaGreatDoor
namespace Go.Proofs.YtampldoimpfjgaaGreatDoor
open Go.RowKit PM Go.Sort
set_option linter.unusedVariables false

theorem boxK {V W w1 : World} {a b c d : Value} {T : TypeId} (h : Below (V.heap.size + 1) (V.alloc (.cells #[a, b, c, d] T)) W) (g : Below W.heap.size W w1) :
    Below (V.heap.size + 1) (V.alloc (.cells #[a, b, c, d] T)) w1 ∧ V.heap.size ≠ w1.heap.size ∧ V.heap.size < w1.heap.size ∧ w1.cell? ⟨V.heap.size, 1, none⟩ = some b := by
  have hB := up1 h g
  have hs := hB.size
  simp at hs
  obtain ⟨⟨_, x, _, _⟩, _⟩ := new4 (Nat.lt_succ_self _) hB
  exact ⟨hB, by omega, by omega, x⟩
theorem baseK {w V W : World} {o : Obj} (hV : Below w.heap.size w V) (h : Below (V.heap.size + 1) (V.alloc o) W) : Below w.heap.size w W := Below.onto hV (base1 h)
abbrev RefCl (s : ByteArray) (b : Bool) : Prop := ∀ W, Calls Tryz.prog 25 #[.string s] W fun e w' => e = .returned (.bool b) ∧ Below W.heap.size W w'
abbrev RefUn (s d : ByteArray) (b : Bool) : Prop := ∀ W, Calls Tryz.prog 46 #[.string s, .string d] W fun e w' => e = .returned (.bool b) ∧ w' = W
set_option maxHeartbeats 16000000 in
set_option maxRecDepth 100000 in
theorem mvW_1 (p : Option Addr) (n cap : Nat) (frm to : ByteArray) (w : World) (f1 : Int) (f2 : Nat) (h1 : ¬ f1 = 0) (hwr : PutWr w p n cap f1 (f2 : Int)) :
    Calls Tryz.prog 45 #[.slice p n cap, .string frm, .string to] w (TreePost f1 [] w) := by
  have hB : Below w.heap.size w w := Below.refl _ _
  go_enter Tryz.func45, Tryz.ntmps45
  go_wp2_with (go_at_call 21; refine (hwr _ hB).mono ?_; clear hwr; rintro rr w1 ⟨rfl, hN⟩; replace hB := (Below.onto hB hN).alloc (Below.onto hB hN).size (.cells #[.int .i64 f1, .int .i64 (f2 : Int)] 33); clear hN)
  go_quiet (fail)
  replace hB := below_drewN hB nq
  go_wp2
  go_ret2
  exact TreePost.none hB
set_option maxHeartbeats 16000000 in
set_option maxRecDepth 100000 in
theorem mvW_2 (p : Option Addr) (n cap : Nat) (frm to : ByteArray) (w : World) (hwr : PutWr w p n cap 0 0) (zp zt : ByteArray) (zk : Int) (zo : Bool) (hgf : RefGe w frm p n cap zp zk zt zo false) :
    Calls Tryz.prog 45 #[.slice p n cap, .string frm, .string to] w (TreePost 6 [] w) := by
  have hB : Below w.heap.size w w := Below.refl _ _
  go_enter Tryz.func45, Tryz.ntmps45
  go_wp2_with (first
    | (go_at_call 21; refine (hwr _ hB).mono ?_; clear hwr; rintro rr w1 ⟨rfl, hN⟩; replace hB := (Below.onto hB hN).alloc (Below.onto hB hN).size (.cells #[.int .i64 0, .int .i64 0] 33); clear hN)
    | (go_at_call 26; refine (hgf _ hB).mono ?_; clear hgf; rintro rr w2 ⟨rfl, hN⟩; replace hB := (Below.onto hB hN).alloc (Below.onto hB hN).size (.cells #[.string zp, .int .i64 zk, .string zt, .bool zo] 28); clear hN))
  go_ret2
  exact TreePost.none hB
set_option maxHeartbeats 16000000 in
set_option maxRecDepth 100000 in
theorem mvW_3 (p : Option Addr) (n cap : Nat) (frm to : ByteArray) (w : World) (hwr : PutWr w p n cap 0 0) (zp zt : ByteArray) (zk : Int) (zo : Bool) (hgf : RefGe w frm p n cap zp zk zt zo true) (hf0 : frm.data.toList = []) :
    Calls Tryz.prog 45 #[.slice p n cap, .string frm, .string to] w (TreePost 6 [] w) := by
  have hB : Below w.heap.size w w := Below.refl _ _
  have hf1 := empty_of hf0
  go_enter Tryz.func45, Tryz.ntmps45
  go_wp2_with (first
    | (go_at_call 21; refine (hwr _ hB).mono ?_; clear hwr; rintro rr w1 ⟨rfl, hN⟩; replace hB := (Below.onto hB hN).alloc (Below.onto hB hN).size (.cells #[.int .i64 0, .int .i64 0] 33); clear hN)
    | (go_at_call 26; refine (hgf _ hB).mono ?_; clear hgf; rintro rr w2 ⟨rfl, hN⟩; replace hB := (Below.onto hB hN).alloc (Below.onto hB hN).size (.cells #[.string zp, .int .i64 zk, .string zt, .bool zo] 28); clear hN))
  go_ret2
  exact TreePost.none hB
set_option maxHeartbeats 16000000 in
set_option maxRecDepth 100000 in
theorem mvW_4 (p : Option Addr) (n cap : Nat) (frm to : ByteArray) (w : World) (hwr : PutWr w p n cap 0 0) (zp zt : ByteArray) (zk : Int) (zo : Bool) (hgf : RefGe w frm p n cap zp zk zt zo true) (hf0 : ¬ frm.data.toList = []) (hcl : RefCl to false) :
    Calls Tryz.prog 45 #[.slice p n cap, .string frm, .string to] w (TreePost 7 [] w) := by
  have hB : Below w.heap.size w w := Below.refl _ _
  have hf1 := empty_not hf0
  go_enter Tryz.func45, Tryz.ntmps45
  go_wp2_with (first
    | (go_at_call 21; refine (hwr _ hB).mono ?_; clear hwr; rintro rr w1 ⟨rfl, hN⟩; replace hB := (Below.onto hB hN).alloc (Below.onto hB hN).size (.cells #[.int .i64 0, .int .i64 0] 33); clear hN)
    | (go_at_call 26; refine (hgf _ hB).mono ?_; clear hgf; rintro rr w2 ⟨rfl, hN⟩; have HV : Aside (Below w.heap.size w w2) := Below.onto hB hN; clear hN hB; have hT : Below (w2.heap.size + 1) (w2.alloc (.cells #[.string zp, .int .i64 zk, .string zt, .bool zo] 28)) (w2.alloc (.cells #[.string zp, .int .i64 zk, .string zt, .bool zo] 28)) := Below.refl _ _)
    | (go_at_call 25; refine (hcl _).mono ?_; clear hcl; rintro rr w3 ⟨rfl, hN⟩; obtain ⟨hT3, hne, hlt, a1⟩ := boxK hT hN; clear hN hT))
  go_ret2
  exact TreePost.none (baseK HV.out hT3)
set_option maxHeartbeats 16000000 in
set_option maxRecDepth 100000 in
theorem mvW_5 (p : Option Addr) (n cap : Nat) (frm to : ByteArray) (w : World) (hwr : PutWr w p n cap 0 0) (zp zt : ByteArray) (zk : Int) (zo : Bool) (hgf : RefGe w frm p n cap zp zk zt zo true) (hf0 : ¬ frm.data.toList = []) (hcl : RefCl to true) (hft : frm.data.toList = to.data.toList) :
    Calls Tryz.prog 45 #[.slice p n cap, .string frm, .string to] w (fun r w' => r = .returned (.tuple #[.slice p n cap, .int .i64 0]) ∧ Below w.heap.size w w') := by
  have hB : Below w.heap.size w w := Below.refl _ _
  have hf1 := empty_not hf0
  have hf2 : to.toList.isEmpty = false := empty_not (by rw [← hft]; exact hf0)
  obtain ⟨q1, q2⟩ := eq_parts hft
  go_enter Tryz.func45, Tryz.ntmps45
  go_wp2_with (first
    | (go_at_call 21; refine (hwr _ hB).mono ?_; clear hwr; rintro rr w1 ⟨rfl, hN⟩; replace hB := (Below.onto hB hN).alloc (Below.onto hB hN).size (.cells #[.int .i64 0, .int .i64 0] 33); clear hN)
    | (go_at_call 26; refine (hgf _ hB).mono ?_; clear hgf; rintro rr w2 ⟨rfl, hN⟩; have HV : Aside (Below w.heap.size w w2) := Below.onto hB hN; clear hN hB; have hT : Below (w2.heap.size + 1) (w2.alloc (.cells #[.string zp, .int .i64 zk, .string zt, .bool zo] 28)) (w2.alloc (.cells #[.string zp, .int .i64 zk, .string zt, .bool zo] 28)) := Below.refl _ _)
    | (go_at_call 25; refine (hcl _).mono ?_; clear hcl; rintro rr w3 ⟨rfl, hN⟩; obtain ⟨hT3, hne, hlt, a1⟩ := boxK hT hN; clear hN hT))
  go_ret2
  exact ⟨rfl, baseK HV.out hT3⟩
set_option maxHeartbeats 16000000 in
set_option maxRecDepth 100000 in
theorem mvW_6 (p : Option Addr) (n cap : Nat) (frm to : ByteArray) (w : World) (hwr : PutWr w p n cap 0 0) (zp zt : ByteArray) (zk : Int) (zo : Bool) (hgf : RefGe w frm p n cap zp zk zt zo true) (hf0 : ¬ frm.data.toList = []) (hcl : RefCl to true) (hft : ¬ frm.data.toList = to.data.toList) (hun : RefUn to frm true) :
    Calls Tryz.prog 45 #[.slice p n cap, .string frm, .string to] w (TreePost 8 [] w) := by
  have hB : Below w.heap.size w w := Below.refl _ _
  have hf1 := empty_not hf0
  obtain ⟨q1, q2⟩ := ne_parts hft
  go_enter Tryz.func45, Tryz.ntmps45
  go_wp2_with (first
    | (go_at_call 21; refine (hwr _ hB).mono ?_; clear hwr; rintro rr w1 ⟨rfl, hN⟩; replace hB := (Below.onto hB hN).alloc (Below.onto hB hN).size (.cells #[.int .i64 0, .int .i64 0] 33); clear hN)
    | (go_at_call 26; refine (hgf _ hB).mono ?_; clear hgf; rintro rr w2 ⟨rfl, hN⟩; have HV : Aside (Below w.heap.size w w2) := Below.onto hB hN; clear hN hB; have hT : Below (w2.heap.size + 1) (w2.alloc (.cells #[.string zp, .int .i64 zk, .string zt, .bool zo] 28)) (w2.alloc (.cells #[.string zp, .int .i64 zk, .string zt, .bool zo] 28)) := Below.refl _ _)
    | (go_at_call 25; refine (hcl _).mono ?_; clear hcl; rintro rr w3 ⟨rfl, hN⟩; obtain ⟨hT3, hne, hlt, a1⟩ := boxK hT hN; clear hN hT)
    | (go_at_call 46; refine (hun _).mono ?_; clear hun; rintro rr wx ⟨rfl, hwx⟩; subst wx))
  go_ret2
  exact TreePost.none (baseK HV.out hT3)
set_option maxHeartbeats 16000000 in
set_option maxRecDepth 100000 in
theorem mvW_7 (p : Option Addr) (n cap : Nat) (frm to : ByteArray) (w : World) (hwr : PutWr w p n cap 0 0) (zp zt : ByteArray) (zk : Int) (zo : Bool) (hgf : RefGe w frm p n cap zp zk zt zo true) (hf0 : ¬ frm.data.toList = []) (hcl : RefCl to true) (hft : ¬ frm.data.toList = to.data.toList) (hun : RefUn to frm false) (hcu : RefCu to) (xp xt : ByteArray) (xk : Int) (xo : Bool) (hgd : RefGd w to p n cap xp xk xt xo false) :
    Calls Tryz.prog 45 #[.slice p n cap, .string frm, .string to] w (TreePost 6 [] w) := by
  have hB : Below w.heap.size w w := Below.refl _ _
  have hf1 := empty_not hf0
  obtain ⟨q1, q2⟩ := ne_parts hft
  go_enter Tryz.func45, Tryz.ntmps45
  go_wp2_with (first
    | (go_at_call 21; refine (hwr _ hB).mono ?_; clear hwr; rintro rr w1 ⟨rfl, hN⟩; replace hB := (Below.onto hB hN).alloc (Below.onto hB hN).size (.cells #[.int .i64 0, .int .i64 0] 33); clear hN)
    | (go_at_call 26; refine (hgf _ hB).mono ?_; clear hgf; rintro rr w2 ⟨rfl, hN⟩; have HV : Aside (Below w.heap.size w w2) := Below.onto hB hN; clear hN hB; have hT : Below (w2.heap.size + 1) (w2.alloc (.cells #[.string zp, .int .i64 zk, .string zt, .bool zo] 28)) (w2.alloc (.cells #[.string zp, .int .i64 zk, .string zt, .bool zo] 28)) := Below.refl _ _)
    | (go_at_call 25; refine (hcl _).mono ?_; clear hcl; rintro rr w3 ⟨rfl, hN⟩; obtain ⟨hT3, hne, hlt, a1⟩ := boxK hT hN; clear hN hT)
    | (go_at_call 46; refine (hun _).mono ?_; clear hun; rintro rr wx ⟨rfl, hwx⟩; subst wx)
    | (go_at_call 53; refine (hcu _).mono ?_; clear hcu; rintro rr w4 ⟨⟨d, nm, rfl, hd, hnm⟩, hG⟩; clear hnm hne hlt a1; obtain ⟨hT4, hne, hlt, a1⟩ := boxK hT3 hG.below; clear hG hT3)
    | (go_at_call 26; refine (hgd _ d hd (baseK HV.out hT4)).mono ?_; clear hgd; rintro rr w5 ⟨rfl, hN⟩; clear hne hlt a1; obtain ⟨hT5, hne, hlt, a1⟩ := boxK hT4 hN; clear hN hT4; replace hT5 := hT5.alloc (Nat.succ_le_of_lt hlt) (.cells #[.string xp, .int .i64 xk, .string xt, .bool xo] 28)))
  go_ret2
  exact TreePost.none (baseK HV.out hT5)
set_option maxHeartbeats 16000000 in
set_option maxRecDepth 100000 in
theorem mvW_8 (p : Option Addr) (n cap : Nat) (frm to : ByteArray) (w : World) (hwr : PutWr w p n cap 0 0) (zp zt : ByteArray) (zk : Int) (zo : Bool) (hgf : RefGe w frm p n cap zp zk zt zo true) (hf0 : ¬ frm.data.toList = []) (hcl : RefCl to true) (hft : ¬ frm.data.toList = to.data.toList) (hun : RefUn to frm false) (hcu : RefCu to) (xp xt : ByteArray) (xk : Int) (xo : Bool) (hgd : RefGd w to p n cap xp xk xt xo true) (hkk : ¬ xk = 2) :
    Calls Tryz.prog 45 #[.slice p n cap, .string frm, .string to] w (TreePost 10 [] w) := by
  have hB : Below w.heap.size w w := Below.refl _ _
  have hf1 := empty_not hf0
  obtain ⟨q1, q2⟩ := ne_parts hft
  go_enter Tryz.func45, Tryz.ntmps45
  go_wp2_with (first
    | (go_at_call 21; refine (hwr _ hB).mono ?_; clear hwr; rintro rr w1 ⟨rfl, hN⟩; replace hB := (Below.onto hB hN).alloc (Below.onto hB hN).size (.cells #[.int .i64 0, .int .i64 0] 33); clear hN)
    | (go_at_call 26; refine (hgf _ hB).mono ?_; clear hgf; rintro rr w2 ⟨rfl, hN⟩; have HV : Aside (Below w.heap.size w w2) := Below.onto hB hN; clear hN hB; have hT : Below (w2.heap.size + 1) (w2.alloc (.cells #[.string zp, .int .i64 zk, .string zt, .bool zo] 28)) (w2.alloc (.cells #[.string zp, .int .i64 zk, .string zt, .bool zo] 28)) := Below.refl _ _)
    | (go_at_call 25; refine (hcl _).mono ?_; clear hcl; rintro rr w3 ⟨rfl, hN⟩; obtain ⟨hT3, hne, hlt, a1⟩ := boxK hT hN; clear hN hT)
    | (go_at_call 46; refine (hun _).mono ?_; clear hun; rintro rr wx ⟨rfl, hwx⟩; subst wx)
    | (go_at_call 53; refine (hcu _).mono ?_; clear hcu; rintro rr w4 ⟨⟨d, nm, rfl, hd, hnm⟩, hG⟩; clear hnm hne hlt a1; obtain ⟨hT4, hne, hlt, a1⟩ := boxK hT3 hG.below; clear hG hT3)
    | (go_at_call 26; refine (hgd _ d hd (baseK HV.out hT4)).mono ?_; clear hgd; rintro rr w5 ⟨rfl, hN⟩; clear hne hlt a1; obtain ⟨hT5, hne, hlt, a1⟩ := boxK hT4 hN; clear hN hT4; replace hT5 := hT5.alloc (Nat.succ_le_of_lt hlt) (.cells #[.string xp, .int .i64 xk, .string xt, .bool xo] 28)))
  go_ret2
  exact TreePost.none (baseK HV.out hT5)
end Go.Proofs.YtampldoimpfjgaaGreatDoor
namespace Go.Proofs.YtampldoimpfjgaaGreatDoor
open Go.RowKit PM Go.Sort
set_option linter.unusedVariables false

set_option maxHeartbeats 16000000 in
set_option maxRecDepth 100000 in
theorem mvW_9 (p : Option Addr) (n cap : Nat) (frm to : ByteArray) (w : World) (hwr : PutWr w p n cap 0 0) (zp zt : ByteArray) (zk : Int) (zo : Bool) (hgf : RefGe w frm p n cap zp zk zt zo true) (hf0 : ¬ frm.data.toList = []) (hcl : RefCl to true) (hft : ¬ frm.data.toList = to.data.toList) (hun : RefUn to frm false) (hcu : RefCu to) (xp xt : ByteArray) (xk : Int) (xo : Bool) (hgd : RefGd w to p n cap xp 2 xt xo true) (yp yt : ByteArray) (yk : Int) (yo : Bool) (hgt : RefGe w to p n cap yp yk yt yo true) (hka : ¬ zk = 2) (hkb : yk = 2) :
    Calls Tryz.prog 45 #[.slice p n cap, .string frm, .string to] w (TreePost 9 [] w) := by
  have hB : Below w.heap.size w w := Below.refl _ _
  have hf1 := empty_not hf0
  obtain ⟨q1, q2⟩ := ne_parts hft
  subst hkb
  go_enter Tryz.func45, Tryz.ntmps45
  go_wp2_with (first
    | (go_at_call 21; refine (hwr _ hB).mono ?_; clear hwr; rintro rr w1 ⟨rfl, hN⟩; replace hB := (Below.onto hB hN).alloc (Below.onto hB hN).size (.cells #[.int .i64 0, .int .i64 0] 33); clear hN)
    | (go_at_call 26; refine (hgf _ hB).mono ?_; clear hgf; rintro rr w2 ⟨rfl, hN⟩; have HV : Aside (Below w.heap.size w w2) := Below.onto hB hN; clear hN hB; have hT : Below (w2.heap.size + 1) (w2.alloc (.cells #[.string zp, .int .i64 zk, .string zt, .bool zo] 28)) (w2.alloc (.cells #[.string zp, .int .i64 zk, .string zt, .bool zo] 28)) := Below.refl _ _)
    | (go_at_call 25; refine (hcl _).mono ?_; clear hcl; rintro rr w3 ⟨rfl, hN⟩; obtain ⟨hT3, hne, hlt, a1⟩ := boxK hT hN; clear hN hT)
    | (go_at_call 46; refine (hun _).mono ?_; clear hun; rintro rr wx ⟨rfl, hwx⟩; subst wx)
    | (go_at_call 53; refine (hcu _).mono ?_; clear hcu; rintro rr w4 ⟨⟨d, nm, rfl, hd, hnm⟩, hG⟩; clear hnm hne hlt a1; obtain ⟨hT4, hne, hlt, a1⟩ := boxK hT3 hG.below; clear hG hT3)
    | (go_at_call 26; refine (hgd _ d hd (baseK HV.out hT4)).mono ?_; clear hgd; rintro rr w5 ⟨rfl, hN⟩; clear hne hlt a1; obtain ⟨hT5, hne, hlt, a1⟩ := boxK hT4 hN; clear hN hT4; replace hT5 := hT5.alloc (Nat.succ_le_of_lt hlt) (.cells #[.string xp, .int .i64 2, .string xt, .bool xo] 28))
    | (go_at_call 26; refine (hgt _ (baseK HV.out hT5)).mono ?_; clear hgt; rintro rr w6 ⟨rfl, hN⟩; clear hne hlt a1; obtain ⟨hT6, hne, hlt, a1⟩ := boxK hT5 hN; clear hN hT5; replace hT6 := hT6.alloc (Nat.succ_le_of_lt hlt) (.cells #[.string yp, .int .i64 2, .string yt, .bool yo] 28)))
  go_ret2
  exact TreePost.none (baseK HV.out hT6)
set_option maxHeartbeats 16000000 in
set_option maxRecDepth 100000 in
theorem mvW_10 (p : Option Addr) (n cap : Nat) (frm to : ByteArray) (w : World) (hwr : PutWr w p n cap 0 0) (zp zt : ByteArray) (zk : Int) (zo : Bool) (hgf : RefGe w frm p n cap zp zk zt zo true) (hf0 : ¬ frm.data.toList = []) (hcl : RefCl to true) (hft : ¬ frm.data.toList = to.data.toList) (hun : RefUn to frm false) (hcu : RefCu to) (xp xt : ByteArray) (xk : Int) (xo : Bool) (hgd : RefGd w to p n cap xp 2 xt xo true) (yp yt : ByteArray) (yk : Int) (yo : Bool) (hgt : RefGe w to p n cap yp yk yt yo true) (hka : zk = 2) (hkb : ¬ yk = 2) :
    Calls Tryz.prog 45 #[.slice p n cap, .string frm, .string to] w (TreePost 10 [] w) := by
  have hB : Below w.heap.size w w := Below.refl _ _
  have hf1 := empty_not hf0
  obtain ⟨q1, q2⟩ := ne_parts hft
  subst hka
  go_enter Tryz.func45, Tryz.ntmps45
  go_wp2_with (first
    | (go_at_call 21; refine (hwr _ hB).mono ?_; clear hwr; rintro rr w1 ⟨rfl, hN⟩; replace hB := (Below.onto hB hN).alloc (Below.onto hB hN).size (.cells #[.int .i64 0, .int .i64 0] 33); clear hN)
    | (go_at_call 26; refine (hgf _ hB).mono ?_; clear hgf; rintro rr w2 ⟨rfl, hN⟩; have HV : Aside (Below w.heap.size w w2) := Below.onto hB hN; clear hN hB; have hT : Below (w2.heap.size + 1) (w2.alloc (.cells #[.string zp, .int .i64 2, .string zt, .bool zo] 28)) (w2.alloc (.cells #[.string zp, .int .i64 2, .string zt, .bool zo] 28)) := Below.refl _ _)
    | (go_at_call 25; refine (hcl _).mono ?_; clear hcl; rintro rr w3 ⟨rfl, hN⟩; obtain ⟨hT3, hne, hlt, a1⟩ := boxK hT hN; clear hN hT)
    | (go_at_call 46; refine (hun _).mono ?_; clear hun; rintro rr wx ⟨rfl, hwx⟩; subst wx)
    | (go_at_call 53; refine (hcu _).mono ?_; clear hcu; rintro rr w4 ⟨⟨d, nm, rfl, hd, hnm⟩, hG⟩; clear hnm hne hlt a1; obtain ⟨hT4, hne, hlt, a1⟩ := boxK hT3 hG.below; clear hG hT3)
    | (go_at_call 26; refine (hgd _ d hd (baseK HV.out hT4)).mono ?_; clear hgd; rintro rr w5 ⟨rfl, hN⟩; clear hne hlt a1; obtain ⟨hT5, hne, hlt, a1⟩ := boxK hT4 hN; clear hN hT4; replace hT5 := hT5.alloc (Nat.succ_le_of_lt hlt) (.cells #[.string xp, .int .i64 2, .string xt, .bool xo] 28))
    | (go_at_call 26; refine (hgt _ (baseK HV.out hT5)).mono ?_; clear hgt; rintro rr w6 ⟨rfl, hN⟩; clear hne hlt a1; obtain ⟨hT6, hne, hlt, a1⟩ := boxK hT5 hN; clear hN hT5; replace hT6 := hT6.alloc (Nat.succ_le_of_lt hlt) (.cells #[.string yp, .int .i64 yk, .string yt, .bool yo] 28)))
  go_ret2
  exact TreePost.none (baseK HV.out hT6)
set_option maxHeartbeats 16000000 in
set_option maxRecDepth 100000 in
theorem mvW_11 (p : Option Addr) (n cap : Nat) (frm to : ByteArray) (w : World) (hwr : PutWr w p n cap 0 0) (zp zt : ByteArray) (zk : Int) (zo : Bool) (hgf : RefGe w frm p n cap zp zk zt zo true) (hf0 : ¬ frm.data.toList = []) (hcl : RefCl to true) (hft : ¬ frm.data.toList = to.data.toList) (hun : RefUn to frm false) (hcu : RefCu to) (xp xt : ByteArray) (xk : Int) (xo : Bool) (hgd : RefGd w to p n cap xp 2 xt xo true) (yp yt : ByteArray) (yk : Int) (yo : Bool) (hgt : RefGe w to p n cap yp yk yt yo true) (hka : zk = 2) (hkb : yk = 2) (nk : Nat) (hnk : 0 < nk) (hna : RefNa w to p n cap nk) :
    Calls Tryz.prog 45 #[.slice p n cap, .string frm, .string to] w (TreePost 11 [] w) := by
  have hB : Below w.heap.size w w := Below.refl _ _
  have hf1 := empty_not hf0
  obtain ⟨q1, q2⟩ := ne_parts hft
  have hnz : (0 : Int) < (nk : Int) := by omega
  subst hka hkb
  go_enter Tryz.func45, Tryz.ntmps45
  go_wp2_with (first
    | (go_at_call 21; refine (hwr _ hB).mono ?_; clear hwr; rintro rr w1 ⟨rfl, hN⟩; replace hB := (Below.onto hB hN).alloc (Below.onto hB hN).size (.cells #[.int .i64 0, .int .i64 0] 33); clear hN)
    | (go_at_call 26; refine (hgf _ hB).mono ?_; clear hgf; rintro rr w2 ⟨rfl, hN⟩; have HV : Aside (Below w.heap.size w w2) := Below.onto hB hN; clear hN hB; have hT : Below (w2.heap.size + 1) (w2.alloc (.cells #[.string zp, .int .i64 2, .string zt, .bool zo] 28)) (w2.alloc (.cells #[.string zp, .int .i64 2, .string zt, .bool zo] 28)) := Below.refl _ _)
    | (go_at_call 25; refine (hcl _).mono ?_; clear hcl; rintro rr w3 ⟨rfl, hN⟩; obtain ⟨hT3, hne, hlt, a1⟩ := boxK hT hN; clear hN hT)
    | (go_at_call 46; refine (hun _).mono ?_; clear hun; rintro rr wx ⟨rfl, hwx⟩; subst wx)
    | (go_at_call 53; refine (hcu _).mono ?_; clear hcu; rintro rr w4 ⟨⟨d, nm, rfl, hd, hnm⟩, hG⟩; clear hnm hne hlt a1; obtain ⟨hT4, hne, hlt, a1⟩ := boxK hT3 hG.below; clear hG hT3)
    | (go_at_call 26; refine (hgd _ d hd (baseK HV.out hT4)).mono ?_; clear hgd; rintro rr w5 ⟨rfl, hN⟩; clear hne hlt a1; obtain ⟨hT5, hne, hlt, a1⟩ := boxK hT4 hN; clear hN hT4; replace hT5 := hT5.alloc (Nat.succ_le_of_lt hlt) (.cells #[.string xp, .int .i64 2, .string xt, .bool xo] 28))
    | (go_at_call 26; refine (hgt _ (baseK HV.out hT5)).mono ?_; clear hgt; rintro rr w6 ⟨rfl, hN⟩; clear hne hlt a1; obtain ⟨hT6, hne, hlt, a1⟩ := boxK hT5 hN; clear hN hT5; replace hT6 := hT6.alloc (Nat.succ_le_of_lt hlt) (.cells #[.string yp, .int .i64 2, .string yt, .bool yo] 28))
    | (go_at_call 80; refine (hna _ (baseK HV.out hT6)).mono ?_; clear hna; rintro rr w7 ⟨⟨a7, c7, rfl⟩, hN⟩; have hB := Below.onto (baseK HV.out hT6) hN; clear hN hT6 hne hlt a1))
  go_ret2
  exact TreePost.none hB
set_option maxHeartbeats 16000000 in
set_option maxRecDepth 100000 in
theorem mvW_12 (p : Option Addr) (n cap : Nat) (frm to : ByteArray) (w : World) (hwr : PutWr w p n cap 0 0) (zp zt : ByteArray) (zk : Int) (zo : Bool) (hgf : RefGe w frm p n cap zp zk zt zo true) (hf0 : ¬ frm.data.toList = []) (hcl : RefCl to true) (hft : ¬ frm.data.toList = to.data.toList) (hun : RefUn to frm false) (hcu : RefCu to) (xp xt : ByteArray) (xk : Int) (xo : Bool) (hgd : RefGd w to p n cap xp 2 xt xo true) (yp yt : ByteArray) (yk : Int) (yo : Bool) (hgt : RefGe w to p n cap yp yk yt yo true) (hka : ¬ zk = 2) (hkb : ¬ yk = 2) (nk : Nat) (hnk : 0 < nk) (hna : RefNa w to p n cap nk) :
    Calls Tryz.prog 45 #[.slice p n cap, .string frm, .string to] w (TreePost 11 [] w) := by
  have hB : Below w.heap.size w w := Below.refl _ _
  have hf1 := empty_not hf0
  obtain ⟨q1, q2⟩ := ne_parts hft
  have hnz : (0 : Int) < (nk : Int) := by omega
  have hka1 : (zk == 2) = false := by simpa using hka
  have hka2 : decide (zk = 2) = false := by simpa using hka
  have hkb1 : (yk == 2) = false := by simpa using hkb
  have hkb2 : decide (yk = 2) = false := by simpa using hkb
  go_enter Tryz.func45, Tryz.ntmps45
  go_wp2_with (first
    | (go_at_call 21; refine (hwr _ hB).mono ?_; clear hwr; rintro rr w1 ⟨rfl, hN⟩; replace hB := (Below.onto hB hN).alloc (Below.onto hB hN).size (.cells #[.int .i64 0, .int .i64 0] 33); clear hN)
    | (go_at_call 26; refine (hgf _ hB).mono ?_; clear hgf; rintro rr w2 ⟨rfl, hN⟩; have HV : Aside (Below w.heap.size w w2) := Below.onto hB hN; clear hN hB; have hT : Below (w2.heap.size + 1) (w2.alloc (.cells #[.string zp, .int .i64 zk, .string zt, .bool zo] 28)) (w2.alloc (.cells #[.string zp, .int .i64 zk, .string zt, .bool zo] 28)) := Below.refl _ _)
    | (go_at_call 25; refine (hcl _).mono ?_; clear hcl; rintro rr w3 ⟨rfl, hN⟩; obtain ⟨hT3, hne, hlt, a1⟩ := boxK hT hN; clear hN hT)
    | (go_at_call 46; refine (hun _).mono ?_; clear hun; rintro rr wx ⟨rfl, hwx⟩; subst wx)
    | (go_at_call 53; refine (hcu _).mono ?_; clear hcu; rintro rr w4 ⟨⟨d, nm, rfl, hd, hnm⟩, hG⟩; clear hnm hne hlt a1; obtain ⟨hT4, hne, hlt, a1⟩ := boxK hT3 hG.below; clear hG hT3)
    | (go_at_call 26; refine (hgd _ d hd (baseK HV.out hT4)).mono ?_; clear hgd; rintro rr w5 ⟨rfl, hN⟩; clear hne hlt a1; obtain ⟨hT5, hne, hlt, a1⟩ := boxK hT4 hN; clear hN hT4; replace hT5 := hT5.alloc (Nat.succ_le_of_lt hlt) (.cells #[.string xp, .int .i64 2, .string xt, .bool xo] 28))
    | (go_at_call 26; refine (hgt _ (baseK HV.out hT5)).mono ?_; clear hgt; rintro rr w6 ⟨rfl, hN⟩; clear hne hlt a1; obtain ⟨hT6, hne, hlt, a1⟩ := boxK hT5 hN; clear hN hT5; replace hT6 := hT6.alloc (Nat.succ_le_of_lt hlt) (.cells #[.string yp, .int .i64 yk, .string yt, .bool yo] 28))
    | (go_at_call 80; refine (hna _ (baseK HV.out hT6)).mono ?_; clear hna; rintro rr w7 ⟨⟨a7, c7, rfl⟩, hN⟩; have hB := Below.onto (baseK HV.out hT6) hN; clear hN hT6 hne hlt a1))
  go_ret2
  exact TreePost.none hB
end Go.Proofs.YtampldoimpfjgaaGreatDoor
namespace Go.Proofs.YtampldoimpfjgaaGreatDoor
open Go.RowKit PM Go.Sort
set_option linter.unusedVariables false

abbrev RefW2 (t : List Ent) (frm to : ByteArray) : Prop := ∀ W p c, Lies W p (remUnder t frm.data.toList) → Calls Tryz.prog 81 #[.slice p (remUnder t frm.data.toList).length c, .string to] W (RowsPost (baseL t frm.data.toList to.data.toList) W)
/-- Some entry that goes along has no clean path there. -/
def badMove' (t : List Ent) (frm to : ByteArray) : Bool := t.any fun e => inM frm.data.toList e && !clean (mvE frm to e).p
set_option maxHeartbeats 16000000 in
set_option maxRecDepth 100000 in
theorem mvW_13 (p : Option Addr) (n cap : Nat) (frm to : ByteArray) (w : World) (hwr : PutWr w p n cap 0 0) (zp zt : ByteArray) (zk : Int) (zo : Bool) (hgf : RefGe w frm p n cap zp zk zt zo true) (hf0 : ¬ frm.data.toList = []) (hcl : RefCl to true) (hft : ¬ frm.data.toList = to.data.toList) (hun : RefUn to frm false) (hcu : RefCu to) (xp xt : ByteArray) (xk : Int) (xo : Bool) (hgd : RefGd w to p n cap xp 2 xt xo true) (yp yt : ByteArray) (yk : Int) (yo : Bool) (hgt : RefGe w to p n cap yp yk yt yo false) (t : List Ent) (hL : Lies w p t) (HN : Aside (n = t.length)) (hR : Right false t) (hf80 : frm.size ≤ 80) (ht80 : to.size ≤ 80) (hw1 : RefWo w frm p n cap (remUnder t frm.data.toList)) (hw2 : RefW2 t frm to) :
    Calls Tryz.prog 45 #[.slice p n cap, .string frm, .string to] w (fun r w' => (badMove' t frm to = true ∧ TreePost 4 [] w r w') ∨ (badMove' t frm to = false ∧ TreePost 0 (rmK t frm to t.length) w r w')) := by
  have hB : Below w.heap.size w w := Below.refl _ _
  have hf1 := empty_not hf0
  obtain ⟨q1, q2⟩ := ne_parts hft
  have HL : Aside (Lies w p t) := hL
  have HR : Aside (Right false t) := hR
  have hn80 : n ≤ 80 := by have := hR.len; have := HN.out; omega
  have HP80 : Aside (∀ y ∈ t, y.path.size ≤ 80) := fun y hy => clean_size (hR.clean hy)
  clear hL hR
  go_enter Tryz.func45, Tryz.ntmps45
  go_wp2_with (first
    | (go_at_call 21; refine (hwr _ hB).mono ?_; clear hwr; rintro rr w1 ⟨rfl, hN⟩; replace hB := (Below.onto hB hN).alloc (Below.onto hB hN).size (.cells #[.int .i64 0, .int .i64 0] 33); clear hN)
    | (go_at_call 26; refine (hgf _ hB).mono ?_; clear hgf; rintro rr w2 ⟨rfl, hN⟩; have HV : Aside (Below w.heap.size w w2) := Below.onto hB hN; clear hN hB; have hT : Below (w2.heap.size + 1) (w2.alloc (.cells #[.string zp, .int .i64 zk, .string zt, .bool zo] 28)) (w2.alloc (.cells #[.string zp, .int .i64 zk, .string zt, .bool zo] 28)) := Below.refl _ _)
    | (go_at_call 25; refine (hcl _).mono ?_; clear hcl; rintro rr w3 ⟨rfl, hN⟩; obtain ⟨hT3, hne, hlt, a1⟩ := boxK hT hN; clear hN hT)
    | (go_at_call 46; refine (hun _).mono ?_; clear hun; rintro rr wx ⟨rfl, hwx⟩; subst wx)
    | (go_at_call 53; refine (hcu _).mono ?_; clear hcu; rintro rr w4 ⟨⟨d, nm, rfl, hd, hnm⟩, hG⟩; clear hnm hne hlt a1; obtain ⟨hT4, hne, hlt, a1⟩ := boxK hT3 hG.below; clear hG hT3)
    | (go_at_call 26; refine (hgd _ d hd (baseK HV.out hT4)).mono ?_; clear hgd; rintro rr w5 ⟨rfl, hN⟩; clear hne hlt a1; obtain ⟨hT5, hne, hlt, a1⟩ := boxK hT4 hN; clear hN hT4; replace hT5 := hT5.alloc (Nat.succ_le_of_lt hlt) (.cells #[.string xp, .int .i64 2, .string xt, .bool xo] 28))
    | (go_at_call 26; refine (hgt _ (baseK HV.out hT5)).mono ?_; clear hgt; rintro rr w6 ⟨rfl, hN⟩; clear hne hlt a1; obtain ⟨hT6, hne, hlt, a1⟩ := boxK hT5 hN; clear hN hT5; replace hT6 := hT6.alloc (Nat.succ_le_of_lt hlt) (.cells #[.string yp, .int .i64 yk, .string yt, .bool yo] 28); have hB := baseK HV.out hT6; clear hT6)
    | (go_at_call 81; refine (hw1 _ hB).mono ?_; clear hw1; rintro rr w8 ⟨⟨v8, rfl, hR8⟩, hN⟩; replace hB := Below.onto hB hN; clear hN; obtain ⟨p8, c8, rfl, hL8, hc8, hn8⟩ := hR8.form; clear hR8)
    | (go_at_call 81; refine (hw2 _ p8 c8 hL8).mono ?_; clear hw2; rintro rr w9 ⟨⟨v9, rfl, hR9⟩, hN⟩; have HR9 : Aside (Rows w9 w.heap.size v9 (baseL t frm.data.toList to.data.toList)) := hR9.mono hB.size; have HB9 : Aside (Below w.heap.size w w9) := Below.onto hB hN; clear hN hR9 hB hL8))
  go_loopg [16, 99] n (fun gg v i wr => ∃ k : Nat, k ≤ n ∧ n - k ≤ gg ∧ i = .int .i64 k ∧ Aside (Rows wr w.heap.size v (rmK t frm to k)) ∧ Aside (Below w.heap.size w wr) ∧ Aside (((t.take k).any fun e => inM frm.data.toList e && !clean (mvE frm to e).p) = false))
  case atStart => exact ⟨0, Nat.zero_le _, by omega, rfl, HR9.out, HB9.out, by simp [Aside]⟩
  case round =>
    obtain ⟨k, hk, hgg, rfl, ST, BW, NB⟩ := hrel
    by_cases hlt : k < n
    · have hltz : (k : Int) < (n : Int) := by omega
      obtain ⟨y, hy⟩ : ∃ y, t[k]? = some y := ⟨_, List.getElem?_eq_getElem (by have := HN.out; omega)⟩
      have HY : Aside (t[k]? = some y) := hy
      have hy80 := HP80.out y (List.mem_of_getElem? hy)
      rcases HL.out with h0 | ⟨b, off, rfl, hb, hc⟩
      · rw [h0] at hy; simp at hy
      obtain ⟨c0, c1, c2, c3⟩ := Lies.cells hc hb BW.out hy
      clear hc hy
      have hws : w.heap.size ≤ wr.heap.size := BW.out.size
      have hun := fun W => refUnder_any y.path frm W (by unfold maxLen; omega) (by unfold maxLen; omega)
      cases hin : inM frm.data.toList y with
      | false =>
        have hp1 : ¬ y.path.data.toList = frm.data.toList := fun e => by
          unfold inM at hin; rw [show y.p = y.path.data.toList from rfl, e] at hin; simp at hin
        have hp2 : under y.path.data.toList frm.data.toList = false := by
          unfold inM at hin; exact (Bool.or_eq_false_iff.1 hin).2
        obtain ⟨e1, e2⟩ := ne_parts hp1
        rw [hp2] at hun
        clear hp1 hp2
        have HS : Aside (rmK t frm to (k + 1) = rmK t frm to k) := rmK_skip HY.out hin
        have HNB : Aside (((t.take (k + 1)).any fun e => inM frm.data.toList e && !clean (mvE frm to e).p) = false) := bad_step HY.out NB.out (by rw [hin]; rfl)
        go_wp2_with (go_at_call 46; refine (hun _).mono ?_; rintro rr wx ⟨rfl, hwx⟩; subst wx)
        go_roundg (n - (k + 1))
        case measure => omega
        case rel => exact ⟨k + 1, by omega, by omega, by go_num, by rw [HS.out]; exact ST.out.below ((Grown.refl wr).alloc _).below, (BW.out.alloc BW.out.size _ : Below _ _ _), HNB.out⟩
      | true =>
        have hsz := inM_size hin
        have hszz : (frm.size : Int) ≤ (y.path.size : Int) := by omega
        have hways : (y.path.data.toList = frm.data.toList) ∨ (¬ y.path.data.toList = frm.data.toList ∧ under y.path.data.toList frm.data.toList = true) := by
          unfold inM at hin
          by_cases h : y.path.data.toList = frm.data.toList
          · exact .inl h
          · refine .inr ⟨h, ?_⟩
            rcases Bool.or_eq_true_iff.1 hin with g | g
            · exact absurd (of_decide_eq_true g) h
            · exact g
        have HSX : Aside (rmK t frm to (k + 1) = withL (rmK t frm to k) (mvE frm to y)) := rmK_step HR.out.sorted HY.out hin
        obtain ⟨new, hnew⟩ : ∃ new, to ++ y.path.extract frm.size y.path.size = new := ⟨_, rfl⟩
        have HMV : Aside (mvE frm to y = ⟨new, y.kind, y.text, y.opq⟩) := by show _ = _; rw [← hnew]; rfl
        have hcc : new.size ≤ 160 := by rw [← hnew]; simp; omega
        have hcl := fun W => refClean_any new W (by omega)
        have HX : Aside (Below wr.heap.size wr (wr.alloc (.cells #[.string new, .int .i64 y.kind, .string y.text, .bool y.opq] 28))) := ((Grown.refl wr).alloc _).below
        cases hcn : clean new.data.toList with
        | false =>
          rw [hcn] at hcl
          have HBAD : Aside (badMove' t frm to = true) := List.any_eq_true.2 ⟨y, List.mem_of_getElem? HY.out, by rw [hin, HMV.out]; show (true && !clean new.data.toList) = true; rw [hcn]; rfl⟩
          rcases hways with h1 | ⟨h1, h2⟩
          · obtain ⟨e1, e2⟩ := eq_parts h1
            clear h1 hun
            go_wp2_with (go_at_call 25; refine (hcl _).mono ?_; clear hcl; rintro rr w3 ⟨rfl, hN⟩; have HB3 : Aside (Below w.heap.size w w3) := Below.onto BW.out (Below.onto HX.out hN); clear hN)
            go_ret2
            exact .inl ⟨HBAD.out, TreePost.none HB3.out⟩
          · obtain ⟨e1, e2⟩ := ne_parts h1
            rw [h2] at hun
            clear h1 h2
            go_wp2_with (first | (go_at_call 46; refine (hun _).mono ?_; clear hun; rintro rr wx ⟨rfl, hwx⟩; subst wx) | (go_at_call 25; refine (hcl _).mono ?_; clear hcl; rintro rr w3 ⟨rfl, hN⟩; have HB3 : Aside (Below w.heap.size w w3) := Below.onto BW.out (Below.onto HX.out hN); clear hN))
            go_ret2
            exact .inl ⟨HBAD.out, TreePost.none HB3.out⟩
        | true =>
          rw [hcn] at hcl
          have HNB : Aside (((t.take (k + 1)).any fun e => inM frm.data.toList e && !clean (mvE frm to e).p) = false) := bad_step HY.out NB.out (by rw [HMV.out]; show (_ && !clean new.data.toList) = false; rw [hcn]; simp)
          have hwi : ∀ W v, Rows W w.heap.size v (rmK t frm to k) → Calls Tryz.prog 72 #[v, .agg #[.string new, .int .i64 y.kind, .string y.text, .bool y.opq]] W (RowsPost (rmK t frm to (k + 1)) W) := fun W v hv => by
            obtain ⟨p', c', rfl, hL', _, _⟩ := hv.form
            rw [HSX.out, HMV.out]
            refine refWith_any (rmK t frm to k) ⟨new, y.kind, y.text, y.opq⟩ p' c' W hL' (rmK_all (fun x hx => by have := HP80.out x hx; omega) (fun x hx hi => ?_)) (by show new.size ≤ _; omega) (Nat.le_trans (rmK_len HR.out.sorted) HR.out.len)
            have hxc : clean (mvE frm to x).p = true := by
              cases hh : clean (mvE frm to x).p with
              | true => rfl
              | false =>
                have := NB.out
                rw [List.any_eq_false] at this
                exact absurd (by rw [hi, hh]; rfl) (this x hx)
            have : (mvE frm to x).path.size ≤ 80 := clean_size hxc
            omega
          rcases hways with h1 | ⟨h1, h2⟩
          · obtain ⟨e1, e2⟩ := eq_parts h1
            clear h1 hun
            go_wp2_with (first
              | (go_at_call 25; refine (hcl _).mono ?_; clear hcl; rintro rr w3 ⟨rfl, hN⟩; obtain ⟨⟨d0, d1, d2, d3⟩, _⟩ := new4 (by simp) hN; have hX3 := Below.onto HX.out hN; have hR3 := ST.out.below hX3; clear hN)
              | (go_at_call 72; refine (hwi _ _ hR3).mono ?_; clear hwi hR3; rintro rr w4 ⟨⟨v4, rfl, hR4⟩, hN4⟩; have HR4 : Aside (Rows w4 w.heap.size v4 (rmK t frm to (k + 1))) := hR4.mono (Below.onto BW.out hX3).size; have HB4 : Aside (Below w.heap.size w w4) := Below.onto (Below.onto BW.out hX3) hN4; clear hR4 hN4))
            go_roundg (n - (k + 1))
            case measure => omega
            case rel => exact ⟨k + 1, by omega, by omega, by go_num, HR4.out, HB4.out, HNB.out⟩
          · obtain ⟨e1, e2⟩ := ne_parts h1
            rw [h2] at hun
            clear h1 h2
            go_wp2_with (first
              | (go_at_call 46; refine (hun _).mono ?_; clear hun; rintro rr wx ⟨rfl, hwx⟩; subst wx)
              | (go_at_call 25; refine (hcl _).mono ?_; clear hcl; rintro rr w3 ⟨rfl, hN⟩; obtain ⟨⟨d0, d1, d2, d3⟩, _⟩ := new4 (by simp) hN; have hX3 := Below.onto HX.out hN; have hR3 := ST.out.below hX3; clear hN)
              | (go_at_call 72; refine (hwi _ _ hR3).mono ?_; clear hwi hR3; rintro rr w4 ⟨⟨v4, rfl, hR4⟩, hN4⟩; have HR4 : Aside (Rows w4 w.heap.size v4 (rmK t frm to (k + 1))) := hR4.mono (Below.onto BW.out hX3).size; have HB4 : Aside (Below w.heap.size w w4) := Below.onto (Below.onto BW.out hX3) hN4; clear hR4 hN4))
            go_roundg (n - (k + 1))
            case measure => omega
            case rel => exact ⟨k + 1, by omega, by omega, by go_num, HR4.out, HB4.out, HNB.out⟩
    · obtain rfl : k = n := by omega
      have hltz : ¬ (k : Int) < (k : Int) := by omega
      have HGOOD : Aside (badMove' t frm to = false) := by
        show _ = _
        have := NB.out
        rw [HN.out, List.take_length] at this
        exact this
      go_wp2
      go_ret2
      exact .inr ⟨HGOOD.out, rows_end ST.out (by rw [HN.out]) BW.out⟩
end Go.Proofs.YtampldoimpfjgaaGreatDoor
namespace Go.Proofs.YtampldoimpfjgaaGreatDoor
open Go.RowKit PM Go.Sort
set_option linter.unusedVariables false

set_option maxHeartbeats 16000000 in
set_option maxRecDepth 100000 in
theorem mvW_14 (p : Option Addr) (n cap : Nat) (frm to : ByteArray) (w : World) (hwr : PutWr w p n cap 0 0) (zp zt : ByteArray) (zk : Int) (zo : Bool) (hgf : RefGe w frm p n cap zp zk zt zo true) (hf0 : ¬ frm.data.toList = []) (hcl : RefCl to true) (hft : ¬ frm.data.toList = to.data.toList) (hun : RefUn to frm false) (hcu : RefCu to) (xp xt : ByteArray) (xk : Int) (xo : Bool) (hgd : RefGd w to p n cap xp 2 xt xo true) (yp yt : ByteArray) (yk : Int) (yo : Bool) (hgt : RefGe w to p n cap yp yk yt yo true) (hka : zk = 2) (hkb : yk = 2) (hna : RefNa w to p n cap 0) (t : List Ent) (hL : Lies w p t) (HN : Aside (n = t.length)) (hR : Right false t) (hf80 : frm.size ≤ 80) (ht80 : to.size ≤ 80) (hw1 : RefWo w frm p n cap (remUnder t frm.data.toList)) (hw2 : RefW2 t frm to) :
    Calls Tryz.prog 45 #[.slice p n cap, .string frm, .string to] w (fun r w' => (badMove' t frm to = true ∧ TreePost 4 [] w r w') ∨ (badMove' t frm to = false ∧ TreePost 0 (rmK t frm to t.length) w r w')) := by
  have hB : Below w.heap.size w w := Below.refl _ _
  have hf1 := empty_not hf0
  obtain ⟨q1, q2⟩ := ne_parts hft
  subst hka hkb
  have HL : Aside (Lies w p t) := hL
  have HR : Aside (Right false t) := hR
  have hn80 : n ≤ 80 := by have := hR.len; have := HN.out; omega
  have HP80 : Aside (∀ y ∈ t, y.path.size ≤ 80) := fun y hy => clean_size (hR.clean hy)
  clear hL hR
  go_enter Tryz.func45, Tryz.ntmps45
  go_wp2_with (first
    | (go_at_call 21; refine (hwr _ hB).mono ?_; clear hwr; rintro rr w1 ⟨rfl, hN⟩; replace hB := (Below.onto hB hN).alloc (Below.onto hB hN).size (.cells #[.int .i64 0, .int .i64 0] 33); clear hN)
    | (go_at_call 26; refine (hgf _ hB).mono ?_; clear hgf; rintro rr w2 ⟨rfl, hN⟩; have HV : Aside (Below w.heap.size w w2) := Below.onto hB hN; clear hN hB; have hT : Below (w2.heap.size + 1) (w2.alloc (.cells #[.string zp, .int .i64 2, .string zt, .bool zo] 28)) (w2.alloc (.cells #[.string zp, .int .i64 2, .string zt, .bool zo] 28)) := Below.refl _ _)
    | (go_at_call 25; refine (hcl _).mono ?_; clear hcl; rintro rr w3 ⟨rfl, hN⟩; obtain ⟨hT3, hne, hlt, a1⟩ := boxK hT hN; clear hN hT)
    | (go_at_call 46; refine (hun _).mono ?_; clear hun; rintro rr wx ⟨rfl, hwx⟩; subst wx)
    | (go_at_call 53; refine (hcu _).mono ?_; clear hcu; rintro rr w4 ⟨⟨d, nm, rfl, hd, hnm⟩, hG⟩; clear hnm hne hlt a1; obtain ⟨hT4, hne, hlt, a1⟩ := boxK hT3 hG.below; clear hG hT3)
    | (go_at_call 26; refine (hgd _ d hd (baseK HV.out hT4)).mono ?_; clear hgd; rintro rr w5 ⟨rfl, hN⟩; clear hne hlt a1; obtain ⟨hT5, hne, hlt, a1⟩ := boxK hT4 hN; clear hN hT4; replace hT5 := hT5.alloc (Nat.succ_le_of_lt hlt) (.cells #[.string xp, .int .i64 2, .string xt, .bool xo] 28))
    | (go_at_call 26; refine (hgt _ (baseK HV.out hT5)).mono ?_; clear hgt; rintro rr w6 ⟨rfl, hN⟩; clear hne hlt a1; obtain ⟨hT6, hne, hlt, a1⟩ := boxK hT5 hN; clear hN hT5; replace hT6 := hT6.alloc (Nat.succ_le_of_lt hlt) (.cells #[.string yp, .int .i64 2, .string yt, .bool yo] 28))
    | (go_at_call 80; refine (hna _ (baseK HV.out hT6)).mono ?_; clear hna; rintro rr w7 ⟨⟨a7, c7, rfl⟩, hN⟩; have hB := Below.onto (baseK HV.out hT6) hN; clear hN hT6 hne hlt a1)
    | (go_at_call 81; refine (hw1 _ hB).mono ?_; clear hw1; rintro rr w8 ⟨⟨v8, rfl, hR8⟩, hN⟩; replace hB := Below.onto hB hN; clear hN; obtain ⟨p8, c8, rfl, hL8, hc8, hn8⟩ := hR8.form; clear hR8)
    | (go_at_call 81; refine (hw2 _ p8 c8 hL8).mono ?_; clear hw2; rintro rr w9 ⟨⟨v9, rfl, hR9⟩, hN⟩; have HR9 : Aside (Rows w9 w.heap.size v9 (baseL t frm.data.toList to.data.toList)) := hR9.mono hB.size; have HB9 : Aside (Below w.heap.size w w9) := Below.onto hB hN; clear hN hR9 hB hL8))
  go_loopg [16, 99] n (fun gg v i wr => ∃ k : Nat, k ≤ n ∧ n - k ≤ gg ∧ i = .int .i64 k ∧ Aside (Rows wr w.heap.size v (rmK t frm to k)) ∧ Aside (Below w.heap.size w wr) ∧ Aside (((t.take k).any fun e => inM frm.data.toList e && !clean (mvE frm to e).p) = false))
  case atStart => exact ⟨0, Nat.zero_le _, by omega, rfl, HR9.out, HB9.out, by simp [Aside]⟩
  case round =>
    obtain ⟨k, hk, hgg, rfl, ST, BW, NB⟩ := hrel
    by_cases hlt : k < n
    · have hltz : (k : Int) < (n : Int) := by omega
      obtain ⟨y, hy⟩ : ∃ y, t[k]? = some y := ⟨_, List.getElem?_eq_getElem (by have := HN.out; omega)⟩
      have HY : Aside (t[k]? = some y) := hy
      have hy80 := HP80.out y (List.mem_of_getElem? hy)
      rcases HL.out with h0 | ⟨b, off, rfl, hb, hc⟩
      · rw [h0] at hy; simp at hy
      obtain ⟨c0, c1, c2, c3⟩ := Lies.cells hc hb BW.out hy
      clear hc hy
      have hws : w.heap.size ≤ wr.heap.size := BW.out.size
      have hun := fun W => refUnder_any y.path frm W (by unfold maxLen; omega) (by unfold maxLen; omega)
      cases hin : inM frm.data.toList y with
      | false =>
        have hp1 : ¬ y.path.data.toList = frm.data.toList := fun e => by
          unfold inM at hin; rw [show y.p = y.path.data.toList from rfl, e] at hin; simp at hin
        have hp2 : under y.path.data.toList frm.data.toList = false := by
          unfold inM at hin; exact (Bool.or_eq_false_iff.1 hin).2
        obtain ⟨e1, e2⟩ := ne_parts hp1
        rw [hp2] at hun
        clear hp1 hp2
        have HS : Aside (rmK t frm to (k + 1) = rmK t frm to k) := rmK_skip HY.out hin
        have HNB : Aside (((t.take (k + 1)).any fun e => inM frm.data.toList e && !clean (mvE frm to e).p) = false) := bad_step HY.out NB.out (by rw [hin]; rfl)
        go_wp2_with (go_at_call 46; refine (hun _).mono ?_; rintro rr wx ⟨rfl, hwx⟩; subst wx)
        go_roundg (n - (k + 1))
        case measure => omega
        case rel => exact ⟨k + 1, by omega, by omega, by go_num, by rw [HS.out]; exact ST.out.below ((Grown.refl wr).alloc _).below, (BW.out.alloc BW.out.size _ : Below _ _ _), HNB.out⟩
      | true =>
        have hsz := inM_size hin
        have hszz : (frm.size : Int) ≤ (y.path.size : Int) := by omega
        have hways : (y.path.data.toList = frm.data.toList) ∨ (¬ y.path.data.toList = frm.data.toList ∧ under y.path.data.toList frm.data.toList = true) := by
          unfold inM at hin
          by_cases h : y.path.data.toList = frm.data.toList
          · exact .inl h
          · refine .inr ⟨h, ?_⟩
            rcases Bool.or_eq_true_iff.1 hin with g | g
            · exact absurd (of_decide_eq_true g) h
            · exact g
        have HSX : Aside (rmK t frm to (k + 1) = withL (rmK t frm to k) (mvE frm to y)) := rmK_step HR.out.sorted HY.out hin
        obtain ⟨new, hnew⟩ : ∃ new, to ++ y.path.extract frm.size y.path.size = new := ⟨_, rfl⟩
        have HMV : Aside (mvE frm to y = ⟨new, y.kind, y.text, y.opq⟩) := by show _ = _; rw [← hnew]; rfl
        have hcc : new.size ≤ 160 := by rw [← hnew]; simp; omega
        have hcl := fun W => refClean_any new W (by omega)
        have HX : Aside (Below wr.heap.size wr (wr.alloc (.cells #[.string new, .int .i64 y.kind, .string y.text, .bool y.opq] 28))) := ((Grown.refl wr).alloc _).below
        cases hcn : clean new.data.toList with
        | false =>
          rw [hcn] at hcl
          have HBAD : Aside (badMove' t frm to = true) := List.any_eq_true.2 ⟨y, List.mem_of_getElem? HY.out, by rw [hin, HMV.out]; show (true && !clean new.data.toList) = true; rw [hcn]; rfl⟩
          rcases hways with h1 | ⟨h1, h2⟩
          · obtain ⟨e1, e2⟩ := eq_parts h1
            clear h1 hun
            go_wp2_with (go_at_call 25; refine (hcl _).mono ?_; clear hcl; rintro rr w3 ⟨rfl, hN⟩; have HB3 : Aside (Below w.heap.size w w3) := Below.onto BW.out (Below.onto HX.out hN); clear hN)
            go_ret2
            exact .inl ⟨HBAD.out, TreePost.none HB3.out⟩
          · obtain ⟨e1, e2⟩ := ne_parts h1
            rw [h2] at hun
            clear h1 h2
            go_wp2_with (first | (go_at_call 46; refine (hun _).mono ?_; clear hun; rintro rr wx ⟨rfl, hwx⟩; subst wx) | (go_at_call 25; refine (hcl _).mono ?_; clear hcl; rintro rr w3 ⟨rfl, hN⟩; have HB3 : Aside (Below w.heap.size w w3) := Below.onto BW.out (Below.onto HX.out hN); clear hN))
            go_ret2
            exact .inl ⟨HBAD.out, TreePost.none HB3.out⟩
        | true =>
          rw [hcn] at hcl
          have HNB : Aside (((t.take (k + 1)).any fun e => inM frm.data.toList e && !clean (mvE frm to e).p) = false) := bad_step HY.out NB.out (by rw [HMV.out]; show (_ && !clean new.data.toList) = false; rw [hcn]; simp)
          have hwi : ∀ W v, Rows W w.heap.size v (rmK t frm to k) → Calls Tryz.prog 72 #[v, .agg #[.string new, .int .i64 y.kind, .string y.text, .bool y.opq]] W (RowsPost (rmK t frm to (k + 1)) W) := fun W v hv => by
            obtain ⟨p', c', rfl, hL', _, _⟩ := hv.form
            rw [HSX.out, HMV.out]
            refine refWith_any (rmK t frm to k) ⟨new, y.kind, y.text, y.opq⟩ p' c' W hL' (rmK_all (fun x hx => by have := HP80.out x hx; omega) (fun x hx hi => ?_)) (by show new.size ≤ _; omega) (Nat.le_trans (rmK_len HR.out.sorted) HR.out.len)
            have hxc : clean (mvE frm to x).p = true := by
              cases hh : clean (mvE frm to x).p with
              | true => rfl
              | false =>
                have := NB.out
                rw [List.any_eq_false] at this
                exact absurd (by rw [hi, hh]; rfl) (this x hx)
            have : (mvE frm to x).path.size ≤ 80 := clean_size hxc
            omega
          rcases hways with h1 | ⟨h1, h2⟩
          · obtain ⟨e1, e2⟩ := eq_parts h1
            clear h1 hun
            go_wp2_with (first
              | (go_at_call 25; refine (hcl _).mono ?_; clear hcl; rintro rr w3 ⟨rfl, hN⟩; obtain ⟨⟨d0, d1, d2, d3⟩, _⟩ := new4 (by simp) hN; have hX3 := Below.onto HX.out hN; have hR3 := ST.out.below hX3; clear hN)
              | (go_at_call 72; refine (hwi _ _ hR3).mono ?_; clear hwi hR3; rintro rr w4 ⟨⟨v4, rfl, hR4⟩, hN4⟩; have HR4 : Aside (Rows w4 w.heap.size v4 (rmK t frm to (k + 1))) := hR4.mono (Below.onto BW.out hX3).size; have HB4 : Aside (Below w.heap.size w w4) := Below.onto (Below.onto BW.out hX3) hN4; clear hR4 hN4))
            go_roundg (n - (k + 1))
            case measure => omega
            case rel => exact ⟨k + 1, by omega, by omega, by go_num, HR4.out, HB4.out, HNB.out⟩
          · obtain ⟨e1, e2⟩ := ne_parts h1
            rw [h2] at hun
            clear h1 h2
            go_wp2_with (first
              | (go_at_call 46; refine (hun _).mono ?_; clear hun; rintro rr wx ⟨rfl, hwx⟩; subst wx)
              | (go_at_call 25; refine (hcl _).mono ?_; clear hcl; rintro rr w3 ⟨rfl, hN⟩; obtain ⟨⟨d0, d1, d2, d3⟩, _⟩ := new4 (by simp) hN; have hX3 := Below.onto HX.out hN; have hR3 := ST.out.below hX3; clear hN)
              | (go_at_call 72; refine (hwi _ _ hR3).mono ?_; clear hwi hR3; rintro rr w4 ⟨⟨v4, rfl, hR4⟩, hN4⟩; have HR4 : Aside (Rows w4 w.heap.size v4 (rmK t frm to (k + 1))) := hR4.mono (Below.onto BW.out hX3).size; have HB4 : Aside (Below w.heap.size w w4) := Below.onto (Below.onto BW.out hX3) hN4; clear hR4 hN4))
            go_roundg (n - (k + 1))
            case measure => omega
            case rel => exact ⟨k + 1, by omega, by omega, by go_num, HR4.out, HB4.out, HNB.out⟩
    · obtain rfl : k = n := by omega
      have hltz : ¬ (k : Int) < (k : Int) := by omega
      have HGOOD : Aside (badMove' t frm to = false) := by
        show _ = _
        have := NB.out
        rw [HN.out, List.take_length] at this
        exact this
      go_wp2
      go_ret2
      exact .inr ⟨HGOOD.out, rows_end ST.out (by rw [HN.out]) BW.out⟩
end Go.Proofs.YtampldoimpfjgaaGreatDoor
namespace Go.Proofs.YtampldoimpfjgaaGreatDoor
open Go.RowKit PM Go.Sort
set_option linter.unusedVariables false

set_option maxHeartbeats 16000000 in
set_option maxRecDepth 100000 in
theorem mvW_15 (p : Option Addr) (n cap : Nat) (frm to : ByteArray) (w : World) (hwr : PutWr w p n cap 0 0) (zp zt : ByteArray) (zk : Int) (zo : Bool) (hgf : RefGe w frm p n cap zp zk zt zo true) (hf0 : ¬ frm.data.toList = []) (hcl : RefCl to true) (hft : ¬ frm.data.toList = to.data.toList) (hun : RefUn to frm false) (hcu : RefCu to) (xp xt : ByteArray) (xk : Int) (xo : Bool) (hgd : RefGd w to p n cap xp 2 xt xo true) (yp yt : ByteArray) (yk : Int) (yo : Bool) (hgt : RefGe w to p n cap yp yk yt yo true) (hka : ¬ zk = 2) (hkb : ¬ yk = 2) (hna : RefNa w to p n cap 0) (t : List Ent) (hL : Lies w p t) (HN : Aside (n = t.length)) (hR : Right false t) (hf80 : frm.size ≤ 80) (ht80 : to.size ≤ 80) (hw1 : RefWo w frm p n cap (remUnder t frm.data.toList)) (hw2 : RefW2 t frm to) :
    Calls Tryz.prog 45 #[.slice p n cap, .string frm, .string to] w (fun r w' => (badMove' t frm to = true ∧ TreePost 4 [] w r w') ∨ (badMove' t frm to = false ∧ TreePost 0 (rmK t frm to t.length) w r w')) := by
  have hB : Below w.heap.size w w := Below.refl _ _
  have hf1 := empty_not hf0
  obtain ⟨q1, q2⟩ := ne_parts hft
  have hka1 : (zk == 2) = false := by simpa using hka
  have hka2 : decide (zk = 2) = false := by simpa using hka
  have hkb1 : (yk == 2) = false := by simpa using hkb
  have hkb2 : decide (yk = 2) = false := by simpa using hkb
  have HL : Aside (Lies w p t) := hL
  have HR : Aside (Right false t) := hR
  have hn80 : n ≤ 80 := by have := hR.len; have := HN.out; omega
  have HP80 : Aside (∀ y ∈ t, y.path.size ≤ 80) := fun y hy => clean_size (hR.clean hy)
  clear hL hR
  go_enter Tryz.func45, Tryz.ntmps45
  go_wp2_with (first
    | (go_at_call 21; refine (hwr _ hB).mono ?_; clear hwr; rintro rr w1 ⟨rfl, hN⟩; replace hB := (Below.onto hB hN).alloc (Below.onto hB hN).size (.cells #[.int .i64 0, .int .i64 0] 33); clear hN)
    | (go_at_call 26; refine (hgf _ hB).mono ?_; clear hgf; rintro rr w2 ⟨rfl, hN⟩; have HV : Aside (Below w.heap.size w w2) := Below.onto hB hN; clear hN hB; have hT : Below (w2.heap.size + 1) (w2.alloc (.cells #[.string zp, .int .i64 zk, .string zt, .bool zo] 28)) (w2.alloc (.cells #[.string zp, .int .i64 zk, .string zt, .bool zo] 28)) := Below.refl _ _)
    | (go_at_call 25; refine (hcl _).mono ?_; clear hcl; rintro rr w3 ⟨rfl, hN⟩; obtain ⟨hT3, hne, hlt, a1⟩ := boxK hT hN; clear hN hT)
    | (go_at_call 46; refine (hun _).mono ?_; clear hun; rintro rr wx ⟨rfl, hwx⟩; subst wx)
    | (go_at_call 53; refine (hcu _).mono ?_; clear hcu; rintro rr w4 ⟨⟨d, nm, rfl, hd, hnm⟩, hG⟩; clear hnm hne hlt a1; obtain ⟨hT4, hne, hlt, a1⟩ := boxK hT3 hG.below; clear hG hT3)
    | (go_at_call 26; refine (hgd _ d hd (baseK HV.out hT4)).mono ?_; clear hgd; rintro rr w5 ⟨rfl, hN⟩; clear hne hlt a1; obtain ⟨hT5, hne, hlt, a1⟩ := boxK hT4 hN; clear hN hT4; replace hT5 := hT5.alloc (Nat.succ_le_of_lt hlt) (.cells #[.string xp, .int .i64 2, .string xt, .bool xo] 28))
    | (go_at_call 26; refine (hgt _ (baseK HV.out hT5)).mono ?_; clear hgt; rintro rr w6 ⟨rfl, hN⟩; clear hne hlt a1; obtain ⟨hT6, hne, hlt, a1⟩ := boxK hT5 hN; clear hN hT5; replace hT6 := hT6.alloc (Nat.succ_le_of_lt hlt) (.cells #[.string yp, .int .i64 yk, .string yt, .bool yo] 28))
    | (go_at_call 80; refine (hna _ (baseK HV.out hT6)).mono ?_; clear hna; rintro rr w7 ⟨⟨a7, c7, rfl⟩, hN⟩; have hB := Below.onto (baseK HV.out hT6) hN; clear hN hT6 hne hlt a1)
    | (go_at_call 81; refine (hw1 _ hB).mono ?_; clear hw1; rintro rr w8 ⟨⟨v8, rfl, hR8⟩, hN⟩; replace hB := Below.onto hB hN; clear hN; obtain ⟨p8, c8, rfl, hL8, hc8, hn8⟩ := hR8.form; clear hR8)
    | (go_at_call 81; refine (hw2 _ p8 c8 hL8).mono ?_; clear hw2; rintro rr w9 ⟨⟨v9, rfl, hR9⟩, hN⟩; have HR9 : Aside (Rows w9 w.heap.size v9 (baseL t frm.data.toList to.data.toList)) := hR9.mono hB.size; have HB9 : Aside (Below w.heap.size w w9) := Below.onto hB hN; clear hN hR9 hB hL8))
  go_loopg [16, 99] n (fun gg v i wr => ∃ k : Nat, k ≤ n ∧ n - k ≤ gg ∧ i = .int .i64 k ∧ Aside (Rows wr w.heap.size v (rmK t frm to k)) ∧ Aside (Below w.heap.size w wr) ∧ Aside (((t.take k).any fun e => inM frm.data.toList e && !clean (mvE frm to e).p) = false))
  case atStart => exact ⟨0, Nat.zero_le _, by omega, rfl, HR9.out, HB9.out, by simp [Aside]⟩
  case round =>
    obtain ⟨k, hk, hgg, rfl, ST, BW, NB⟩ := hrel
    by_cases hlt : k < n
    · have hltz : (k : Int) < (n : Int) := by omega
      obtain ⟨y, hy⟩ : ∃ y, t[k]? = some y := ⟨_, List.getElem?_eq_getElem (by have := HN.out; omega)⟩
      have HY : Aside (t[k]? = some y) := hy
      have hy80 := HP80.out y (List.mem_of_getElem? hy)
      rcases HL.out with h0 | ⟨b, off, rfl, hb, hc⟩
      · rw [h0] at hy; simp at hy
      obtain ⟨c0, c1, c2, c3⟩ := Lies.cells hc hb BW.out hy
      clear hc hy
      have hws : w.heap.size ≤ wr.heap.size := BW.out.size
      have hun := fun W => refUnder_any y.path frm W (by unfold maxLen; omega) (by unfold maxLen; omega)
      cases hin : inM frm.data.toList y with
      | false =>
        have hp1 : ¬ y.path.data.toList = frm.data.toList := fun e => by
          unfold inM at hin; rw [show y.p = y.path.data.toList from rfl, e] at hin; simp at hin
        have hp2 : under y.path.data.toList frm.data.toList = false := by
          unfold inM at hin; exact (Bool.or_eq_false_iff.1 hin).2
        obtain ⟨e1, e2⟩ := ne_parts hp1
        rw [hp2] at hun
        clear hp1 hp2
        have HS : Aside (rmK t frm to (k + 1) = rmK t frm to k) := rmK_skip HY.out hin
        have HNB : Aside (((t.take (k + 1)).any fun e => inM frm.data.toList e && !clean (mvE frm to e).p) = false) := bad_step HY.out NB.out (by rw [hin]; rfl)
        go_wp2_with (go_at_call 46; refine (hun _).mono ?_; rintro rr wx ⟨rfl, hwx⟩; subst wx)
        go_roundg (n - (k + 1))
        case measure => omega
        case rel => exact ⟨k + 1, by omega, by omega, by go_num, by rw [HS.out]; exact ST.out.below ((Grown.refl wr).alloc _).below, (BW.out.alloc BW.out.size _ : Below _ _ _), HNB.out⟩
      | true =>
        have hsz := inM_size hin
        have hszz : (frm.size : Int) ≤ (y.path.size : Int) := by omega
        have hways : (y.path.data.toList = frm.data.toList) ∨ (¬ y.path.data.toList = frm.data.toList ∧ under y.path.data.toList frm.data.toList = true) := by
          unfold inM at hin
          by_cases h : y.path.data.toList = frm.data.toList
          · exact .inl h
          · refine .inr ⟨h, ?_⟩
            rcases Bool.or_eq_true_iff.1 hin with g | g
            · exact absurd (of_decide_eq_true g) h
            · exact g
        have HSX : Aside (rmK t frm to (k + 1) = withL (rmK t frm to k) (mvE frm to y)) := rmK_step HR.out.sorted HY.out hin
        obtain ⟨new, hnew⟩ : ∃ new, to ++ y.path.extract frm.size y.path.size = new := ⟨_, rfl⟩
        have HMV : Aside (mvE frm to y = ⟨new, y.kind, y.text, y.opq⟩) := by show _ = _; rw [← hnew]; rfl
        have hcc : new.size ≤ 160 := by rw [← hnew]; simp; omega
        have hcl := fun W => refClean_any new W (by omega)
        have HX : Aside (Below wr.heap.size wr (wr.alloc (.cells #[.string new, .int .i64 y.kind, .string y.text, .bool y.opq] 28))) := ((Grown.refl wr).alloc _).below
        cases hcn : clean new.data.toList with
        | false =>
          rw [hcn] at hcl
          have HBAD : Aside (badMove' t frm to = true) := List.any_eq_true.2 ⟨y, List.mem_of_getElem? HY.out, by rw [hin, HMV.out]; show (true && !clean new.data.toList) = true; rw [hcn]; rfl⟩
          rcases hways with h1 | ⟨h1, h2⟩
          · obtain ⟨e1, e2⟩ := eq_parts h1
            clear h1 hun
            go_wp2_with (go_at_call 25; refine (hcl _).mono ?_; clear hcl; rintro rr w3 ⟨rfl, hN⟩; have HB3 : Aside (Below w.heap.size w w3) := Below.onto BW.out (Below.onto HX.out hN); clear hN)
            go_ret2
            exact .inl ⟨HBAD.out, TreePost.none HB3.out⟩
          · obtain ⟨e1, e2⟩ := ne_parts h1
            rw [h2] at hun
            clear h1 h2
            go_wp2_with (first | (go_at_call 46; refine (hun _).mono ?_; clear hun; rintro rr wx ⟨rfl, hwx⟩; subst wx) | (go_at_call 25; refine (hcl _).mono ?_; clear hcl; rintro rr w3 ⟨rfl, hN⟩; have HB3 : Aside (Below w.heap.size w w3) := Below.onto BW.out (Below.onto HX.out hN); clear hN))
            go_ret2
            exact .inl ⟨HBAD.out, TreePost.none HB3.out⟩
        | true =>
          rw [hcn] at hcl
          have HNB : Aside (((t.take (k + 1)).any fun e => inM frm.data.toList e && !clean (mvE frm to e).p) = false) := bad_step HY.out NB.out (by rw [HMV.out]; show (_ && !clean new.data.toList) = false; rw [hcn]; simp)
          have hwi : ∀ W v, Rows W w.heap.size v (rmK t frm to k) → Calls Tryz.prog 72 #[v, .agg #[.string new, .int .i64 y.kind, .string y.text, .bool y.opq]] W (RowsPost (rmK t frm to (k + 1)) W) := fun W v hv => by
            obtain ⟨p', c', rfl, hL', _, _⟩ := hv.form
            rw [HSX.out, HMV.out]
            refine refWith_any (rmK t frm to k) ⟨new, y.kind, y.text, y.opq⟩ p' c' W hL' (rmK_all (fun x hx => by have := HP80.out x hx; omega) (fun x hx hi => ?_)) (by show new.size ≤ _; omega) (Nat.le_trans (rmK_len HR.out.sorted) HR.out.len)
            have hxc : clean (mvE frm to x).p = true := by
              cases hh : clean (mvE frm to x).p with
              | true => rfl
              | false =>
                have := NB.out
                rw [List.any_eq_false] at this
                exact absurd (by rw [hi, hh]; rfl) (this x hx)
            have : (mvE frm to x).path.size ≤ 80 := clean_size hxc
            omega
          rcases hways with h1 | ⟨h1, h2⟩
          · obtain ⟨e1, e2⟩ := eq_parts h1
            clear h1 hun
            go_wp2_with (first
              | (go_at_call 25; refine (hcl _).mono ?_; clear hcl; rintro rr w3 ⟨rfl, hN⟩; obtain ⟨⟨d0, d1, d2, d3⟩, _⟩ := new4 (by simp) hN; have hX3 := Below.onto HX.out hN; have hR3 := ST.out.below hX3; clear hN)
              | (go_at_call 72; refine (hwi _ _ hR3).mono ?_; clear hwi hR3; rintro rr w4 ⟨⟨v4, rfl, hR4⟩, hN4⟩; have HR4 : Aside (Rows w4 w.heap.size v4 (rmK t frm to (k + 1))) := hR4.mono (Below.onto BW.out hX3).size; have HB4 : Aside (Below w.heap.size w w4) := Below.onto (Below.onto BW.out hX3) hN4; clear hR4 hN4))
            go_roundg (n - (k + 1))
            case measure => omega
            case rel => exact ⟨k + 1, by omega, by omega, by go_num, HR4.out, HB4.out, HNB.out⟩
          · obtain ⟨e1, e2⟩ := ne_parts h1
            rw [h2] at hun
            clear h1 h2
            go_wp2_with (first
              | (go_at_call 46; refine (hun _).mono ?_; clear hun; rintro rr wx ⟨rfl, hwx⟩; subst wx)
              | (go_at_call 25; refine (hcl _).mono ?_; clear hcl; rintro rr w3 ⟨rfl, hN⟩; obtain ⟨⟨d0, d1, d2, d3⟩, _⟩ := new4 (by simp) hN; have hX3 := Below.onto HX.out hN; have hR3 := ST.out.below hX3; clear hN)
              | (go_at_call 72; refine (hwi _ _ hR3).mono ?_; clear hwi hR3; rintro rr w4 ⟨⟨v4, rfl, hR4⟩, hN4⟩; have HR4 : Aside (Rows w4 w.heap.size v4 (rmK t frm to (k + 1))) := hR4.mono (Below.onto BW.out hX3).size; have HB4 : Aside (Below w.heap.size w w4) := Below.onto (Below.onto BW.out hX3) hN4; clear hR4 hN4))
            go_roundg (n - (k + 1))
            case measure => omega
            case rel => exact ⟨k + 1, by omega, by omega, by go_num, HR4.out, HB4.out, HNB.out⟩
    · obtain rfl : k = n := by omega
      have hltz : ¬ (k : Int) < (k : Int) := by omega
      have HGOOD : Aside (badMove' t frm to = false) := by
        show _ = _
        have := NB.out
        rw [HN.out, List.take_length] at this
        exact this
      go_wp2
      go_ret2
      exact .inr ⟨HGOOD.out, rows_end ST.out (by rw [HN.out]) BW.out⟩
end Go.Proofs.YtampldoimpfjgaaGreatDoor
namespace Go.Proofs.YtampldoimpfjgaaGreatDoor
open Go.RowKit PM Go.Sort
set_option linter.unusedVariables false

theorem full_names {t : List Ent} {q : List UInt8} (HR : Right false t) (h0 : q ≠ []) : fullL t q = if (namesL t q).length = 0 then 0 else 11 := by
  by_cases hk : (namesL t q).length = 0
  · rw [if_pos hk]
    have hu := (names_none HR h0).1 hk
    unfold fullL
    rw [if_neg]
    intro h
    obtain ⟨x, hx, hux⟩ := List.any_eq_true.1 h
    rw [hu x hx] at hux
    cases hux
  · rw [if_neg hk]
    unfold fullL
    rw [if_pos]
    apply Classical.byContradiction
    intro hc
    apply hk
    rw [names_none HR h0]
    intro x hx
    cases hu : under x.p q with
    | false => rfl
    | true => exact absurd (List.any_eq_true.2 ⟨x, hx, hu⟩) hc
theorem moveL_err {t : List Ent} {frm to : ByteArray} {er : Int} (h : moveErr t frm to = er) (h0 : er ≠ 0) : moveL t frm to = [] := by rw [moveL, if_neg (by rw [h]; exact h0)]
theorem refMove_any (t : List Ent) (frm to : ByteArray) (p : Option Addr) (cap : Nat) (w : World) (hL : Lies w p t) (hF : ∀ e ∈ t, e.path.size ≤ 1048576 ∧ e.text.size ≤ 1048576) (hn : t.length < 4611686018427387904) (hcap : t.length ≤ cap) (hnil : p = none → cap = 0) (hf : frm.size ≤ 1048576) (ht : to.size ≤ 1048576) :
    Calls Tryz.prog 45 #[.slice p t.length cap, .string frm, .string to] w (TreePost (moveErr t frm to) (moveL t frm to) w) := by
  have hwr : PutWr w p t.length cap (faultL false t).1 ((faultL false t).2 : Nat) := fun W hB => refWrong_any t false p cap W (hL.kept hB) hF hn hcap
  have err : ∀ er : Int, moveErr t frm to = er → er ≠ 0 → Calls Tryz.prog 45 #[.slice p t.length cap, .string frm, .string to] w (TreePost er [] w) → Calls Tryz.prog 45 #[.slice p t.length cap, .string frm, .string to] w (TreePost (moveErr t frm to) (moveL t frm to) w) := fun er h h0 hc => by
    rw [moveL_err h h0, h]; exact hc
  by_cases h1 : ¬ (faultL false t).1 = 0
  · have hA : moveAsk t frm.data.toList = (faultL false t).1 := by rw [moveAsk, orL, if_neg h1]
    refine err _ (by rw [moveErr, if_neg (by rw [hA]; exact h1), hA]) h1 ?_
    exact mvW_1 p t.length cap frm to w _ _ h1 hwr
  replace h1 : (faultL false t).1 = 0 := Decidable.not_not.1 h1
  have HR : Right false t := faultL_zero.1 h1
  have h80 := HR.len
  rw [faultL_right HR] at hwr
  have hwr : PutWr w p t.length cap 0 0 := hwr
  have hg : ∀ s : ByteArray, ∀ x : Ent, ∀ bb, (getL t s.data.toList).getD zeroE = x → (getL t s.data.toList).isSome = bb → RefGe w s p t.length cap x.path x.kind x.text x.opq bb := fun s x bb hxx hbb W hB => refGet_any t s p cap W (hL.kept hB) hn x bb hxx hbb
  have hmiss : moveAsk t frm.data.toList = missL t frm.data.toList := by
    rw [moveAsk, orL, if_pos h1, orL]
    split
    · rename_i h; rw [h]; rfl
    · rfl
  by_cases hf0 : frm.data.toList = []
  · have hA : moveAsk t frm.data.toList = 6 := by
      rw [hmiss, missL, if_neg]
      rintro ⟨e, he, hp⟩; exact HR.ne he (hp.trans hf0)
    refine err 6 (by rw [moveErr, if_neg (by rw [hA]; decide), hA]) (by decide) ?_
    exact mvW_3 p t.length cap frm to w hwr _ _ _ _ (hg frm dirE true (by rw [hf0, getL_nil]; rfl) (by rw [hf0, getL_nil]; rfl)) hf0
  cases hgf : getL t frm.data.toList with
  | none =>
    have hA : moveAsk t frm.data.toList = 6 := by
      rw [hmiss, missL, if_neg]
      rintro ⟨e, he, hp⟩; exact (getL_none hgf).2 e he hp
    refine err 6 (by rw [moveErr, if_neg (by rw [hA]; decide), hA]) (by decide) ?_
    exact mvW_2 p t.length cap frm to w hwr _ _ _ _ (hg frm zeroE false (by rw [hgf]; rfl) (by rw [hgf]; rfl))
  | some a =>
  obtain ⟨ham, hap⟩ := getL_some hf0 hgf
  have hA : moveAsk t frm.data.toList = 0 := by rw [hmiss, missL, if_pos ⟨a, ham, hap⟩]
  have hga := hg frm a true (by rw [hgf]; rfl) (by rw [hgf]; rfl)
  have hcl : RefCl to (clean to.data.toList) := fun W => refClean_any to W (by omega)
  have hE : moveErr t frm to = if clean to.data.toList = true then
      if frm.data.toList = to.data.toList then 0
      else if under to.data.toList frm.data.toList = true then 8
      else if moveAsk2 t frm.data.toList to.data.toList = 0 then (if badMove t frm to = true then 4 else 0)
      else moveAsk2 t frm.data.toList to.data.toList
    else 7 := by rw [moveErr, if_pos hA]
  cases hct : clean to.data.toList with
  | false =>
    rw [hct] at hcl hE
    exact err 7 hE (by decide) (mvW_4 p t.length cap frm to w hwr _ _ _ _ hga hf0 hcl)
  | true =>
  rw [hct, if_pos rfl] at hE
  rw [hct] at hcl
  by_cases hft : frm.data.toList = to.data.toList
  · rw [if_pos hft] at hE
    rw [moveL, hE, if_pos rfl, if_pos hft]
    refine (mvW_5 p t.length cap frm to w hwr _ _ _ _ hga hf0 hcl hft).mono ?_
    rintro r w' ⟨rfl, hB⟩
    exact ⟨p, cap, rfl, hL.kept hB, hcap, hnil, hB⟩
  rw [if_neg hft] at hE
  have hun : RefUn to frm (under to.data.toList frm.data.toList) := fun W => refUnder_any to frm W (by unfold maxLen; omega) (by unfold maxLen; omega)
  cases hut : under to.data.toList frm.data.toList with
  | true =>
    rw [hut] at hun hE
    exact err 8 hE (by decide) (mvW_6 p t.length cap frm to w hwr _ _ _ _ hga hf0 hcl hft hun)
  | false =>
  rw [hut, if_neg (by decide)] at hE
  rw [hut] at hun
  have ht0 : to.data.toList ≠ [] := clean_ne hct
  have hcu : RefCu to := fun W => refCut_grown to W (by omega)
  have hgd : ∀ x : Ent, ∀ bb, (getL t (dirOf to.data.toList)).getD zeroE = x → (getL t (dirOf to.data.toList)).isSome = bb → RefGd w to p t.length cap x.path x.kind x.text x.opq bb := fun x bb hxx hbb W d hd hB => by
    have hd' : d.data.toList = dirOf to.data.toList := hd
    exact refGet_any t d p cap W (hL.kept hB) hn x bb (by rw [hd']; exact hxx) (by rw [hd']; exact hbb)
  rcases getL_cases t (dirOf to.data.toList) with ⟨g1, g2⟩ | ⟨x, g1, g2, g3⟩ | ⟨x, g1, g2, g3⟩
  · have h2 : moveAsk2 t frm.data.toList to.data.toList = 6 := by rw [moveAsk2, orL, if_neg (by rw [g2]; decide), g2]
    rw [h2, if_neg (by decide)] at hE
    exact err 6 hE (by decide) (mvW_7 p t.length cap frm to w hwr _ _ _ _ hga hf0 hcl hft hun hcu _ _ _ _ (hgd zeroE false (by rw [g1]; rfl) (by rw [g1]; rfl)))
  · have h2 : moveAsk2 t frm.data.toList to.data.toList = 10 := by rw [moveAsk2, orL, if_neg (by rw [g3]; decide), g3]
    rw [h2, if_neg (by decide)] at hE
    exact err 10 hE (by decide) (mvW_8 p t.length cap frm to w hwr _ _ _ _ hga hf0 hcl hft hun hcu _ _ _ _ (hgd x true (by rw [g1]; rfl) (by rw [g1]; rfl)) g2)
  have hgdx := hgd x true (by rw [g1]; rfl) (by rw [g1]; rfl)
  rw [g2] at hgdx
  have h2 : moveAsk2 t frm.data.toList to.data.toList = roomL t frm.data.toList to.data.toList := by
    rw [moveAsk2, orL, if_pos g3, orL]
    split
    · rename_i h; rw [h]; rfl
    · rfl
  rw [h2] at hE
  have hf80 : frm.size ≤ 80 := by
    have := HR.clean ham
    rw [hap] at this
    exact clean_size this
  have ht80 : to.size ≤ 80 := clean_size hct
  have hw1 : RefWo w frm p t.length cap (remUnder t frm.data.toList) := fun W hB => refWithout_any t frm p cap W (hL.kept hB) (fun x hx => (hF x hx).1) (by unfold maxLen; omega) h80
  have hw2 : RefW2 t frm to := fun W p' c' hL' => refWithout_any (remUnder t frm.data.toList) to p' c' W hL' (fun x hx => (hF x (mem_remUnder.1 hx).1).1) (by unfold maxLen; omega) (Nat.le_trans (List.length_filter_le _ _) h80)
  have hba : badMove t frm to = badMove' t frm to := bad_all hft hut
  have fin : roomL t frm.data.toList to.data.toList = 0 → ∀ r w', ((badMove' t frm to = true ∧ TreePost 4 [] w r w') ∨ (badMove' t frm to = false ∧ TreePost 0 (rmK t frm to t.length) w r w')) → TreePost (moveErr t frm to) (moveL t frm to) w r w' := fun h0 r w' h => by
    rw [h0, if_pos rfl, hba] at hE
    rcases h with ⟨hb, h⟩ | ⟨hb, h⟩
    · rw [hb, if_pos rfl] at hE
      rw [moveL_err hE (by decide), hE]; exact h
    · rw [hb, if_neg (by decide)] at hE
      rw [moveL, hE, if_pos rfl, if_neg hft]; exact h
  cases hgt : getL t to.data.toList with
  | none =>
    have h0 : roomL t frm.data.toList to.data.toList = 0 := by rw [roomL, hgt]
    exact (mvW_13 p t.length cap frm to w hwr _ _ _ _ hga hf0 hcl hft hun hcu _ _ 0 _ hgdx _ _ _ _ (hg to zeroE false (by rw [hgt]; rfl) (by rw [hgt]; rfl)) t hL rfl HR hf80 ht80 hw1 hw2).mono (fin h0)
  | some b =>
    have hgb := hg to b true (by rw [hgt]; rfl) (by rw [hgt]; rfl)
    have hro : roomL t frm.data.toList to.data.toList = if (b.kind == 2) && !(a.kind == 2) then 9 else if !(b.kind == 2) && (a.kind == 2) then 10 else fullL t to.data.toList := by rw [roomL, hgt, hgf]; rfl
    have hna := refNa t to p cap w hL hF h80
    have hfn := full_names HR ht0
    by_cases ha : a.kind = 2 <;> by_cases hb : b.kind = 2
    · have hr : roomL t frm.data.toList to.data.toList = fullL t to.data.toList := by rw [hro]; simp [ha, hb]
      by_cases hk : (namesL t to.data.toList).length = 0
      · rw [hk] at hna
        rw [if_pos hk] at hfn
        exact (mvW_14 p t.length cap frm to w hwr _ _ _ _ hga hf0 hcl hft hun hcu _ _ 0 _ hgdx _ _ _ _ hgb ha hb hna t hL rfl HR hf80 ht80 hw1 hw2).mono (fin (hr.trans hfn))
      · rw [if_neg hk] at hfn
        rw [hr, hfn, if_neg (by decide)] at hE
        exact err 11 hE (by decide) (mvW_11 p t.length cap frm to w hwr _ _ _ _ hga hf0 hcl hft hun hcu _ _ 0 _ hgdx _ _ _ _ hgb ha hb _ (by omega) hna)
    · have hr : roomL t frm.data.toList to.data.toList = 10 := by rw [hro]; simp [ha, hb]
      rw [hr, if_neg (by decide)] at hE
      exact err 10 hE (by decide) (mvW_10 p t.length cap frm to w hwr _ _ _ _ hga hf0 hcl hft hun hcu _ _ 0 _ hgdx _ _ _ _ hgb ha hb)
    · have hr : roomL t frm.data.toList to.data.toList = 9 := by rw [hro]; simp [ha, hb]
      rw [hr, if_neg (by decide)] at hE
      exact err 9 hE (by decide) (mvW_9 p t.length cap frm to w hwr _ _ _ _ hga hf0 hcl hft hun hcu _ _ 0 _ hgdx _ _ _ _ hgb ha hb)
    · have hr : roomL t frm.data.toList to.data.toList = fullL t to.data.toList := by rw [hro]; simp [ha, hb]
      by_cases hk : (namesL t to.data.toList).length = 0
      · rw [hk] at hna
        rw [if_pos hk] at hfn
        exact (mvW_15 p t.length cap frm to w hwr _ _ _ _ hga hf0 hcl hft hun hcu _ _ 0 _ hgdx _ _ _ _ hgb ha hb hna t hL rfl HR hf80 ht80 hw1 hw2).mono (fin (hr.trans hfn))
      · rw [if_neg hk] at hfn
        rw [hr, hfn, if_neg (by decide)] at hE
        exact err 11 hE (by decide) (mvW_12 p t.length cap frm to w hwr _ _ _ _ hga hf0 hcl hft hun hcu _ _ 0 _ hgdx _ _ _ _ hgb ha hb _ (by omega) hna)
end Go.Proofs.YtampldoimpfjgaaGreatDoor
namespace Go.Proofs.YtampldoimpfjgaaGreatDoor
open Go.RowKit PM Go.Sort
set_option linter.unusedVariables false

theorem puts_sortedR : ∀ (ms b : List Ent), Sorted b → Sorted (putsL b ms)
  | [], b, h => h
  | m :: ms, b, h => puts_sortedR ms (putL b m) (sorted_putL h m)
theorem puts_leR : ∀ (ms b : List Ent), Sorted b → (putsL b ms).length ≤ b.length + ms.length
  | [], b, h => Nat.le_refl _
  | m :: ms, b, h => by
    have h1 := puts_leR ms (putL b m) (sorted_putL h m)
    have h2 := putL_length (e := m) h
    have h3 : (putL b m).length ≤ b.length + 1 := by rw [h2]; split <;> omega
    show (putsL (putL b m) ms).length ≤ _
    rw [List.length_cons]; omega
theorem puts_allR {P : Ent → Prop} : ∀ (ms b : List Ent), (∀ x ∈ b, P x) → (∀ m ∈ ms, P m) → ∀ x ∈ putsL b ms, P x
  | [], b, hb, _ => hb
  | m :: ms, b, hb, hm => puts_allR ms (putL b m) (fun x hx => by
      rcases mem_putL.1 hx with rfl | ⟨hx, _⟩
      · exact hm _ (by simp)
      · exact hb x hx) (fun y hy => hm y (List.mem_cons_of_mem _ hy))
theorem puts_snocR (b ms : List Ent) (m : Ent) : putsL b (ms ++ [m]) = putL (putsL b ms) m := by simp [putsL]

def testH (l : List Ent) (q : List UInt8) : Bool := match getL l q with | some e => !(e.kind == 2) || e.opq | none => false
/-- The directories above, one by one. -/
def restH (l : List Ent) (q : List UInt8) : Bool := if h : q = [] then false else testH l q || restH l (dirOf q)
termination_by q.length
decreasing_by exact dirOf_short h
def refHid (l : List Ent) (q : List UInt8) : Bool := (match getL l q with | some e => !(e.kind == 2) | none => false) || restH l (dirOf q)
theorem restH_nil (l : List Ent) : restH l [] = false := by rw [restH]; simp
theorem restH_cons {l : List Ent} {q : List UInt8} (h : q ≠ []) : restH l q = (testH l q || restH l (dirOf q)) := by rw [restH, dif_neg h]
theorem under_nil {q : List UInt8} (hq : q ≠ []) : under [] q = false := by
  cases h : under [] q with
  | false => rfl
  | true =>
    obtain ⟨r, hr⟩ := (under_iff _ _ hq).1 h
    simp at hr
theorem under_step {p q : List UInt8} (hp : p ≠ []) (hq : q ≠ []) : under p q = true ↔ dirOf p ≠ [] ∧ (dirOf p = q ∨ under (dirOf p) q = true) := by
  constructor
  · intro h
    have := under_dir hq h
    refine ⟨fun h0 => ?_, this⟩
    rw [h0] at this
    rcases this with h1 | h1
    · exact hq h1.symm
    · rw [under_nil hq] at h1; cases h1
  · rintro ⟨h0, h1 | h1⟩
    · rw [← h1]; exact dir_under hp h0
    · exact under_tr h0 hq (dir_under hp h0) h1
theorem restH_iff {l : List Ent} (hr : Right true l) : ∀ (n : Nat) (q : List UInt8), q.length ≤ n → (restH l q = true ↔ q ≠ [] ∧ ∃ e ∈ l, (e.p = q ∨ under q e.p = true) ∧ (!(e.kind == 2) || e.opq) = true) := by
  intro n
  induction n with
  | zero =>
    intro q hq
    have : q = [] := List.eq_nil_of_length_eq_zero (by omega)
    subst this
    rw [restH_nil]
    simp
  | succ n ih =>
    intro q hq
    by_cases h : q = []
    · subst h; rw [restH_nil]; simp
    · rw [restH_cons h, Bool.or_eq_true, ih (dirOf q) (by have := dirOf_short h; omega)]
      constructor
      · rintro (h1 | ⟨h1, e, he, h2, h3⟩)
        · refine ⟨h, ?_⟩
          unfold testH at h1
          cases hg : getL l q with
          | none => rw [hg] at h1; cases h1
          | some e =>
            rw [hg] at h1
            obtain ⟨hm, hp⟩ := getL_some h hg
            exact ⟨e, hm, .inl hp, h1⟩
        · refine ⟨h, e, he, .inr ((under_step h (hr.ne he)).2 ⟨h1, ?_⟩), h3⟩
          rcases h2 with h2 | h2
          · exact .inl h2.symm
          · exact .inr h2
      · rintro ⟨_, e, he, h2, h3⟩
        rcases h2 with h2 | h2
        · left
          have := getL_of hr.sorted he (hr.ne he)
          rw [h2] at this
          unfold testH
          rw [this]
          exact h3
        · right
          obtain ⟨h1, h4⟩ := (under_step h (hr.ne he)).1 h2
          refine ⟨h1, e, he, ?_, h3⟩
          rcases h4 with h4 | h4
          · exact .inl h4.symm
          · exact .inr h4
/-- It is what a layer hides. -/
theorem refHid_eq {l : List Ent} (hr : Right true l) (q : List UInt8) : refHid l q = hidesL l q := by
  rw [Bool.eq_iff_iff]
  unfold refHid hidesL
  rw [Bool.or_eq_true, List.any_eq_true, restH_iff hr _ _ (Nat.le_refl _)]
  by_cases h : q = []
  · subst h
    have h0 : dirOf ([] : List UInt8) = [] := by
      have := dirOf_le ([] : List UInt8)
      exact List.eq_nil_of_length_eq_zero (by simpa using this)
    rw [h0, getL_nil]
    constructor
    · rintro (h1 | ⟨h1, _⟩)
      · simp [dirE] at h1
      · exact absurd rfl h1
    · rintro ⟨e, he, h1⟩
      unfold hidesE at h1
      rw [under_nil (hr.ne he)] at h1
      simp [hr.ne he] at h1
  · constructor
    · rintro (h1 | ⟨h1, e, he, h2, h3⟩)
      · cases hg : getL l q with
        | none => rw [hg] at h1; cases h1
        | some e =>
          rw [hg] at h1
          obtain ⟨hm, hp⟩ := getL_some h hg
          exact ⟨e, hm, by unfold hidesE; rw [hp]; simp at h1 ⊢; exact .inl h1⟩
      · refine ⟨e, he, ?_⟩
        unfold hidesE
        rw [(under_step h (hr.ne he)).2 ⟨h1, by rcases h2 with h2 | h2; exact .inl h2.symm; exact .inr h2⟩]
        simp at h3 ⊢
        exact .inr h3
    · rintro ⟨e, he, h1⟩
      unfold hidesE at h1
      rcases Bool.or_eq_true _ _ ▸ h1 with h1 | h1
      · left
        simp at h1
        have := getL_of hr.sorted he (hr.ne he)
        rw [h1.1] at this
        rw [this]
        simpa using h1.2
      · right
        rw [Bool.and_eq_true] at h1
        obtain ⟨h2, h4⟩ := (under_step h (hr.ne he)).1 h1.1
        refine ⟨h2, e, he, ?_, h1.2⟩
        rcases h4 with h4 | h4
        · exact .inl h4.symm
        · exact .inr h4
end Go.Proofs.YtampldoimpfjgaaGreatDoor
namespace Go.Proofs.YtampldoimpfjgaaGreatDoor
open Go.RowKit PM Go.Sort
set_option linter.unusedVariables false

set_option maxHeartbeats 4000000 in
set_option maxRecDepth 100000 in
theorem refHides_any (l : List Ent) (q0 : ByteArray) (p : Option Addr) (cap : Nat) (w : World) (hL : Lies w p l) (hn : l.length < 4611686018427387904) (hq : q0.size < 4611686018427387904) :
    Calls Tryz.prog 82 #[.slice p l.length cap, .string q0] w fun r w' => r = .returned (.bool (refHid l q0.data.toList)) ∧ Below w.heap.size w w' := by
  obtain ⟨⟨xp, xk, xt, xo⟩, hxx⟩ : ∃ x, (getL l q0.data.toList).getD zeroE = x := ⟨_, rfl⟩
  obtain ⟨bb, hbb⟩ : ∃ bb, (getL l q0.data.toList).isSome = bb := ⟨_, rfl⟩
  have hge := refGet_any l q0 p cap w hL hn ⟨xp, xk, xt, xo⟩ bb hxx hbb
  have hcu := fun W => refCut_grown q0 W hq
  have HGE : Aside (∀ (dq : ByteArray) W, Below w.heap.size w W → ∀ x b, (getL l dq.data.toList).getD zeroE = x → (getL l dq.data.toList).isSome = b → Calls Tryz.prog 26 #[.slice p l.length cap, .string dq] W fun r w' => r = .returned (.tuple #[.agg #[.string x.path, .int .i64 x.kind, .string x.text, .bool x.opq], .bool b]) ∧ Below W.heap.size W w') :=
    fun dq W hB x b hx hb => refGet_any l dq p cap W (hL.kept hB) hn x b hx hb
  have HF : (bb = true ∧ ¬ xk = 2 ∧ Aside (refHid l q0.data.toList = true)) ∨ ((bb = false ∨ xk = 2) ∧ Aside (refHid l q0.data.toList = restH l (dirOf q0.data.toList))) := by
    unfold refHid
    cases hg : getL l q0.data.toList with
    | none =>
      rw [hg] at hbb
      exact .inr ⟨.inl hbb.symm, by simp [Aside]⟩
    | some z =>
      rw [hg] at hbb hxx
      obtain rfl : z = ⟨xp, xk, xt, xo⟩ := hxx
      by_cases hk : xk = 2
      · exact .inr ⟨.inr hk, by simp [Aside, hk]⟩
      · exact .inl ⟨hbb.symm, hk, by simp [Aside, hk]⟩
  obtain ⟨n, hnl⟩ : ∃ n, n = l.length := ⟨_, rfl⟩
  rw [← hnl] at hge HGE
  rw [← hnl]
  clear hnl hL hn hxx hbb
  rcases HF with ⟨rfl, hk, HR⟩ | ⟨hk, HR⟩
  · clear hcu HGE
    go_enter Tryz.func82, Tryz.ntmps82
    go_wp2_with (go_at_call 26; refine hge.mono ?_; clear hge; rintro rr w1 ⟨rfl, hN⟩; have HB1 : Aside (Below w.heap.size w (w1.alloc (.cells #[.string xp, .int .i64 xk, .string xt, .bool xo] 28))) := hN.alloc hN.size _; clear hN)
    go_ret
    exact ⟨ret_bool HR.out.symm, HB1.out⟩
  · have hkk : (bb = false) ∨ (bb = true ∧ xk = 2) := by
      cases bb
      · exact .inl rfl
      · rcases hk with h | h
        · cases h
        · exact .inr ⟨rfl, h⟩
    clear hk
    rcases hkk with rfl | ⟨rfl, rfl⟩
    · go_enter Tryz.func82, Tryz.ntmps82
      go_wp2_with (first
        | (go_at_call 26; refine hge.mono ?_; clear hge; rintro rr w1 ⟨rfl, hN⟩; have HB1 : Aside (Below w.heap.size w (w1.alloc (.cells #[.string xp, .int .i64 xk, .string xt, .bool xo] 28))) := hN.alloc hN.size _; clear hN)
        | (go_at_call 53; refine (hcu _).mono ?_; clear hcu; rintro rr w2 ⟨⟨d, nm, rfl, hd, hnm⟩, hG⟩; have HB2 : Aside (Below w.heap.size w w2) := Below.onto HB1.out hG.below; have HD : Aside (d.data.toList = dirOf q0.data.toList) := hd; clear hnm hG hd))
      go_loopg [7] (q0.size + 1) (fun gg v wr => ∃ dq : ByteArray, v = .string dq ∧ dq.size ≤ gg ∧ dq.size ≤ q0.size ∧ Aside (restH l dq.data.toList = refHid l q0.data.toList) ∧ Aside (Below w.heap.size w wr))
      case atStart => exact ⟨d, rfl, by have := dirOf_le q0.data.toList; rw [← HD.out, szl, szl] at this; omega, by have := dirOf_le q0.data.toList; rw [← HD.out, szl, szl] at this; omega, by show _ = _; rw [HD.out, HR.out], HB2.out⟩
      case round =>
        obtain ⟨dq, rfl, hgg, hsz, RH, BW⟩ := hrel
        by_cases hd0 : dq.data.toList = []
        · have hde := empty_of hd0
          have HE : Aside (refHid l q0.data.toList = false) := by show _ = _; rw [← RH.out, hd0, restH_nil]
          clear HGE
          go_wp2
          go_ret
          exact ⟨ret_bool HE.out.symm, BW.out⟩
        · have hde := empty_not hd0
          obtain ⟨⟨yp, yk, yt, yo⟩, hyy⟩ : ∃ x, (getL l dq.data.toList).getD zeroE = x := ⟨_, rfl⟩
          obtain ⟨cc, hcc⟩ : ∃ bb, (getL l dq.data.toList).isSome = bb := ⟨_, rfl⟩
          have hge := HGE.out dq wr BW.out ⟨yp, yk, yt, yo⟩ cc hyy hcc
          have hcu := fun W => refCut_grown dq W (by omega)
          have hsh := dirOf_short hd0
          rw [szl] at hsh
          have HSH : Aside ((dirOf dq.data.toList).length < dq.size) := hsh
          have HT : (cc = true ∧ ¬ yk = 2 ∧ Aside (refHid l q0.data.toList = true)) ∨ (cc = true ∧ yk = 2 ∧ yo = true ∧ Aside (refHid l q0.data.toList = true)) ∨ (cc = true ∧ yk = 2 ∧ yo = false ∧ Aside (restH l (dirOf dq.data.toList) = refHid l q0.data.toList)) ∨ (cc = false ∧ Aside (restH l (dirOf dq.data.toList) = refHid l q0.data.toList)) := by
            have h1 := RH.out
            rw [restH_cons hd0] at h1
            unfold testH at h1
            cases hg : getL l dq.data.toList with
            | none =>
              rw [hg] at hcc h1
              exact .inr (.inr (.inr ⟨hcc.symm, by simpa [Aside] using h1⟩))
            | some z =>
              rw [hg] at hcc hyy h1
              obtain rfl : z = ⟨yp, yk, yt, yo⟩ := hyy
              by_cases hk : yk = 2
              · cases yo with
                | true => exact .inr (.inl ⟨hcc.symm, hk, rfl, by show _ = _; rw [← h1]; simp⟩)
                | false => exact .inr (.inr (.inl ⟨hcc.symm, hk, rfl, by show _ = _; rw [← h1]; simp [hk]⟩))
              · exact .inl ⟨hcc.symm, hk, by show _ = _; rw [← h1]; simp [hk]⟩
          clear hyy hcc hsh HGE
          rcases HT with ⟨rfl, hk, HE⟩ | ⟨rfl, rfl, rfl, HE⟩ | ⟨rfl, rfl, rfl, HE⟩ | ⟨rfl, HE⟩
          · clear hcu
            go_wp2_with (go_at_call 26; refine hge.mono ?_; clear hge; rintro rr w3 ⟨rfl, hN⟩; have HB3 : Aside (Below w.heap.size w (w3.alloc (.cells #[.string yp, .int .i64 yk, .string yt, .bool yo] 28))) := (Below.onto BW.out hN).alloc (Below.onto BW.out hN).size _; clear hN)
            go_ret
            exact ⟨ret_bool HE.out.symm, HB3.out⟩
          · clear hcu
            go_wp2_with (go_at_call 26; refine hge.mono ?_; clear hge; rintro rr w3 ⟨rfl, hN⟩; have HB3 : Aside (Below w.heap.size w (w3.alloc (.cells #[.string yp, .int .i64 2, .string yt, .bool true] 28))) := (Below.onto BW.out hN).alloc (Below.onto BW.out hN).size _; clear hN)
            go_ret
            exact ⟨ret_bool HE.out.symm, HB3.out⟩
          · go_wp2_with (first
              | (go_at_call 26; refine hge.mono ?_; clear hge; rintro rr w3 ⟨rfl, hN⟩; have HB3 : Aside (Below w.heap.size w (w3.alloc (.cells #[.string yp, .int .i64 2, .string yt, .bool false] 28))) := (Below.onto BW.out hN).alloc (Below.onto BW.out hN).size _; clear hN)
              | (go_at_call 53; refine (hcu _).mono ?_; clear hcu; rintro rr w4 ⟨⟨d2, nm2, rfl, hd2, hnm2⟩, hG2⟩; have HB4 : Aside (Below w.heap.size w w4) := Below.onto HB3.out hG2.below; have HD2 : Aside (d2.data.toList = dirOf dq.data.toList) := hd2; clear hnm2 hG2 hd2))
            go_roundg (dq.size - 1)
            case measure => have := HSH.out; omega
            case rel => exact ⟨d2, rfl, by have := HSH.out; rw [← HD2.out, szl] at this; omega, by have := HSH.out; rw [← HD2.out, szl] at this; omega, by show _ = _; rw [HD2.out, HE.out], HB4.out⟩
          · go_wp2_with (first
              | (go_at_call 26; refine hge.mono ?_; clear hge; rintro rr w3 ⟨rfl, hN⟩; have HB3 : Aside (Below w.heap.size w (w3.alloc (.cells #[.string yp, .int .i64 yk, .string yt, .bool yo] 28))) := (Below.onto BW.out hN).alloc (Below.onto BW.out hN).size _; clear hN)
              | (go_at_call 53; refine (hcu _).mono ?_; clear hcu; rintro rr w4 ⟨⟨d2, nm2, rfl, hd2, hnm2⟩, hG2⟩; have HB4 : Aside (Below w.heap.size w w4) := Below.onto HB3.out hG2.below; have HD2 : Aside (d2.data.toList = dirOf dq.data.toList) := hd2; clear hnm2 hG2 hd2))
            go_roundg (dq.size - 1)
            case measure => have := HSH.out; omega
            case rel => exact ⟨d2, rfl, by have := HSH.out; rw [← HD2.out, szl] at this; omega, by have := HSH.out; rw [← HD2.out, szl] at this; omega, by show _ = _; rw [HD2.out, HE.out], HB4.out⟩
    · go_enter Tryz.func82, Tryz.ntmps82
      go_wp2_with (first
        | (go_at_call 26; refine hge.mono ?_; clear hge; rintro rr w1 ⟨rfl, hN⟩; have HB1 : Aside (Below w.heap.size w (w1.alloc (.cells #[.string xp, .int .i64 2, .string xt, .bool xo] 28))) := hN.alloc hN.size _; clear hN)
        | (go_at_call 53; refine (hcu _).mono ?_; clear hcu; rintro rr w2 ⟨⟨d, nm, rfl, hd, hnm⟩, hG⟩; have HB2 : Aside (Below w.heap.size w w2) := Below.onto HB1.out hG.below; have HD : Aside (d.data.toList = dirOf q0.data.toList) := hd; clear hnm hG hd))
      go_loopg [7] (q0.size + 1) (fun gg v wr => ∃ dq : ByteArray, v = .string dq ∧ dq.size ≤ gg ∧ dq.size ≤ q0.size ∧ Aside (restH l dq.data.toList = refHid l q0.data.toList) ∧ Aside (Below w.heap.size w wr))
      case atStart => exact ⟨d, rfl, by have := dirOf_le q0.data.toList; rw [← HD.out, szl, szl] at this; omega, by have := dirOf_le q0.data.toList; rw [← HD.out, szl, szl] at this; omega, by show _ = _; rw [HD.out, HR.out], HB2.out⟩
      case round =>
        obtain ⟨dq, rfl, hgg, hsz, RH, BW⟩ := hrel
        by_cases hd0 : dq.data.toList = []
        · have hde := empty_of hd0
          have HE : Aside (refHid l q0.data.toList = false) := by show _ = _; rw [← RH.out, hd0, restH_nil]
          clear HGE
          go_wp2
          go_ret
          exact ⟨ret_bool HE.out.symm, BW.out⟩
        · have hde := empty_not hd0
          obtain ⟨⟨yp, yk, yt, yo⟩, hyy⟩ : ∃ x, (getL l dq.data.toList).getD zeroE = x := ⟨_, rfl⟩
          obtain ⟨cc, hcc⟩ : ∃ bb, (getL l dq.data.toList).isSome = bb := ⟨_, rfl⟩
          have hge := HGE.out dq wr BW.out ⟨yp, yk, yt, yo⟩ cc hyy hcc
          have hcu := fun W => refCut_grown dq W (by omega)
          have hsh := dirOf_short hd0
          rw [szl] at hsh
          have HSH : Aside ((dirOf dq.data.toList).length < dq.size) := hsh
          have HT : (cc = true ∧ ¬ yk = 2 ∧ Aside (refHid l q0.data.toList = true)) ∨ (cc = true ∧ yk = 2 ∧ yo = true ∧ Aside (refHid l q0.data.toList = true)) ∨ (cc = true ∧ yk = 2 ∧ yo = false ∧ Aside (restH l (dirOf dq.data.toList) = refHid l q0.data.toList)) ∨ (cc = false ∧ Aside (restH l (dirOf dq.data.toList) = refHid l q0.data.toList)) := by
            have h1 := RH.out
            rw [restH_cons hd0] at h1
            unfold testH at h1
            cases hg : getL l dq.data.toList with
            | none =>
              rw [hg] at hcc h1
              exact .inr (.inr (.inr ⟨hcc.symm, by simpa [Aside] using h1⟩))
            | some z =>
              rw [hg] at hcc hyy h1
              obtain rfl : z = ⟨yp, yk, yt, yo⟩ := hyy
              by_cases hk : yk = 2
              · cases yo with
                | true => exact .inr (.inl ⟨hcc.symm, hk, rfl, by show _ = _; rw [← h1]; simp⟩)
                | false => exact .inr (.inr (.inl ⟨hcc.symm, hk, rfl, by show _ = _; rw [← h1]; simp [hk]⟩))
              · exact .inl ⟨hcc.symm, hk, by show _ = _; rw [← h1]; simp [hk]⟩
          clear hyy hcc hsh HGE
          rcases HT with ⟨rfl, hk, HE⟩ | ⟨rfl, rfl, rfl, HE⟩ | ⟨rfl, rfl, rfl, HE⟩ | ⟨rfl, HE⟩
          · clear hcu
            go_wp2_with (go_at_call 26; refine hge.mono ?_; clear hge; rintro rr w3 ⟨rfl, hN⟩; have HB3 : Aside (Below w.heap.size w (w3.alloc (.cells #[.string yp, .int .i64 yk, .string yt, .bool yo] 28))) := (Below.onto BW.out hN).alloc (Below.onto BW.out hN).size _; clear hN)
            go_ret
            exact ⟨ret_bool HE.out.symm, HB3.out⟩
          · clear hcu
            go_wp2_with (go_at_call 26; refine hge.mono ?_; clear hge; rintro rr w3 ⟨rfl, hN⟩; have HB3 : Aside (Below w.heap.size w (w3.alloc (.cells #[.string yp, .int .i64 2, .string yt, .bool true] 28))) := (Below.onto BW.out hN).alloc (Below.onto BW.out hN).size _; clear hN)
            go_ret
            exact ⟨ret_bool HE.out.symm, HB3.out⟩
          · go_wp2_with (first
              | (go_at_call 26; refine hge.mono ?_; clear hge; rintro rr w3 ⟨rfl, hN⟩; have HB3 : Aside (Below w.heap.size w (w3.alloc (.cells #[.string yp, .int .i64 2, .string yt, .bool false] 28))) := (Below.onto BW.out hN).alloc (Below.onto BW.out hN).size _; clear hN)
              | (go_at_call 53; refine (hcu _).mono ?_; clear hcu; rintro rr w4 ⟨⟨d2, nm2, rfl, hd2, hnm2⟩, hG2⟩; have HB4 : Aside (Below w.heap.size w w4) := Below.onto HB3.out hG2.below; have HD2 : Aside (d2.data.toList = dirOf dq.data.toList) := hd2; clear hnm2 hG2 hd2))
            go_roundg (dq.size - 1)
            case measure => have := HSH.out; omega
            case rel => exact ⟨d2, rfl, by have := HSH.out; rw [← HD2.out, szl] at this; omega, by have := HSH.out; rw [← HD2.out, szl] at this; omega, by show _ = _; rw [HD2.out, HE.out], HB4.out⟩
          · go_wp2_with (first
              | (go_at_call 26; refine hge.mono ?_; clear hge; rintro rr w3 ⟨rfl, hN⟩; have HB3 : Aside (Below w.heap.size w (w3.alloc (.cells #[.string yp, .int .i64 yk, .string yt, .bool yo] 28))) := (Below.onto BW.out hN).alloc (Below.onto BW.out hN).size _; clear hN)
              | (go_at_call 53; refine (hcu _).mono ?_; clear hcu; rintro rr w4 ⟨⟨d2, nm2, rfl, hd2, hnm2⟩, hG2⟩; have HB4 : Aside (Below w.heap.size w w4) := Below.onto HB3.out hG2.below; have HD2 : Aside (d2.data.toList = dirOf dq.data.toList) := hd2; clear hnm2 hG2 hd2))
            go_roundg (dq.size - 1)
            case measure => have := HSH.out; omega
            case rel => exact ⟨d2, rfl, by have := HSH.out; rw [← HD2.out, szl] at this; omega, by have := HSH.out; rw [← HD2.out, szl] at this; omega, by show _ = _; rw [HD2.out, HE.out], HB4.out⟩
end Go.Proofs.YtampldoimpfjgaaGreatDoor
namespace Go.Proofs.YtampldoimpfjgaaGreatDoor
open Go.RowKit PM Go.Sort
set_option linter.unusedVariables false

abbrev WrB (w : World) (p : Option Addr) (n cap : Nat) (b : Bool) (f1 f2 : Int) : Prop := ∀ W, Below w.heap.size w W → Calls Tryz.prog 21 #[.slice p n cap, .bool b] W fun r w' => r = .returned (.agg #[.int .i64 f1, .int .i64 f2]) ∧ Below W.heap.size W w'
theorem roEnd {w w6 : World} {v : Value} {r l : List Ent} (h : Rows w6 w.heap.size v r) (hr : r = l) (hB : Below w.heap.size w w6) : TreePost 0 l w (.returned (.tuple #[v, .int .i64 0])) w6 := by
  subst hr
  obtain ⟨p, c, rfl, h1, h2, h3⟩ := h.form
  exact ⟨p, c, rfl, h1, h2, h3, hB⟩
set_option maxHeartbeats 4000000 in
set_option maxRecDepth 100000 in
theorem roW_1 (pl p : Option Addr) (nl capl n cap : Nat) (w : World) (f1 : Int) (f2 : Nat) (h1 : ¬ f1 = 0) (hwr : WrB w pl nl capl true f1 (f2 : Int)) :
    Calls Tryz.prog 50 #[.slice pl nl capl, .slice p n cap] w (TreePost f1 [] w) := by
  have hB : Below w.heap.size w w := Below.refl _ _
  go_enter Tryz.func50, Tryz.ntmps50
  go_wp2_with (go_at_call 21; refine (hwr _ hB).mono ?_; clear hwr hB; rintro rr w1 ⟨rfl, hB⟩; replace hB := hB.alloc hB.size (.cells #[.int .i64 f1, .int .i64 (f2 : Int)] 33))
  go_quiet (fail)
  replace hB := below_drewN hB nq
  go_wp2
  go_ret2
  exact TreePost.none hB
set_option maxHeartbeats 4000000 in
set_option maxRecDepth 100000 in
theorem roW_2 (pl p : Option Addr) (nl capl n cap : Nat) (w : World) (hwl : WrB w pl nl capl true 0 0) (f1 : Int) (f2 : Nat) (h1 : ¬ f1 = 0) (hwr : WrB w p n cap false f1 (f2 : Int)) :
    Calls Tryz.prog 50 #[.slice pl nl capl, .slice p n cap] w (TreePost f1 [] w) := by
  have hB : Below w.heap.size w w := Below.refl _ _
  go_enter Tryz.func50, Tryz.ntmps50
  go_wp2_with (first
    | (go_at_call 21; refine (hwl _ hB).mono ?_; clear hwl; rintro rr w1 ⟨rfl, hN⟩; replace hB := (Below.onto hB hN).alloc (Below.onto hB hN).size (.cells #[.int .i64 0, .int .i64 0] 33); clear hN)
    | (go_at_call 21; refine (hwr _ hB).mono ?_; clear hwr; rintro rr w2 ⟨rfl, hN⟩; replace hB := (Below.onto hB hN).alloc (Below.onto hB hN).size (.cells #[.int .i64 f1, .int .i64 (f2 : Int)] 33); clear hN))
  go_quiet (fail)
  replace hB := below_drewN hB nq
  go_wp2
  go_ret2
  exact TreePost.none hB
def seenF (l t : List Ent) : List Ent := t.filter fun e => !refHid l e.p
theorem seenF_step {l t : List Ent} {k : Nat} {y : Ent} (hy : t[k]? = some y) : seenF l (t.take (k + 1)) = seenF l (t.take k) ++ (if refHid l y.p then [] else [y]) := by
  unfold seenF
  rw [take_step hy, List.filter_append]
  cases h1 : refHid l y.p <;> simp [h1]
theorem puts_own {b l : List Ent} {k : Nat} {y : Ent} (hs : Sorted b) (hy : l[k]? = some y) (hk : ¬ y.kind = 4) : putsL b (ownL (l.take (k + 1))) = withL (putsL b (ownL (l.take k))) (clearE y) := by
  rw [withL_put (puts_sortedR _ _ hs), own_step hy, if_neg hk, puts_snocR]
theorem puts_skip {b l : List Ent} {k : Nat} {y : Ent} (hy : l[k]? = some y) (hk : y.kind = 4) : putsL b (ownL (l.take (k + 1))) = putsL b (ownL (l.take k)) := by
  rw [own_step hy, if_pos hk, List.append_nil]
end Go.Proofs.YtampldoimpfjgaaGreatDoor
namespace Go.Proofs.YtampldoimpfjgaaGreatDoor
open Go.RowKit PM Go.Sort
set_option linter.unusedVariables false

set_option maxHeartbeats 8000000 in
set_option maxRecDepth 100000 in
theorem roW_3 (l t : List Ent) (pl p : Option Addr) (nl capl n cap : Nat) (w : World) (hLl : Lies w pl l) (hL : Lies w p t) (HNL : Aside (nl = l.length)) (HN : Aside (n = t.length)) (hl80 : nl ≤ 80) (hn80 : n ≤ 80) (hF : ∀ e ∈ t, e.path.size ≤ 1048576) (hFl : ∀ e ∈ l, e.path.size ≤ 1048576) (hs : Sorted t)
    (hwl : WrB w pl nl capl true 0 0) (hwr : WrB w p n cap false 0 0)
    (hhi : Aside (∀ (y : Ent) W, y ∈ t → Below w.heap.size w W → Calls Tryz.prog 82 #[.slice pl nl capl, .string y.path] W fun r w' => r = .returned (.bool (refHid l y.p)) ∧ Below W.heap.size W w')) :
    Calls Tryz.prog 50 #[.slice pl nl capl, .slice p n cap] w fun r w' =>
      (80 < (putsL (seenF l t) (ownL l)).length ∧ TreePost 5 [] w r w') ∨ (¬ 80 < (putsL (seenF l t) (ownL l)).length ∧ TreePost 0 (putsL (seenF l t) (ownL l)) w r w') := by
  have HL : Aside (Lies w p t) := hL
  have HLl : Aside (Lies w pl l) := hLl
  have HS : Aside (Sorted (seenF l t)) := List.Pairwise.filter _ hs
  have HF : Aside (∀ e ∈ t, e.path.size ≤ 1048576) := hF
  have HFl : Aside (∀ e ∈ l, e.path.size ≤ 1048576) := hFl
  clear hL hLl hs hF hFl
  have hB : Below w.heap.size w w := Below.refl _ _
  go_enter Tryz.func50, Tryz.ntmps50
  go_wp2_with (first
    | (go_at_call 21; refine (hwl _ hB).mono ?_; clear hwl; rintro rr w1 ⟨rfl, hN⟩; replace hB := (Below.onto hB hN).alloc (Below.onto hB hN).size (.cells #[.int .i64 0, .int .i64 0] 33); clear hN)
    | (go_at_call 21; refine (hwr _ hB).mono ?_; clear hwr; rintro rr w2 ⟨rfl, hN⟩; replace hB := (Below.onto hB hN).alloc (Below.onto hB hN).size (.cells #[.int .i64 0, .int .i64 0] 33); clear hN; have HB : Aside (Below w.heap.size w (w2.alloc (.cells #[.int .i64 0, .int .i64 0] 33))) := hB))
  go_loopg [8, 29] n (fun gg v i wr => ∃ (k : Nat) (r : List Ent), k ≤ n ∧ n - k ≤ gg ∧ i = .int .i64 k ∧ r.length ≤ k ∧ Aside (Rows wr w.heap.size v r) ∧ Aside (Below w.heap.size w wr) ∧ Aside (r = seenF l (t.take k)))
  case atStart => exact ⟨0, [], Nat.zero_le _, by omega, rfl, Nat.le_refl _, Rows.nil _ _, HB.out, rfl⟩
  case round =>
    obtain ⟨k, r, hk, hgg, rfl, hbl, ST, BW, NM⟩ := hrel
    by_cases hlt : k < n
    · have hltz : (k : Int) < (n : Int) := by omega
      obtain ⟨y, hy⟩ : ∃ y, t[k]? = some y := ⟨_, List.getElem?_eq_getElem (by have := HN.out; omega)⟩
      have HY : Aside (t[k]? = some y) := hy
      have HM : Aside (y ∈ t) := List.mem_of_getElem? hy
      rcases HL.out with h0 | ⟨b, off, rfl, hb, hc⟩
      · rw [h0] at hy; simp at hy
      obtain ⟨c0, c1, c2, c3⟩ := Lies.cells hc hb BW.out hy
      clear hc hy
      have hws : w.heap.size ≤ wr.heap.size := BW.out.size
      have hh := fun W => hhi.out y W HM.out
      have HST : Aside (seenF l (t.take (k + 1)) = r ++ (if refHid l y.p then [] else [y])) := by show _ = _; rw [seenF_step HY.out, NM.out]
      generalize refHid l y.p = hd at hh HST
      cases hd with
      | true =>
        have HE : Aside (seenF l (t.take (k + 1)) = r) := by show _ = _; rw [HST.out]; simp
        go_wp2_with (go_at_call 82; refine (hh _ (BW.out.alloc BW.out.size _)).mono ?_; clear hh; rintro rr w3 ⟨rfl, hN⟩; have HB3 : Aside (Below wr.heap.size wr w3) := base2 hN; clear hN)
        go_roundg (n - (k + 1))
        case measure => omega
        case rel => exact ⟨k + 1, r, by omega, by omega, by go_num, by omega, ST.out.below HB3.out, Below.onto BW.out HB3.out, HE.out.symm⟩
      | false =>
        have HE : Aside (seenF l (t.take (k + 1)) = r ++ [y]) := by show _ = _; rw [HST.out]; simp
        go_wp2_with (first
          | (go_at_call 82; refine (hh _ (BW.out.alloc BW.out.size _)).mono ?_; clear hh; rintro rr w3 ⟨rfl, hN⟩; obtain ⟨⟨d0, d1, d2, d3⟩, _⟩ := new4 (by simp) hN; have hs3 := hN.size; simp at hs3; have HB3 : Aside (Below wr.heap.size wr w3) := base2 hN; clear hN; have hR1 := ST.out.below HB3.out)
          | (at_builtin; refine append_row w3 y rfl _ _ rfl w.heap.size _ r rfl hR1 (by omega) (by omega) _ (by simp) rfl ?_; clear hR1; intro v4 w4 hR4 hB4 hC4 hs4; have HR4 : Aside (Rows w4 w.heap.size v4 (r ++ [y])) := hR4; have HB4 : Aside (Below w.heap.size w w4) := (Below.onto BW.out HB3.out).trans hB4; clear hR4 hB4 hC4))
        go_roundg (n - (k + 1))
        case measure => omega
        case rel => exact ⟨k + 1, r ++ [y], by omega, by omega, by go_num, by simp; omega, HR4.out, HB4.out, HE.out.symm⟩
    · have hltz : ¬ (k : Int) < (n : Int) := by omega
      have HE : Aside (seenF l t = r) := by
        show _ = _
        rw [NM.out, List.take_of_length_le (by have := HN.out; omega)]
      clear hhi NM hgg
      go_wp2
      go_loopg [8, 45] nl (fun gg v i wr2 => ∃ j : Nat, j ≤ nl ∧ nl - j ≤ gg ∧ i = .int .i64 j ∧ Aside (Rows wr2 w.heap.size v (putsL (seenF l t) (ownL (l.take j)))) ∧ Aside (Below w.heap.size w wr2))
      case atStart => exact ⟨0, Nat.zero_le _, by omega, rfl, by show Rows _ _ _ _; rw [HE.out]; exact ST.out, BW.out⟩
      case round =>
        obtain ⟨j, hj, hgg, rfl, ST2, BW2⟩ := hrel
        by_cases hlt2 : j < nl
        · have hltz2 : (j : Int) < (nl : Int) := by omega
          obtain ⟨y, hy⟩ : ∃ y, l[j]? = some y := ⟨_, List.getElem?_eq_getElem (by have := HNL.out; omega)⟩
          have HY : Aside (l[j]? = some y) := hy
          have HM : Aside (y ∈ l) := List.mem_of_getElem? hy
          rcases HLl.out with h0 | ⟨b, off, rfl, hb, hc⟩
          · rw [h0] at hy; simp at hy
          obtain ⟨c0, c1, c2, c3⟩ := Lies.cells hc hb BW2.out hy
          clear hc hy
          by_cases hk4 : y.kind = 4
          · have HE2 : Aside (putsL (seenF l t) (ownL (l.take (j + 1))) = putsL (seenF l t) (ownL (l.take j))) := puts_skip HY.out hk4
            go_wp2
            go_roundg (nl - (j + 1))
            case measure => omega
            case rel => exact ⟨j + 1, by omega, by omega, by go_num, by show Rows _ _ _ _; rw [HE2.out]; exact ST2.out.below ((Grown.refl _).alloc _).below, (BW2.out.alloc BW2.out.size _ : Below _ _ _)⟩
          · have hwi : ∀ W v, Rows W w.heap.size v (putsL (seenF l t) (ownL (l.take j))) → Calls Tryz.prog 72 #[v, .agg #[.string y.path, .int .i64 y.kind, .string y.text, .bool false]] W (RowsPost (putsL (seenF l t) (ownL (l.take (j + 1)))) W) := fun W v hv => by
              obtain ⟨p', c', rfl, hL', _, _⟩ := hv.form
              rw [puts_own HS.out HY.out hk4]
              refine refWith_wide _ (clearE y) p' c' W hL' (puts_allR _ _ (fun x hx => HF.out x (List.mem_filter.1 hx).1) (fun x hx => ?_)) (HFl.out y HM.out) ?_
              · obtain ⟨z, hz, _, rfl⟩ := mem_ownL.1 hx
                exact HFl.out z (List.mem_of_mem_take hz)
              · have h1 := puts_leR (ownL (l.take j)) (seenF l t) HS.out
                have h2 := own_take_len l j
                have h3 : (seenF l t).length ≤ t.length := List.length_filter_le _ _
                have := HN.out
                omega
            go_wp2_with (go_at_call 72; refine (hwi _ _ (ST2.out.below ((Grown.refl _).alloc _).below)).mono ?_; clear hwi; rintro rr w5 ⟨⟨v5, rfl, hR5⟩, hN5⟩; have HR5 : Aside (Rows w5 w.heap.size v5 (putsL (seenF l t) (ownL (l.take (j + 1))))) := hR5.mono (BW2.out.alloc BW2.out.size _).size; have HB5 : Aside (Below w.heap.size w w5) := Below.onto (BW2.out.alloc BW2.out.size _) hN5; clear hR5 hN5)
            go_roundg (nl - (j + 1))
            case measure => omega
            case rel => exact ⟨j + 1, by omega, by omega, by go_num, HR5.out, HB5.out⟩
        · have hltz2 : ¬ (j : Int) < (nl : Int) := by omega
          have ST3 := ST2.out
          rw [List.take_of_length_le (by have := HNL.out; omega)] at ST3
          have HR3 : Aside (Rows _ w.heap.size _ (putsL (seenF l t) (ownL l))) := ST3
          obtain ⟨p9, c9, hv9, hL9, hc9, hn9⟩ := ST3.form
          subst hv9
          obtain ⟨N, hNN⟩ : ∃ N, N = (putsL (seenF l t) (ownL l)).length := ⟨_, rfl⟩
          have HNN : Aside (N = (putsL (seenF l t) (ownL l)).length) := hNN
          rw [← hNN] at hc9
          rw [← hNN]
          by_cases h80 : 80 < N
          · have h80z : (80 : Int) < (N : Int) := by omega
            clear hL9 hn9 HR3 hNN
            go_wp2
            go_ret2
            exact .inl ⟨by have := HNN.out; omega, TreePost.none BW2.out⟩
          · have h80z : ¬ (80 : Int) < (N : Int) := by omega
            clear hNN
            have H9 : Aside (Lies _ p9 (putsL (seenF l t) (ownL l)) ∧ (p9 = none → c9 = 0)) := ⟨hL9, hn9⟩
            clear hL9 hn9
            go_wp2
            go_ret2
            exact .inr ⟨by have := HNN.out; omega, p9, c9, by rw [← HNN.out]; rfl, H9.out.1, by rw [← HNN.out]; exact hc9, H9.out.2, BW2.out⟩
theorem seenF_eq {l t : List Ent} (hr : Right true l) : seenF l t = t.filter fun e => !hidesL l e.p := by
  unfold seenF
  exact List.filter_congr fun x _ => by rw [refHid_eq hr]
theorem refOver_any (l t : List Ent) (pl p : Option Addr) (capl cap : Nat) (w : World) (hLl : Lies w pl l) (hL : Lies w p t) (hFl : ∀ e ∈ l, e.path.size ≤ 1048576 ∧ e.text.size ≤ 1048576) (hF : ∀ e ∈ t, e.path.size ≤ 1048576 ∧ e.text.size ≤ 1048576) (hnl : l.length < 4611686018427387904) (hn : t.length < 4611686018427387904) (hcapl : l.length ≤ capl) (hcap : t.length ≤ cap) :
    Calls Tryz.prog 50 #[.slice pl l.length capl, .slice p t.length cap] w (TreePost (overErr l t) (if overErr l t = 0 then overL l t else []) w) := by
  have hwl : WrB w pl l.length capl true (faultL true l).1 ((faultL true l).2 : Nat) := fun W hB => refWrong_any l true pl capl W (hLl.kept hB) hFl hnl hcapl
  have hwr : WrB w p t.length cap false (faultL false t).1 ((faultL false t).2 : Nat) := fun W hB => refWrong_any t false p cap W (hL.kept hB) hF hn hcap
  by_cases h1 : (faultL true l).1 = 0
  · have hRl := faultL_zero.1 h1
    rw [faultL_right hRl] at hwl
    have hwl : WrB w pl l.length capl true 0 0 := hwl
    by_cases h2 : (faultL false t).1 = 0
    · have hRt := faultL_zero.1 h2
      rw [faultL_right hRt] at hwr
      have hwr : WrB w p t.length cap false 0 0 := hwr
      have hl80 := hRl.len
      have ht80 := hRt.len
      have heq : putsL (seenF l t) (ownL l) = overL l t := by rw [seenF_eq hRl]; exact over_ref hRl.sorted hRt.sorted (fun e he => hRt.ne he)
      have hlen : (putsL (seenF l t) (ownL l)).length = overN l t := by rw [heq, over_len hRl.sorted hRt.sorted]
      have hE : overErr l t = if 80 < overN l t then 5 else 0 := by rw [overErr, if_pos h1, if_pos h2]
      refine (roW_3 l t pl p l.length capl t.length cap w hLl hL rfl rfl hl80 ht80 (fun e he => (hF e he).1) (fun e he => (hFl e he).1) hRt.sorted hwl hwr (fun y W hy hB => refHides_any l y.path pl capl W (hLl.kept hB) hnl (by have := (hF y hy).1; omega))).mono ?_
      rintro r w' (⟨h3, h⟩ | ⟨h3, h⟩)
      · rw [hlen] at h3
        rw [hE, if_pos h3, if_neg (by decide)]
        exact h
      · rw [hlen] at h3
        rw [hE, if_neg h3, if_pos rfl, ← heq]
        exact h
    · have hE : overErr l t = (faultL false t).1 := by rw [overErr, if_pos h1, if_neg h2]
      rw [hE, if_neg h2]
      exact roW_2 pl p l.length capl t.length cap w hwl _ _ h2 hwr
  · have hE : overErr l t = (faultL true l).1 := by rw [overErr, if_neg h1]
    rw [hE, if_neg h1]
    exact roW_1 pl p l.length capl t.length cap w _ _ h1 hwl
end Go.Proofs.YtampldoimpfjgaaGreatDoor
namespace Go.Proofs.YtampldoimpfjgaaGreatDoor
open Go.RowKit PM Go.Sort
set_option linter.unusedVariables false

theorem drop_last {ls : List Lay} {k j : Nat} {x : Lay} (hj : j = ls.length - 1 - k) (hk : k < ls.length) (hx : ls[j]? = some x) : ls.drop (ls.length - (k + 1)) = x :: ls.drop (ls.length - k) := by
  obtain ⟨h1, h2⟩ := List.getElem?_eq_some_iff.1 hx
  have e1 : ls.length - (k + 1) = j := by omega
  have e2 : ls.length - k = j + 1 := by omega
  rw [e1, e2, List.drop_eq_getElem_cons h1, h2]
theorem right_small {t : List Ent} (h : Right false t) : ∀ e ∈ t, e.path.size ≤ 1048576 ∧ e.text.size ≤ 1048576 := fun e he => by
  have hw := h.each e he
  have h1 := clean_size (wrongE_clean hw)
  have h2 : e.text.size ≤ 100 := by
    unfold wrongE at hw
    split at hw
    · cases hw
    · split at hw
      · cases hw
      · split at hw
        · cases hw
        · omega
  omega
set_option maxHeartbeats 4000000 in
set_option maxRecDepth 100000 in
theorem rmW_many (n : Nat) (h5 : 5 < n) (p : Option Addr) (cap : Nat) (w : World) : Calls Tryz.prog 19 #[.slice p n cap] w (TreePost 5 [] w) := by
  have h5z : (5 : Int) < (n : Int) := by omega
  go_enter Tryz.func19, Tryz.ntmps19
  go_wp2
  go_ret2
  exact TreePost.none (Below.refl _ _)
set_option maxHeartbeats 8000000 in
set_option maxRecDepth 100000 in
theorem rmW_few (ls : List Lay) (p : Option Addr) (cap : Nat) (w : World) (hT : LiesT w p ls) (hOK : ∀ x ∈ ls, LayOK w x) (hsm : ∀ x ∈ ls, ∀ e ∈ x.es, e.path.size ≤ 1048576 ∧ e.text.size ≤ 1048576) (h5 : ls.length ≤ 5) :
    Calls Tryz.prog 19 #[.slice p ls.length cap] w (TreePost (mergeF (ls.map (·.es))).1 (mergeF (ls.map (·.es))).2 w) := by
  have HT : Aside (LiesT w p ls) := hT
  have HOK : Aside (∀ x ∈ ls, LayOK w x) := hOK
  have HSM : Aside (∀ x ∈ ls, ∀ e ∈ x.es, e.path.size ≤ 1048576 ∧ e.text.size ≤ 1048576) := hsm
  clear hT hOK hsm
  obtain ⟨n, hnl⟩ : ∃ n, n = ls.length := ⟨_, rfl⟩
  have HN : Aside (n = ls.length) := hnl
  rw [← hnl] at h5 ⊢
  clear hnl
  have h5z : ¬ (5 : Int) < (n : Int) := by omega
  go_enter Tryz.func19, Tryz.ntmps19
  go_wp2
  go_loopg [4, 13] n (fun gg v i wr => ∃ (k : Nat) (pT : Option Addr) (lT cT : Nat) (R : List Ent), k ≤ n ∧ n - k ≤ gg ∧ i = .int .i64 k ∧ v = .slice pT lT cT ∧ Aside (lT = R.length) ∧ lT ≤ cT ∧ Aside (mergeF ((ls.drop (ls.length - k)).map (·.es)) = (0, R)) ∧ Aside (Lies wr pT R ∧ (pT = none → cT = 0)) ∧ Aside (Below w.heap.size w wr))
  case atStart => exact ⟨0, none, 0, 0, [], Nat.zero_le _, by omega, rfl, rfl, rfl, Nat.le_refl _, by show _ = _; simp [mergeF], ⟨Lies.nil _ _, fun _ => rfl⟩, Below.refl _ _⟩
  case round =>
    obtain ⟨k, pT, lT, cT, R, hk, hgg, rfl, rfl, HLT, hcT, ME, LI, BW⟩ := hrel
    by_cases hlt : k < n
    · have hltz : (k : Int) < (n : Int) := by omega
      obtain ⟨j, hj⟩ : ∃ j, j = n - 1 - k := ⟨_, rfl⟩
      obtain ⟨x, hx⟩ : ∃ x, ls[j]? = some x := ⟨_, List.getElem?_eq_getElem (by have := HN.out; omega)⟩
      have hjz : (n : Int) - 1 - (k : Int) = (j : Int) := by omega
      have hjn : j < n := by omega
      have hjnz : (j : Int) < (n : Int) := by omega
      have hj0 : (0 : Int) ≤ (j : Int) := by omega
      have hw1 : IntKind.i64.wrap ((n : Int) - 1) = (n : Int) - 1 := by simp [IntKind.wrap, IntKind.bits, IntKind.signed]; omega
      have hw2 : IntKind.i64.wrap (j : Int) = (j : Int) := by simp [IntKind.wrap, IntKind.bits, IntKind.signed]; omega
      have HX : Aside (ls[j]? = some x) := hx
      have hxm := List.mem_of_getElem? hx
      have HD : Aside (ls.drop (ls.length - (k + 1)) = x :: ls.drop (ls.length - k)) := drop_last (by have := HN.out; omega) (by have := HN.out; omega) hx
      clear hj
      rcases HT.out with h0 | ⟨b, off, rfl, hb, hc⟩
      · rw [h0] at hx; simp at hx
      have c0 := (BW.out.cell (p := ⟨b, off + j, none⟩) hb).trans (hc j x hx)
      clear hc hx
      have hr : Right false R := by
        have := mergeF_right (ls := (ls.drop (ls.length - k)).map (·.es)) (by rw [ME.out])
        rw [ME.out] at this
        exact this
      have hxo := (HOK.out x hxm).kept BW.out
      have hov := refOver_any x.es R x.ad pT x.cap cT _ hxo.lies LI.out.1 (HSM.out x hxm) (right_small hr) hxo.small (by have := hr.len; omega) hxo.cap (by have := HLT.out; omega)
      have HM : Aside (mergeF ((ls.drop (ls.length - (k + 1))).map (·.es)) = (overErr x.es R, if overErr x.es R = 0 then overL x.es R else [])) := by
        show _ = _
        rw [HD.out, List.map_cons, mergeF_ok (by rw [ME.out]), ME.out]
      rw [← HLT.out] at hov
      generalize overErr x.es R = er at hov HM
      obtain ⟨xa, xc, xe⟩ := x
      obtain ⟨xn, hxn⟩ : ∃ xn, xn = xe.length := ⟨_, rfl⟩
      simp only at hov c0
      rw [← hxn] at hov c0
      clear hxn hxo hr
      by_cases her : er = 0
      · subst her
        rw [if_pos rfl] at hov HM
        generalize overL _ R = R2 at hov HM
        go_wp2_with (go_at_call 50; refine hov.mono ?_; clear hov; rintro rr w2 ⟨p2, c2, rfl, hL2, hc2, hn2, hN⟩; have H2 : Aside (Lies w2 p2 R2 ∧ (p2 = none → c2 = 0)) := ⟨hL2, hn2⟩; have HB2 : Aside (Below w.heap.size w w2) := Below.onto BW.out hN; clear hL2 hn2 hN)
        go_roundg (n - (k + 1))
        case measure => omega
        case rel => exact ⟨k + 1, p2, R2.length, c2, R2, by omega, by omega, by go_num, rfl, rfl, hc2, HM.out, H2.out, HB2.out⟩
      · rw [if_neg her] at hov HM
        have HALL : Aside (mergeF (ls.map (·.es)) = (er, [])) := by
          show _ = _
          have e1 : ls.map (·.es) = (ls.take (ls.length - (k + 1))).map (·.es) ++ (ls.drop (ls.length - (k + 1))).map (·.es) := by rw [← List.map_append, List.take_append_drop]
          rw [e1, mergeF_app (by rw [HM.out]; exact her), HM.out]
        go_wp2_with (go_at_call 50; refine hov.mono ?_; clear hov; rintro rr w2 ⟨p2, c2, rfl, hL2, hc2, hn2, hN⟩; have HB2 : Aside (Below w.heap.size w w2) := Below.onto BW.out hN; clear hL2 hn2 hN)
        go_ret2
        rw [HALL.out]
        exact TreePost.none HB2.out
    · have hltz : ¬ (k : Int) < (n : Int) := by omega
      have HALL : Aside (mergeF (ls.map (·.es)) = (0, R)) := by
        show _ = _
        have := ME.out
        rw [show ls.length - k = 0 by have := HN.out; omega, List.drop_zero] at this
        exact this
      go_wp2
      go_ret2
      rw [HALL.out]
      exact ⟨pT, cT, by rw [← HLT.out]; rfl, LI.out.1, by rw [← HLT.out]; exact hcT, LI.out.2, BW.out⟩
theorem refMerge_any (ls : List Lay) (p : Option Addr) (cap : Nat) (w : World) (hT : LiesT w p ls) (hOK : ∀ x ∈ ls, LayOK w x) (hsm : ∀ x ∈ ls, ∀ e ∈ x.es, e.path.size ≤ 1048576 ∧ e.text.size ≤ 1048576) :
    Calls Tryz.prog 19 #[.slice p ls.length cap] w (TreePost (mergeL (ls.map (·.es))).1 (mergeL (ls.map (·.es))).2 w) := by
  unfold mergeL
  rw [List.length_map]
  by_cases h5 : 5 < ls.length
  · rw [if_pos h5]
    exact rmW_many ls.length h5 p cap w
  · rw [if_neg h5]
    exact rmW_few ls p cap w hT hOK hsm (by omega)
end Go.Proofs.YtampldoimpfjgaaGreatDoor
