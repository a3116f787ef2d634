/-
  What the document's own answers traceref1.Put and traceref1.Remove answer.
-/
import Derived.Test.YtampldoimpfjgaaDoorRTWalks5
namespace Go.Proofs.YtampldoimpfjgaaDoor
open Go.RowKit PM Go.Sort
set_option linter.unusedVariables false

/-- The box of an entry, behind a call. -/
theorem box4 {w W w1 : World} {e : Ent} (h : Below (w.heap.size + 1) (w.alloc (.cells #[.string e.path, .int .i64 e.kind, .string e.text, .bool e.opq] 38)) W) (g : Below W.heap.size W w1) :
    Below (w.heap.size + 1) (w.alloc (.cells #[.string e.path, .int .i64 e.kind, .string e.text, .bool e.opq] 38)) w1 ∧ w.heap.size ≠ w1.heap.size ∧ w.heap.size < w1.heap.size ∧
    w1.cell? ⟨w.heap.size, 0, none⟩ = some (.string e.path) ∧ w1.cell? ⟨w.heap.size, 1, none⟩ = some (.int .i64 e.kind) ∧ w1.cell? ⟨w.heap.size, 2, none⟩ = some (.string e.text) ∧ w1.cell? ⟨w.heap.size, 3, none⟩ = some (.bool e.opq) := by
  have hB := up1 h g
  have hs := hB.size
  simp at hs
  obtain ⟨⟨a, b, c, d⟩, _⟩ := new4 (Nat.lt_succ_self _) hB
  exact ⟨hB, by omega, by omega, a, b, c, d⟩
theorem getL_cases (t : List Ent) (q : List UInt8) : (getL t q = none ∧ noDirL t q = 6) ∨ (∃ x, getL t q = some x ∧ ¬ x.kind = 2 ∧ noDirL t q = 10) ∨ (∃ x, getL t q = some x ∧ x.kind = 2 ∧ noDirL t q = 0) := by
  unfold noDirL
  cases h : getL t q with
  | none => exact .inl ⟨rfl, rfl⟩
  | some x =>
    by_cases hk : x.kind = 2
    · exact .inr (.inr ⟨x, rfl, hk, by simp [hk]⟩)
    · exact .inr (.inl ⟨x, rfl, hk, by simp [hk]⟩)
theorem putAsk_1 {t : List Ent} {e : Ent} (h : ¬ (faultL false t).1 = 0) : putErr t e = (faultL false t).1 := by
  have : putAsk t e = (faultL false t).1 := by rw [putAsk, orL, if_neg h]
  rw [putErr_asked (by rw [this]; exact h), this]
theorem putAsk_2 {t : List Ent} {e : Ent} (h0 : (faultL false t).1 = 0) (h : ¬ wrongE e false = 0) : putErr t e = wrongE e false := by
  have : putAsk t e = wrongE e false := by rw [putAsk, orL, if_pos h0, orL, if_neg h]
  rw [putErr_asked (by rw [this]; exact h), this]
theorem putAsk_3 {t : List Ent} {e : Ent} (h0 : (faultL false t).1 = 0) (h1 : wrongE e false = 0) : putAsk t e = noDirL t (dirOf e.p) := by
  rw [putAsk, orL, if_pos h0, orL, if_pos h1, orL]
  split
  · rename_i h; rw [h]; rfl
  · rfl

theorem rows_end {w w6 : World} {v : Value} {r l : List Ent} (h : Rows w6 w.heap.size v r) (hr : r = l) (hB : Below w.heap.size w w6) : TreePost 0 l w (.returned (.tuple #[v, .int .i64 0])) w6 := by
  subst hr
  obtain ⟨p, c, rfl, h1, h2, h3⟩ := h.form
  exact ⟨p, c, rfl, h1, h2, h3, hB⟩
abbrev PutWr (w : World) (p : Option Addr) (n cap : Nat) (f1 f2 : Int) : Prop := ∀ W, Below w.heap.size w W → Calls Tryd.prog 30 #[.slice p n cap, .bool false] W fun r w' => r = .returned (.agg #[.int .i64 f1, .int .i64 f2]) ∧ Below W.heap.size W w'
abbrev PutWe (e : Ent) (r2 : Int) : Prop := ∀ W, Calls Tryd.prog 57 #[.agg #[.string e.path, .int .i64 e.kind, .string e.text, .bool e.opq], .bool false] W fun r w' => r = .returned (.int .i64 r2) ∧ Below W.heap.size W w'
abbrev RefCu (s : ByteArray) : Prop := ∀ W, Calls Tryd.prog 21 #[.string s] W fun e w' => (∃ d n : ByteArray, e = .returned (.tuple #[.string d, .string n]) ∧ d.data.toList = (cutL s.data.toList).1 ∧ n.data.toList = (cutL s.data.toList).2) ∧ Grown W w'
abbrev RefGd (w : World) (s : ByteArray) (p : Option Addr) (n cap : Nat) (xp : ByteArray) (xk : Int) (xt : ByteArray) (xo bb : Bool) : Prop := ∀ W (d : ByteArray), d.data.toList = (cutL s.data.toList).1 → Below w.heap.size w W → Calls Tryd.prog 32 #[.slice p n cap, .string d] W fun r w' => r = .returned (.tuple #[.agg #[.string xp, .int .i64 xk, .string xt, .bool xo], .bool bb]) ∧ Below W.heap.size W w'
abbrev RefGe (w : World) (s : ByteArray) (p : Option Addr) (n cap : Nat) (zp : ByteArray) (zk : Int) (zt : ByteArray) (zo zb : Bool) : Prop := ∀ W, Below w.heap.size w W → Calls Tryd.prog 32 #[.slice p n cap, .string s] W fun r w' => r = .returned (.tuple #[.agg #[.string zp, .int .i64 zk, .string zt, .bool zo], .bool zb]) ∧ Below W.heap.size W w'
abbrev RefWi (w : World) (e : Ent) (p : Option Addr) (n cap : Nat) (rl : List Ent) : Prop := ∀ W, Below w.heap.size w W → Calls Tryd.prog 66 #[.slice p n cap, .agg #[.string e.path, .int .i64 e.kind, .string e.text, .bool e.opq]] W (RowsPost rl W)

set_option maxHeartbeats 8000000 in
set_option maxRecDepth 100000 in
theorem putW_1 (e : Ent) (p : Option Addr) (n cap : Nat) (w : World) (hn : n < 4611686018427387904) (hcap : n ≤ cap) (f1 : Int) (f2 : Nat) (h1 : ¬ f1 = 0) (hwr : PutWr w p n cap f1 (f2 : Int)) :
    Calls Tryd.prog 36 #[.slice p n cap, .agg #[.string e.path, .int .i64 e.kind, .string e.text, .bool e.opq]] w (TreePost f1 [] w) := by
  have HBX : Aside (Below (w.heap.size + 1) (w.alloc (.cells #[.string e.path, .int .i64 e.kind, .string e.text, .bool e.opq] 38)) (w.alloc (.cells #[.string e.path, .int .i64 e.kind, .string e.text, .bool e.opq] 38))) := Below.refl _ _
  go_enter Tryd.func36, Tryd.ntmps36
  go_wp2_with (go_at_call 30; refine (hwr _ (base1 HBX.out)).mono ?_; clear hwr; rintro rr w1 ⟨rfl, hN⟩; obtain ⟨hB, hne, hlt, e0, e1, e2, e3⟩ := box4 HBX.out hN; clear hN; replace hB := hB.alloc (Nat.succ_le_of_lt hlt) (.cells #[.int .i64 f1, .int .i64 (f2 : Int)] 40))
  go_quiet (fail)
  replace hB := below_drewN hB nq
  go_wp2
  go_ret2
  exact TreePost.none (base1 hB)
set_option maxHeartbeats 8000000 in
set_option maxRecDepth 100000 in
theorem putW_2 (e : Ent) (p : Option Addr) (n cap : Nat) (w : World) (hn : n < 4611686018427387904) (hcap : n ≤ cap) (hwr : PutWr w p n cap 0 0) (r2 : Int) (h2 : ¬ r2 = 0) (hwe : PutWe e r2) :
    Calls Tryd.prog 36 #[.slice p n cap, .agg #[.string e.path, .int .i64 e.kind, .string e.text, .bool e.opq]] w (TreePost r2 [] w) := by
  have HBX : Aside (Below (w.heap.size + 1) (w.alloc (.cells #[.string e.path, .int .i64 e.kind, .string e.text, .bool e.opq] 38)) (w.alloc (.cells #[.string e.path, .int .i64 e.kind, .string e.text, .bool e.opq] 38))) := Below.refl _ _
  go_enter Tryd.func36, Tryd.ntmps36
  go_wp2_with (first
    | (go_at_call 30; refine (hwr _ (base1 HBX.out)).mono ?_; clear hwr; rintro rr w1 ⟨rfl, hN⟩; obtain ⟨hB, hne, hlt, e0, e1, e2, e3⟩ := box4 HBX.out hN; clear hN; replace hB := hB.alloc (Nat.succ_le_of_lt hlt) (.cells #[.int .i64 0, .int .i64 0] 40))
    | (go_at_call 57; refine (hwe _).mono ?_; clear hwe; rintro rr w2 ⟨rfl, hN⟩; have HB2 : Aside (Below w.heap.size w w2) := base1 (up1 hB hN); clear hN))
  go_ret2
  exact TreePost.none HB2.out
set_option maxHeartbeats 8000000 in
set_option maxRecDepth 100000 in
theorem putW_3 (e : Ent) (p : Option Addr) (n cap : Nat) (w : World) (hn : n < 4611686018427387904) (hcap : n ≤ cap) (hwr : PutWr w p n cap 0 0) (hwe : PutWe e 0) (hcu : RefCu e.path) (xp xt : ByteArray) (xk : Int) (xo : Bool) (hge : RefGd w e.path p n cap xp xk xt xo false)  :
    Calls Tryd.prog 36 #[.slice p n cap, .agg #[.string e.path, .int .i64 e.kind, .string e.text, .bool e.opq]] w (TreePost 6 [] w) := by
  have HBX : Aside (Below (w.heap.size + 1) (w.alloc (.cells #[.string e.path, .int .i64 e.kind, .string e.text, .bool e.opq] 38)) (w.alloc (.cells #[.string e.path, .int .i64 e.kind, .string e.text, .bool e.opq] 38))) := Below.refl _ _
  go_enter Tryd.func36, Tryd.ntmps36
  go_wp2_with (first
    | (go_at_call 30; refine (hwr _ (base1 HBX.out)).mono ?_; clear hwr; rintro rr w1 ⟨rfl, hN⟩; obtain ⟨hB, hne, hlt, e0, e1, e2, e3⟩ := box4 HBX.out hN; clear hN; replace hB := hB.alloc (Nat.succ_le_of_lt hlt) (.cells #[.int .i64 0, .int .i64 0] 40))
    | (go_at_call 57; refine (hwe _).mono ?_; clear hwe; rintro rr w2 ⟨rfl, hN⟩; clear hne hlt e0 e1 e2 e3; obtain ⟨hB2, hne, hlt, e0, e1, e2, e3⟩ := box4 hB hN; clear hN hB)
    | (go_at_call 21; refine (hcu _).mono ?_; clear hcu; rintro rr w3 ⟨⟨d, nm, rfl, hd, hnm⟩, hG3⟩; clear hnm hne hlt e0 e1 e2 e3; obtain ⟨hB3, hne, hlt, e0, e1, e2, e3⟩ := box4 hB2 hG3.below; clear hG3 hB2)
    | (go_at_call 32; refine (hge _ d hd (base1 hB3)).mono ?_; clear hge; rintro rr w4 ⟨rfl, hN⟩; clear hne hlt e0 e1 e2 e3; obtain ⟨hB4, hne, hlt, e0, e1, e2, e3⟩ := box4 hB3 hN; clear hN hB3; replace hB4 := hB4.alloc (Nat.succ_le_of_lt hlt) (.cells #[.string xp, .int .i64 xk, .string xt, .bool xo] 38)))
  go_ret2
  exact TreePost.none (base1 hB4)
set_option maxHeartbeats 8000000 in
set_option maxRecDepth 100000 in
theorem putW_4 (e : Ent) (p : Option Addr) (n cap : Nat) (w : World) (hn : n < 4611686018427387904) (hcap : n ≤ cap) (hwr : PutWr w p n cap 0 0) (hwe : PutWe e 0) (hcu : RefCu e.path) (xp xt : ByteArray) (xk : Int) (xo : Bool) (hge : RefGd w e.path p n cap xp xk xt xo true) (hkk : ¬ xk = 2) :
    Calls Tryd.prog 36 #[.slice p n cap, .agg #[.string e.path, .int .i64 e.kind, .string e.text, .bool e.opq]] w (TreePost 10 [] w) := by
  have HBX : Aside (Below (w.heap.size + 1) (w.alloc (.cells #[.string e.path, .int .i64 e.kind, .string e.text, .bool e.opq] 38)) (w.alloc (.cells #[.string e.path, .int .i64 e.kind, .string e.text, .bool e.opq] 38))) := Below.refl _ _
  go_enter Tryd.func36, Tryd.ntmps36
  go_wp2_with (first
    | (go_at_call 30; refine (hwr _ (base1 HBX.out)).mono ?_; clear hwr; rintro rr w1 ⟨rfl, hN⟩; obtain ⟨hB, hne, hlt, e0, e1, e2, e3⟩ := box4 HBX.out hN; clear hN; replace hB := hB.alloc (Nat.succ_le_of_lt hlt) (.cells #[.int .i64 0, .int .i64 0] 40))
    | (go_at_call 57; refine (hwe _).mono ?_; clear hwe; rintro rr w2 ⟨rfl, hN⟩; clear hne hlt e0 e1 e2 e3; obtain ⟨hB2, hne, hlt, e0, e1, e2, e3⟩ := box4 hB hN; clear hN hB)
    | (go_at_call 21; refine (hcu _).mono ?_; clear hcu; rintro rr w3 ⟨⟨d, nm, rfl, hd, hnm⟩, hG3⟩; clear hnm hne hlt e0 e1 e2 e3; obtain ⟨hB3, hne, hlt, e0, e1, e2, e3⟩ := box4 hB2 hG3.below; clear hG3 hB2)
    | (go_at_call 32; refine (hge _ d hd (base1 hB3)).mono ?_; clear hge; rintro rr w4 ⟨rfl, hN⟩; clear hne hlt e0 e1 e2 e3; obtain ⟨hB4, hne, hlt, e0, e1, e2, e3⟩ := box4 hB3 hN; clear hN hB3; replace hB4 := hB4.alloc (Nat.succ_le_of_lt hlt) (.cells #[.string xp, .int .i64 xk, .string xt, .bool xo] 38)))
  go_ret2
  exact TreePost.none (base1 hB4)
end Go.Proofs.YtampldoimpfjgaaDoor
namespace Go.Proofs.YtampldoimpfjgaaDoor
open Go.RowKit PM Go.Sort
set_option linter.unusedVariables false

set_option maxHeartbeats 8000000 in
set_option maxRecDepth 100000 in
theorem putW_5 (e : Ent) (p : Option Addr) (n cap : Nat) (w : World) (hn : n < 4611686018427387904) (hcap : n ≤ cap) (hwr : PutWr w p n cap 0 0) (hwe : PutWe e 0) (hcu : RefCu e.path) (xp xt : ByteArray) (xk : Int) (xo : Bool) (hge : RefGd w e.path p n cap xp 2 xt xo true) (zp zt : ByteArray) (zk : Int) (zo : Bool) (hg2 : RefGe w e.path p n cap zp zk zt zo true) (hkz : (zk == 2) = true) (hke : (e.kind == 2) = true) (rl : List Ent) (hwi : RefWi w e p n cap rl)  :
    Calls Tryd.prog 36 #[.slice p n cap, .agg #[.string e.path, .int .i64 e.kind, .string e.text, .bool e.opq]] w (TreePost 0 rl w) := by
  have HBX : Aside (Below (w.heap.size + 1) (w.alloc (.cells #[.string e.path, .int .i64 e.kind, .string e.text, .bool e.opq] 38)) (w.alloc (.cells #[.string e.path, .int .i64 e.kind, .string e.text, .bool e.opq] 38))) := Below.refl _ _
  have hkb : decide (e.kind = 2) = true := hke
  have hkd : decide (zk = 2) = true := hkz
  go_enter Tryd.func36, Tryd.ntmps36
  go_wp2_with (first
    | (go_at_call 30; refine (hwr _ (base1 HBX.out)).mono ?_; clear hwr; rintro rr w1 ⟨rfl, hN⟩; obtain ⟨hB, hne, hlt, e0, e1, e2, e3⟩ := box4 HBX.out hN; clear hN; replace hB := hB.alloc (Nat.succ_le_of_lt hlt) (.cells #[.int .i64 0, .int .i64 0] 40))
    | (go_at_call 57; refine (hwe _).mono ?_; clear hwe; rintro rr w2 ⟨rfl, hN⟩; clear hne hlt e0 e1 e2 e3; obtain ⟨hB2, hne, hlt, e0, e1, e2, e3⟩ := box4 hB hN; clear hN hB)
    | (go_at_call 21; refine (hcu _).mono ?_; clear hcu; rintro rr w3 ⟨⟨d, nm, rfl, hd, hnm⟩, hG3⟩; clear hnm hne hlt e0 e1 e2 e3; obtain ⟨hB3, hne, hlt, e0, e1, e2, e3⟩ := box4 hB2 hG3.below; clear hG3 hB2)
    | (go_at_call 32; refine (hge _ d hd (base1 hB3)).mono ?_; clear hge; rintro rr w4 ⟨rfl, hN⟩; clear hne hlt e0 e1 e2 e3; obtain ⟨hB4, hne, hlt, e0, e1, e2, e3⟩ := box4 hB3 hN; clear hN hB3; replace hB4 := hB4.alloc (Nat.succ_le_of_lt hlt) (.cells #[.string xp, .int .i64 2, .string xt, .bool xo] 38))
    | (go_at_call 32; refine (hg2 _ (base1 hB4)).mono ?_; clear hg2; rintro rr w5 ⟨rfl, hN⟩; clear hne hlt e0 e1 e2 e3; obtain ⟨hB5, hne, hlt, e0, e1, e2, e3⟩ := box4 hB4 hN; clear hN hB4; replace hB5 := hB5.alloc (Nat.succ_le_of_lt hlt) (.cells #[.string zp, .int .i64 zk, .string zt, .bool zo] 38))
    | (go_at_call 66; refine (hwi _ (base1 hB5)).mono ?_; clear hwi; rintro rr w6 ⟨⟨v6, rfl, hR6⟩, hN⟩; have HB6 : Aside (Below w.heap.size w w6) := base1 (up1 hB5 hN); have HR6 : Aside (Rows w6 w.heap.size v6 rl) := hR6.mono (base1 hB5).size; clear hR6 hN))
  go_ret2
  exact rows_end HR6.out rfl HB6.out
end Go.Proofs.YtampldoimpfjgaaDoor
namespace Go.Proofs.YtampldoimpfjgaaDoor
open Go.RowKit PM Go.Sort
set_option linter.unusedVariables false

set_option maxHeartbeats 8000000 in
set_option maxRecDepth 100000 in
theorem putW_6 (e : Ent) (p : Option Addr) (n cap : Nat) (w : World) (hn : n < 4611686018427387904) (hcap : n ≤ cap) (hwr : PutWr w p n cap 0 0) (hwe : PutWe e 0) (hcu : RefCu e.path) (xp xt : ByteArray) (xk : Int) (xo : Bool) (hge : RefGd w e.path p n cap xp 2 xt xo true) (zp zt : ByteArray) (zk : Int) (zo : Bool) (hg2 : RefGe w e.path p n cap zp zk zt zo true) (hkz : (zk == 2) = false) (hke : (e.kind == 2) = false) (rl : List Ent) (hwi : RefWi w e p n cap rl)  :
    Calls Tryd.prog 36 #[.slice p n cap, .agg #[.string e.path, .int .i64 e.kind, .string e.text, .bool e.opq]] w (TreePost 0 rl w) := by
  have HBX : Aside (Below (w.heap.size + 1) (w.alloc (.cells #[.string e.path, .int .i64 e.kind, .string e.text, .bool e.opq] 38)) (w.alloc (.cells #[.string e.path, .int .i64 e.kind, .string e.text, .bool e.opq] 38))) := Below.refl _ _
  have hkb : decide (e.kind = 2) = false := hke
  have hkd : decide (zk = 2) = false := hkz
  go_enter Tryd.func36, Tryd.ntmps36
  go_wp2_with (first
    | (go_at_call 30; refine (hwr _ (base1 HBX.out)).mono ?_; clear hwr; rintro rr w1 ⟨rfl, hN⟩; obtain ⟨hB, hne, hlt, e0, e1, e2, e3⟩ := box4 HBX.out hN; clear hN; replace hB := hB.alloc (Nat.succ_le_of_lt hlt) (.cells #[.int .i64 0, .int .i64 0] 40))
    | (go_at_call 57; refine (hwe _).mono ?_; clear hwe; rintro rr w2 ⟨rfl, hN⟩; clear hne hlt e0 e1 e2 e3; obtain ⟨hB2, hne, hlt, e0, e1, e2, e3⟩ := box4 hB hN; clear hN hB)
    | (go_at_call 21; refine (hcu _).mono ?_; clear hcu; rintro rr w3 ⟨⟨d, nm, rfl, hd, hnm⟩, hG3⟩; clear hnm hne hlt e0 e1 e2 e3; obtain ⟨hB3, hne, hlt, e0, e1, e2, e3⟩ := box4 hB2 hG3.below; clear hG3 hB2)
    | (go_at_call 32; refine (hge _ d hd (base1 hB3)).mono ?_; clear hge; rintro rr w4 ⟨rfl, hN⟩; clear hne hlt e0 e1 e2 e3; obtain ⟨hB4, hne, hlt, e0, e1, e2, e3⟩ := box4 hB3 hN; clear hN hB3; replace hB4 := hB4.alloc (Nat.succ_le_of_lt hlt) (.cells #[.string xp, .int .i64 2, .string xt, .bool xo] 38))
    | (go_at_call 32; refine (hg2 _ (base1 hB4)).mono ?_; clear hg2; rintro rr w5 ⟨rfl, hN⟩; clear hne hlt e0 e1 e2 e3; obtain ⟨hB5, hne, hlt, e0, e1, e2, e3⟩ := box4 hB4 hN; clear hN hB4; replace hB5 := hB5.alloc (Nat.succ_le_of_lt hlt) (.cells #[.string zp, .int .i64 zk, .string zt, .bool zo] 38))
    | (go_at_call 66; refine (hwi _ (base1 hB5)).mono ?_; clear hwi; rintro rr w6 ⟨⟨v6, rfl, hR6⟩, hN⟩; have HB6 : Aside (Below w.heap.size w w6) := base1 (up1 hB5 hN); have HR6 : Aside (Rows w6 w.heap.size v6 rl) := hR6.mono (base1 hB5).size; clear hR6 hN))
  go_ret2
  exact rows_end HR6.out rfl HB6.out
end Go.Proofs.YtampldoimpfjgaaDoor
namespace Go.Proofs.YtampldoimpfjgaaDoor
open Go.RowKit PM Go.Sort
set_option linter.unusedVariables false

set_option maxHeartbeats 8000000 in
set_option maxRecDepth 100000 in
theorem putW_7 (e : Ent) (p : Option Addr) (n cap : Nat) (w : World) (hn : n < 4611686018427387904) (hcap : n ≤ cap) (hwr : PutWr w p n cap 0 0) (hwe : PutWe e 0) (hcu : RefCu e.path) (xp xt : ByteArray) (xk : Int) (xo : Bool) (hge : RefGd w e.path p n cap xp 2 xt xo true) (zp zt : ByteArray) (zk : Int) (zo : Bool) (hg2 : RefGe w e.path p n cap zp zk zt zo true) (hkz : (zk == 2) = false) (hke : (e.kind == 2) = true)  :
    Calls Tryd.prog 36 #[.slice p n cap, .agg #[.string e.path, .int .i64 e.kind, .string e.text, .bool e.opq]] w (TreePost 7 [] w) := by
  have HBX : Aside (Below (w.heap.size + 1) (w.alloc (.cells #[.string e.path, .int .i64 e.kind, .string e.text, .bool e.opq] 38)) (w.alloc (.cells #[.string e.path, .int .i64 e.kind, .string e.text, .bool e.opq] 38))) := Below.refl _ _
  have hkb : decide (e.kind = 2) = true := hke
  have hkd : decide (zk = 2) = false := hkz
  go_enter Tryd.func36, Tryd.ntmps36
  go_wp2_with (first
    | (go_at_call 30; refine (hwr _ (base1 HBX.out)).mono ?_; clear hwr; rintro rr w1 ⟨rfl, hN⟩; obtain ⟨hB, hne, hlt, e0, e1, e2, e3⟩ := box4 HBX.out hN; clear hN; replace hB := hB.alloc (Nat.succ_le_of_lt hlt) (.cells #[.int .i64 0, .int .i64 0] 40))
    | (go_at_call 57; refine (hwe _).mono ?_; clear hwe; rintro rr w2 ⟨rfl, hN⟩; clear hne hlt e0 e1 e2 e3; obtain ⟨hB2, hne, hlt, e0, e1, e2, e3⟩ := box4 hB hN; clear hN hB)
    | (go_at_call 21; refine (hcu _).mono ?_; clear hcu; rintro rr w3 ⟨⟨d, nm, rfl, hd, hnm⟩, hG3⟩; clear hnm hne hlt e0 e1 e2 e3; obtain ⟨hB3, hne, hlt, e0, e1, e2, e3⟩ := box4 hB2 hG3.below; clear hG3 hB2)
    | (go_at_call 32; refine (hge _ d hd (base1 hB3)).mono ?_; clear hge; rintro rr w4 ⟨rfl, hN⟩; clear hne hlt e0 e1 e2 e3; obtain ⟨hB4, hne, hlt, e0, e1, e2, e3⟩ := box4 hB3 hN; clear hN hB3; replace hB4 := hB4.alloc (Nat.succ_le_of_lt hlt) (.cells #[.string xp, .int .i64 2, .string xt, .bool xo] 38))
    | (go_at_call 32; refine (hg2 _ (base1 hB4)).mono ?_; clear hg2; rintro rr w5 ⟨rfl, hN⟩; clear hne hlt e0 e1 e2 e3; obtain ⟨hB5, hne, hlt, e0, e1, e2, e3⟩ := box4 hB4 hN; clear hN hB4; replace hB5 := hB5.alloc (Nat.succ_le_of_lt hlt) (.cells #[.string zp, .int .i64 zk, .string zt, .bool zo] 38)))
  go_ret2
  exact TreePost.none (base1 hB5)
end Go.Proofs.YtampldoimpfjgaaDoor
namespace Go.Proofs.YtampldoimpfjgaaDoor
open Go.RowKit PM Go.Sort
set_option linter.unusedVariables false

set_option maxHeartbeats 8000000 in
set_option maxRecDepth 100000 in
theorem putW_8 (e : Ent) (p : Option Addr) (n cap : Nat) (w : World) (hn : n < 4611686018427387904) (hcap : n ≤ cap) (hwr : PutWr w p n cap 0 0) (hwe : PutWe e 0) (hcu : RefCu e.path) (xp xt : ByteArray) (xk : Int) (xo : Bool) (hge : RefGd w e.path p n cap xp 2 xt xo true) (zp zt : ByteArray) (zk : Int) (zo : Bool) (hg2 : RefGe w e.path p n cap zp zk zt zo true) (hkz : (zk == 2) = true) (hke : (e.kind == 2) = false)  :
    Calls Tryd.prog 36 #[.slice p n cap, .agg #[.string e.path, .int .i64 e.kind, .string e.text, .bool e.opq]] w (TreePost 7 [] w) := by
  have HBX : Aside (Below (w.heap.size + 1) (w.alloc (.cells #[.string e.path, .int .i64 e.kind, .string e.text, .bool e.opq] 38)) (w.alloc (.cells #[.string e.path, .int .i64 e.kind, .string e.text, .bool e.opq] 38))) := Below.refl _ _
  have hkb : decide (e.kind = 2) = false := hke
  have hkd : decide (zk = 2) = true := hkz
  go_enter Tryd.func36, Tryd.ntmps36
  go_wp2_with (first
    | (go_at_call 30; refine (hwr _ (base1 HBX.out)).mono ?_; clear hwr; rintro rr w1 ⟨rfl, hN⟩; obtain ⟨hB, hne, hlt, e0, e1, e2, e3⟩ := box4 HBX.out hN; clear hN; replace hB := hB.alloc (Nat.succ_le_of_lt hlt) (.cells #[.int .i64 0, .int .i64 0] 40))
    | (go_at_call 57; refine (hwe _).mono ?_; clear hwe; rintro rr w2 ⟨rfl, hN⟩; clear hne hlt e0 e1 e2 e3; obtain ⟨hB2, hne, hlt, e0, e1, e2, e3⟩ := box4 hB hN; clear hN hB)
    | (go_at_call 21; refine (hcu _).mono ?_; clear hcu; rintro rr w3 ⟨⟨d, nm, rfl, hd, hnm⟩, hG3⟩; clear hnm hne hlt e0 e1 e2 e3; obtain ⟨hB3, hne, hlt, e0, e1, e2, e3⟩ := box4 hB2 hG3.below; clear hG3 hB2)
    | (go_at_call 32; refine (hge _ d hd (base1 hB3)).mono ?_; clear hge; rintro rr w4 ⟨rfl, hN⟩; clear hne hlt e0 e1 e2 e3; obtain ⟨hB4, hne, hlt, e0, e1, e2, e3⟩ := box4 hB3 hN; clear hN hB3; replace hB4 := hB4.alloc (Nat.succ_le_of_lt hlt) (.cells #[.string xp, .int .i64 2, .string xt, .bool xo] 38))
    | (go_at_call 32; refine (hg2 _ (base1 hB4)).mono ?_; clear hg2; rintro rr w5 ⟨rfl, hN⟩; clear hne hlt e0 e1 e2 e3; obtain ⟨hB5, hne, hlt, e0, e1, e2, e3⟩ := box4 hB4 hN; clear hN hB4; replace hB5 := hB5.alloc (Nat.succ_le_of_lt hlt) (.cells #[.string zp, .int .i64 zk, .string zt, .bool zo] 38)))
  go_ret2
  exact TreePost.none (base1 hB5)
end Go.Proofs.YtampldoimpfjgaaDoor
namespace Go.Proofs.YtampldoimpfjgaaDoor
open Go.RowKit PM Go.Sort
set_option linter.unusedVariables false

set_option maxHeartbeats 8000000 in
set_option maxRecDepth 100000 in
theorem putW_9 (e : Ent) (p : Option Addr) (n cap : Nat) (w : World) (hn : n < 4611686018427387904) (hcap : n ≤ cap) (hwr : PutWr w p n cap 0 0) (hwe : PutWe e 0) (hcu : RefCu e.path) (xp xt : ByteArray) (xk : Int) (xo : Bool) (hge : RefGd w e.path p n cap xp 2 xt xo true) (zp zt : ByteArray) (zk : Int) (zo : Bool) (hg2 : RefGe w e.path p n cap zp zk zt zo false) (h8 : 80 ≤ n) :
    Calls Tryd.prog 36 #[.slice p n cap, .agg #[.string e.path, .int .i64 e.kind, .string e.text, .bool e.opq]] w (TreePost 5 [] w) := by
  have HBX : Aside (Below (w.heap.size + 1) (w.alloc (.cells #[.string e.path, .int .i64 e.kind, .string e.text, .bool e.opq] 38)) (w.alloc (.cells #[.string e.path, .int .i64 e.kind, .string e.text, .bool e.opq] 38))) := Below.refl _ _
  have h8z : (80 : Int) ≤ (n : Int) := by omega
  go_enter Tryd.func36, Tryd.ntmps36
  go_wp2_with (first
    | (go_at_call 30; refine (hwr _ (base1 HBX.out)).mono ?_; clear hwr; rintro rr w1 ⟨rfl, hN⟩; obtain ⟨hB, hne, hlt, e0, e1, e2, e3⟩ := box4 HBX.out hN; clear hN; replace hB := hB.alloc (Nat.succ_le_of_lt hlt) (.cells #[.int .i64 0, .int .i64 0] 40))
    | (go_at_call 57; refine (hwe _).mono ?_; clear hwe; rintro rr w2 ⟨rfl, hN⟩; clear hne hlt e0 e1 e2 e3; obtain ⟨hB2, hne, hlt, e0, e1, e2, e3⟩ := box4 hB hN; clear hN hB)
    | (go_at_call 21; refine (hcu _).mono ?_; clear hcu; rintro rr w3 ⟨⟨d, nm, rfl, hd, hnm⟩, hG3⟩; clear hnm hne hlt e0 e1 e2 e3; obtain ⟨hB3, hne, hlt, e0, e1, e2, e3⟩ := box4 hB2 hG3.below; clear hG3 hB2)
    | (go_at_call 32; refine (hge _ d hd (base1 hB3)).mono ?_; clear hge; rintro rr w4 ⟨rfl, hN⟩; clear hne hlt e0 e1 e2 e3; obtain ⟨hB4, hne, hlt, e0, e1, e2, e3⟩ := box4 hB3 hN; clear hN hB3; replace hB4 := hB4.alloc (Nat.succ_le_of_lt hlt) (.cells #[.string xp, .int .i64 2, .string xt, .bool xo] 38))
    | (go_at_call 32; refine (hg2 _ (base1 hB4)).mono ?_; clear hg2; rintro rr w5 ⟨rfl, hN⟩; clear hne hlt e0 e1 e2 e3; obtain ⟨hB5, hne, hlt, e0, e1, e2, e3⟩ := box4 hB4 hN; clear hN hB4; replace hB5 := hB5.alloc (Nat.succ_le_of_lt hlt) (.cells #[.string zp, .int .i64 zk, .string zt, .bool zo] 38)))
  go_ret2
  exact TreePost.none (base1 hB5)
end Go.Proofs.YtampldoimpfjgaaDoor
namespace Go.Proofs.YtampldoimpfjgaaDoor
open Go.RowKit PM Go.Sort
set_option linter.unusedVariables false

set_option maxHeartbeats 8000000 in
set_option maxRecDepth 100000 in
theorem putW_10 (e : Ent) (p : Option Addr) (n cap : Nat) (w : World) (hn : n < 4611686018427387904) (hcap : n ≤ cap) (hwr : PutWr w p n cap 0 0) (hwe : PutWe e 0) (hcu : RefCu e.path) (xp xt : ByteArray) (xk : Int) (xo : Bool) (hge : RefGd w e.path p n cap xp 2 xt xo true) (zp zt : ByteArray) (zk : Int) (zo : Bool) (hg2 : RefGe w e.path p n cap zp zk zt zo false) (h8 : ¬ 80 ≤ n) (rl : List Ent) (hwi : RefWi w e p n cap rl)  :
    Calls Tryd.prog 36 #[.slice p n cap, .agg #[.string e.path, .int .i64 e.kind, .string e.text, .bool e.opq]] w (TreePost 0 rl w) := by
  have HBX : Aside (Below (w.heap.size + 1) (w.alloc (.cells #[.string e.path, .int .i64 e.kind, .string e.text, .bool e.opq] 38)) (w.alloc (.cells #[.string e.path, .int .i64 e.kind, .string e.text, .bool e.opq] 38))) := Below.refl _ _
  have h8z : ¬ (80 : Int) ≤ (n : Int) := by omega
  go_enter Tryd.func36, Tryd.ntmps36
  go_wp2_with (first
    | (go_at_call 30; refine (hwr _ (base1 HBX.out)).mono ?_; clear hwr; rintro rr w1 ⟨rfl, hN⟩; obtain ⟨hB, hne, hlt, e0, e1, e2, e3⟩ := box4 HBX.out hN; clear hN; replace hB := hB.alloc (Nat.succ_le_of_lt hlt) (.cells #[.int .i64 0, .int .i64 0] 40))
    | (go_at_call 57; refine (hwe _).mono ?_; clear hwe; rintro rr w2 ⟨rfl, hN⟩; clear hne hlt e0 e1 e2 e3; obtain ⟨hB2, hne, hlt, e0, e1, e2, e3⟩ := box4 hB hN; clear hN hB)
    | (go_at_call 21; refine (hcu _).mono ?_; clear hcu; rintro rr w3 ⟨⟨d, nm, rfl, hd, hnm⟩, hG3⟩; clear hnm hne hlt e0 e1 e2 e3; obtain ⟨hB3, hne, hlt, e0, e1, e2, e3⟩ := box4 hB2 hG3.below; clear hG3 hB2)
    | (go_at_call 32; refine (hge _ d hd (base1 hB3)).mono ?_; clear hge; rintro rr w4 ⟨rfl, hN⟩; clear hne hlt e0 e1 e2 e3; obtain ⟨hB4, hne, hlt, e0, e1, e2, e3⟩ := box4 hB3 hN; clear hN hB3; replace hB4 := hB4.alloc (Nat.succ_le_of_lt hlt) (.cells #[.string xp, .int .i64 2, .string xt, .bool xo] 38))
    | (go_at_call 32; refine (hg2 _ (base1 hB4)).mono ?_; clear hg2; rintro rr w5 ⟨rfl, hN⟩; clear hne hlt e0 e1 e2 e3; obtain ⟨hB5, hne, hlt, e0, e1, e2, e3⟩ := box4 hB4 hN; clear hN hB4; replace hB5 := hB5.alloc (Nat.succ_le_of_lt hlt) (.cells #[.string zp, .int .i64 zk, .string zt, .bool zo] 38))
    | (go_at_call 66; refine (hwi _ (base1 hB5)).mono ?_; clear hwi; rintro rr w6 ⟨⟨v6, rfl, hR6⟩, hN⟩; have HB6 : Aside (Below w.heap.size w w6) := base1 (up1 hB5 hN); have HR6 : Aside (Rows w6 w.heap.size v6 rl) := hR6.mono (base1 hB5).size; clear hR6 hN))
  go_ret2
  exact rows_end HR6.out rfl HB6.out
end Go.Proofs.YtampldoimpfjgaaDoor
namespace Go.Proofs.YtampldoimpfjgaaDoor
open Go.RowKit PM Go.Sort
set_option linter.unusedVariables false

theorem refPut_any (t : List Ent) (e : Ent) (p : Option Addr) (cap : Nat) (w : World) (hL : Lies w p t) (hF : ∀ e ∈ t, e.path.size ≤ 1048576 ∧ e.text.size ≤ 1048576) (hn : t.length < 4611686018427387904) (hcap : t.length ≤ cap)
    (he : e.path.size ≤ 1048576) (het : e.text.size ≤ 1048576) :
    Calls Tryd.prog 36 #[.slice p t.length cap, .agg #[.string e.path, .int .i64 e.kind, .string e.text, .bool e.opq]] w (TreePost (putErr t e) (if putErr t e = 0 then putL t e else []) w) := by
  have hwr : PutWr w p t.length cap (faultL false t).1 ((faultL false t).2 : Nat) := fun W hB => refWrong_any t false p cap W (hL.kept hB) hF hn hcap
  have hwe : PutWe e (wrongE e false) := fun W => refWrongEntry_any e false W (by omega) (by unfold maxLen; omega)
  by_cases h1 : (faultL false t).1 = 0
  · have HR : Right false t := faultL_zero.1 h1
    have hfe := faultL_right HR
    have h80 := HR.len
    rw [hfe] at hwr
    have hwr : PutWr w p t.length cap 0 0 := hwr
    by_cases h2 : wrongE e false = 0
    · have HW2 := h2
      rw [h2] at hwe
      have HA := putAsk_3 h1 h2
      have hcu : RefCu e.path := fun W => refCut_grown e.path W (by omega)
      have hwi : RefWi w e p t.length cap (withL t e) := fun W hB => refWith_any t e p cap W (hL.kept hB) (fun x hx => (hF x hx).1) he h80
      rw [withL_put HR.sorted e] at hwi
      have hge : ∀ x : Ent, ∀ bb, (getL t (dirOf e.p)).getD zeroE = x → (getL t (dirOf e.p)).isSome = bb → RefGd w e.path p t.length cap x.path x.kind x.text x.opq bb := fun x bb hxx hbb W d hd hB => by
        have hd' : d.data.toList = dirOf e.p := hd
        exact refGet_any t d p cap W (hL.kept hB) hn x bb (by rw [hd']; exact hxx) (by rw [hd']; exact hbb)
      have hg2 : ∀ x : Ent, ∀ bb, (getL t e.p).getD zeroE = x → (getL t e.p).isSome = bb → RefGe w e.path p t.length cap x.path x.kind x.text x.opq bb := fun x bb hxx hbb W hB => refGet_any t e.path p cap W (hL.kept hB) hn x bb hxx hbb
      have hne : e.p ≠ [] := clean_ne (wrongE_clean HW2)
      rcases getL_cases t (dirOf e.p) with ⟨a, b⟩ | ⟨x, a, b, c⟩ | ⟨x, a, b, c⟩
      · have hE : putErr t e = 6 := by rw [putErr_asked (by rw [HA, b]; decide), HA, b]
        rw [hE, if_neg (by decide)]
        exact putW_3 e p t.length cap w hn hcap hwr hwe hcu _ _ _ _ (hge zeroE false (by rw [a]; rfl) (by rw [a]; rfl))
      · have hE : putErr t e = 10 := by rw [putErr_asked (by rw [HA, c]; decide), HA, c]
        rw [hE, if_neg (by decide)]
        exact putW_4 e p t.length cap w hn hcap hwr hwe hcu _ _ _ _ (hge x true (by rw [a]; rfl) (by rw [a]; rfl)) b
      · have ha : putAsk t e = 0 := HA.trans c
        have hgd := hge x true (by rw [a]; rfl) (by rw [a]; rfl)
        rw [b] at hgd
        cases hg : getL t e.p with
        | none =>
          have hg3 := hg2 zeroE false (by rw [hg]; rfl) (by rw [hg]; rfl)
          have hE := putErr_not ha (getL_none hg).2
          by_cases h8 : t.length = 80
          · rw [if_pos h8] at hE
            rw [hE, if_neg (by decide)]
            exact putW_9 e p t.length cap w hn hcap hwr hwe hcu _ _ 0 _ hgd _ _ _ _ hg3 (by omega)
          · rw [if_neg h8] at hE
            rw [hE, if_pos rfl]
            exact putW_10 e p t.length cap w hn hcap hwr hwe hcu _ _ 0 _ hgd _ _ _ _ hg3 (by omega) _ hwi
        | some z =>
          have hg3 := hg2 z true (by rw [hg]; rfl) (by rw [hg]; rfl)
          obtain ⟨hm, hp⟩ := getL_some hne hg
          have hE := putErr_there ha hm hp
          cases hke : (e.kind == 2) <;> cases hkz : (z.kind == 2) <;> rw [hke, hkz] at hE
          · rw [if_pos rfl] at hE
            rw [hE, if_pos rfl]
            exact putW_6 e p t.length cap w hn hcap hwr hwe hcu _ _ 0 _ hgd _ _ _ _ hg3 hkz hke _ hwi
          · rw [if_neg (by decide)] at hE
            rw [hE, if_neg (by decide)]
            exact putW_8 e p t.length cap w hn hcap hwr hwe hcu _ _ 0 _ hgd _ _ _ _ hg3 hkz hke
          · rw [if_neg (by decide)] at hE
            rw [hE, if_neg (by decide)]
            exact putW_7 e p t.length cap w hn hcap hwr hwe hcu _ _ 0 _ hgd _ _ _ _ hg3 hkz hke
          · rw [if_pos rfl] at hE
            rw [hE, if_pos rfl]
            exact putW_5 e p t.length cap w hn hcap hwr hwe hcu _ _ 0 _ hgd _ _ _ _ hg3 hkz hke _ hwi
    · rw [putAsk_2 h1 h2, if_neg h2]
      exact putW_2 e p t.length cap w hn hcap hwr _ h2 hwe
  · rw [putAsk_1 h1, if_neg h1]
    exact putW_1 e p t.length cap w hn hcap _ _ h1 hwr
end Go.Proofs.YtampldoimpfjgaaDoor
namespace Go.Proofs.YtampldoimpfjgaaDoor
open Go.RowKit PM Go.Sort
set_option linter.unusedVariables false

abbrev RefNa (w : World) (s : ByteArray) (p : Option Addr) (n cap k : Nat) : Prop := ∀ W, Below w.heap.size w W → Calls Tryd.prog 60 #[.slice p n cap, .string s] W fun r w' => (∃ p' c, r = .returned (.slice p' k c)) ∧ Below W.heap.size W w'
abbrev RefWo (w : World) (s : ByteArray) (p : Option Addr) (n cap : Nat) (rl : List Ent) : Prop := ∀ W, Below w.heap.size w W → Calls Tryd.prog 70 #[.slice p n cap, .string s] W (RowsPost rl W)
theorem refNa (t : List Ent) (q : ByteArray) (p : Option Addr) (cap : Nat) (w : World) (hL : Lies w p t) (hF : ∀ e ∈ t, e.path.size ≤ 1048576 ∧ e.text.size ≤ 1048576) (hn80 : t.length ≤ 80) : RefNa w q p t.length cap (namesL t q.data.toList).length :=
  fun W hB => (refNames_any t q p cap W (hL.kept hB) (fun x hx => (hF x hx).1) hn80).mono fun r w' ⟨⟨v, bs, hr, hS, hb⟩, hN⟩ => by
    obtain ⟨a, c, rfl⟩ := hS.form
    have : (namesL t q.data.toList).length = bs.length := by rw [← hb, List.length_map]
    exact ⟨⟨a, c, by rw [this]; exact hr⟩, hN⟩
set_option maxHeartbeats 8000000 in
set_option maxRecDepth 100000 in
theorem remW_1 (q : ByteArray) (p : Option Addr) (n cap : Nat) (w : World) (f1 : Int) (f2 : Nat) (h1 : ¬ f1 = 0) (hwr : PutWr w p n cap f1 (f2 : Int)) :
    Calls Tryd.prog 39 #[.slice p n cap, .string q] w (TreePost f1 [] w) := by
  have hB : Below w.heap.size w w := Below.refl _ _
  go_enter Tryd.func39, Tryd.ntmps39
  go_wp2_with (go_at_call 30; refine (hwr _ hB).mono ?_; clear hwr hB; rintro rr w1 ⟨rfl, hB⟩; replace hB := hB.alloc hB.size (.cells #[.int .i64 f1, .int .i64 (f2 : Int)] 40))
  go_quiet (fail)
  replace hB := below_drewN hB nq
  go_wp2
  go_ret2
  exact TreePost.none hB
set_option maxHeartbeats 8000000 in
set_option maxRecDepth 100000 in
theorem remW_2 (q : ByteArray) (p : Option Addr) (n cap : Nat) (w : World) (hwr : PutWr w p n cap 0 0) (zp zt : ByteArray) (zk : Int) (zo : Bool) (hg2 : RefGe w q p n cap zp zk zt zo false) :
    Calls Tryd.prog 39 #[.slice p n cap, .string q] w (TreePost 6 [] w) := by
  have hB : Below w.heap.size w w := Below.refl _ _
  go_enter Tryd.func39, Tryd.ntmps39
  go_wp2_with (first
    | (go_at_call 30; refine (hwr _ hB).mono ?_; clear hwr; rintro rr w1 ⟨rfl, hN⟩; replace hB := (Below.onto hB hN).alloc (Below.onto hB hN).size (.cells #[.int .i64 0, .int .i64 0] 40); clear hN)
    | (go_at_call 32; refine (hg2 _ hB).mono ?_; clear hg2; rintro rr w2 ⟨rfl, hN⟩; replace hB := (Below.onto hB hN).alloc (Below.onto hB hN).size (.cells #[.string zp, .int .i64 zk, .string zt, .bool zo] 38); clear hN))
  go_ret2
  exact TreePost.none hB
set_option maxHeartbeats 8000000 in
set_option maxRecDepth 100000 in
theorem remW_3 (q : ByteArray) (p : Option Addr) (n cap : Nat) (w : World) (hwr : PutWr w p n cap 0 0) (zp zt : ByteArray) (zk : Int) (zo : Bool) (hg2 : RefGe w q p n cap zp zk zt zo true) (hq : q.data.toList = []) :
    Calls Tryd.prog 39 #[.slice p n cap, .string q] w (TreePost 6 [] w) := by
  have hB : Below w.heap.size w w := Below.refl _ _
  have h1 := empty_of hq
  go_enter Tryd.func39, Tryd.ntmps39
  go_wp2_with (first
    | (go_at_call 30; refine (hwr _ hB).mono ?_; clear hwr; rintro rr w1 ⟨rfl, hN⟩; replace hB := (Below.onto hB hN).alloc (Below.onto hB hN).size (.cells #[.int .i64 0, .int .i64 0] 40); clear hN)
    | (go_at_call 32; refine (hg2 _ hB).mono ?_; clear hg2; rintro rr w2 ⟨rfl, hN⟩; replace hB := (Below.onto hB hN).alloc (Below.onto hB hN).size (.cells #[.string zp, .int .i64 zk, .string zt, .bool zo] 38); clear hN))
  go_ret2
  exact TreePost.none hB
set_option maxHeartbeats 8000000 in
set_option maxRecDepth 100000 in
theorem remW_4 (q : ByteArray) (p : Option Addr) (n cap : Nat) (w : World) (hwr : PutWr w p n cap 0 0) (zp zt : ByteArray) (zk : Int) (zo : Bool) (hg2 : RefGe w q p n cap zp zk zt zo true) (hq : ¬ q.data.toList = []) (k : Nat) (hk : 0 < k) (hna : RefNa w q p n cap k) :
    Calls Tryd.prog 39 #[.slice p n cap, .string q] w (TreePost 11 [] w) := by
  have hB : Below w.heap.size w w := Below.refl _ _
  have h1 := empty_not hq
  have hkz : (0 : Int) < (k : Int) := by omega
  go_enter Tryd.func39, Tryd.ntmps39
  go_wp2_with (first
    | (go_at_call 30; refine (hwr _ hB).mono ?_; clear hwr; rintro rr w1 ⟨rfl, hN⟩; replace hB := (Below.onto hB hN).alloc (Below.onto hB hN).size (.cells #[.int .i64 0, .int .i64 0] 40); clear hN)
    | (go_at_call 32; refine (hg2 _ hB).mono ?_; clear hg2; rintro rr w2 ⟨rfl, hN⟩; replace hB := (Below.onto hB hN).alloc (Below.onto hB hN).size (.cells #[.string zp, .int .i64 zk, .string zt, .bool zo] 38); clear hN)
    | (go_at_call 60; refine (hna _ hB).mono ?_; clear hna; rintro rr w3 ⟨⟨a3, c3, rfl⟩, hN⟩; replace hB := Below.onto hB hN; clear hN))
  go_ret2
  exact TreePost.none hB
set_option maxHeartbeats 8000000 in
set_option maxRecDepth 100000 in
theorem remW_5 (q : ByteArray) (p : Option Addr) (n cap : Nat) (w : World) (hwr : PutWr w p n cap 0 0) (zp zt : ByteArray) (zk : Int) (zo : Bool) (hg2 : RefGe w q p n cap zp zk zt zo true) (hq : ¬ q.data.toList = []) (hna : RefNa w q p n cap 0) (rl : List Ent) (hwo : RefWo w q p n cap rl) :
    Calls Tryd.prog 39 #[.slice p n cap, .string q] w (TreePost 0 rl w) := by
  have hB : Below w.heap.size w w := Below.refl _ _
  have h1 := empty_not hq
  go_enter Tryd.func39, Tryd.ntmps39
  go_wp2_with (first
    | (go_at_call 30; refine (hwr _ hB).mono ?_; clear hwr; rintro rr w1 ⟨rfl, hN⟩; replace hB := (Below.onto hB hN).alloc (Below.onto hB hN).size (.cells #[.int .i64 0, .int .i64 0] 40); clear hN)
    | (go_at_call 32; refine (hg2 _ hB).mono ?_; clear hg2; rintro rr w2 ⟨rfl, hN⟩; replace hB := (Below.onto hB hN).alloc (Below.onto hB hN).size (.cells #[.string zp, .int .i64 zk, .string zt, .bool zo] 38); clear hN)
    | (go_at_call 60; refine (hna _ hB).mono ?_; clear hna; rintro rr w3 ⟨⟨a3, c3, rfl⟩, hN⟩; replace hB := Below.onto hB hN; clear hN)
    | (go_at_call 70; refine (hwo _ hB).mono ?_; clear hwo; rintro rr w4 ⟨⟨v4, rfl, hR4⟩, hN⟩; have HR4 : Aside (Rows w4 w.heap.size v4 rl) := hR4.mono hB.size; replace hB := Below.onto hB hN; clear hN hR4))
  go_ret2
  exact rows_end HR4.out rfl hB

theorem remErr_1 {t : List Ent} {q : List UInt8} (h : ¬ (faultL false t).1 = 0) : remErr t q = (faultL false t).1 := by rw [remErr, orL, if_neg h]
theorem remErr_2 {t : List Ent} {q : List UInt8} (h : (faultL false t).1 = 0) (hm : ¬ ∃ e ∈ t, e.p = q) : remErr t q = 6 := by
  rw [remErr, orL, if_pos h, orL, missL, if_neg hm]; rfl
theorem remErr_3 {t : List Ent} {q : List UInt8} (h : (faultL false t).1 = 0) (hm : ∃ e ∈ t, e.p = q) : remErr t q = fullL t q := by
  rw [remErr, orL, if_pos h, orL, missL, if_pos hm, if_pos rfl, orL]
  split
  · rename_i h; rw [h]; rfl
  · rfl
theorem refRemove_any (t : List Ent) (q : ByteArray) (p : Option Addr) (cap : Nat) (w : World) (hL : Lies w p t) (hF : ∀ e ∈ t, e.path.size ≤ 1048576 ∧ e.text.size ≤ 1048576) (hn : t.length < 4611686018427387904) (hcap : t.length ≤ cap) (hq : q.size ≤ maxLen) :
    Calls Tryd.prog 39 #[.slice p t.length cap, .string q] w (TreePost (remErr t q.data.toList) (if remErr t q.data.toList = 0 then remL t q.data.toList else []) w) := by
  have hwr : PutWr w p t.length cap (faultL false t).1 ((faultL false t).2 : Nat) := fun W hB => refWrong_any t false p cap W (hL.kept hB) hF hn hcap
  by_cases h1 : (faultL false t).1 = 0
  · have HR : Right false t := faultL_zero.1 h1
    have h80 := HR.len
    rw [faultL_right HR] at hwr
    have hwr : PutWr w p t.length cap 0 0 := hwr
    have hg2 : ∀ x : Ent, ∀ bb, (getL t q.data.toList).getD zeroE = x → (getL t q.data.toList).isSome = bb → RefGe w q p t.length cap x.path x.kind x.text x.opq bb := fun x bb hxx hbb W hB => refGet_any t q p cap W (hL.kept hB) hn x bb hxx hbb
    by_cases h0 : q.data.toList = []
    · have hE : remErr t q.data.toList = 6 := remErr_2 h1 (by rintro ⟨e, he, hp⟩; exact HR.ne he (hp.trans h0))
      rw [hE, if_neg (by decide)]
      exact remW_3 q p t.length cap w hwr _ _ _ _ (hg2 dirE true (by rw [h0, getL_nil]; rfl) (by rw [h0, getL_nil]; rfl)) h0
    cases hg : getL t q.data.toList with
    | none =>
      have hE : remErr t q.data.toList = 6 := remErr_2 h1 (by rintro ⟨e, he, hp⟩; exact (getL_none hg).2 e he hp)
      rw [hE, if_neg (by decide)]
      exact remW_2 q p t.length cap w hwr _ _ _ _ (hg2 zeroE false (by rw [hg]; rfl) (by rw [hg]; rfl))
    | some z =>
      obtain ⟨hm, hp⟩ := getL_some h0 hg
      have hg3 := hg2 z true (by rw [hg]; rfl) (by rw [hg]; rfl)
      have hE := remErr_3 h1 ⟨z, hm, hp⟩
      have hna := refNa t q p cap w hL hF h80
      by_cases hk : (namesL t q.data.toList).length = 0
      · have hu := (names_none HR h0).1 hk
        have hf0 : fullL t q.data.toList = 0 := by
          unfold fullL
          rw [if_neg]
          intro h
          obtain ⟨x, hx, hux⟩ := List.any_eq_true.1 h
          rw [hu x hx] at hux
          cases hux
        rw [hE, hf0, if_pos rfl]
        rw [hk] at hna
        refine remW_5 q p t.length cap w hwr _ _ _ _ hg3 h0 hna _ ?_
        intro W hB
        rw [← remUnder_rem hu]
        exact refWithout_any t q p cap W (hL.kept hB) (fun x hx => (hF x hx).1) hq h80
      · have hf1 : fullL t q.data.toList = 11 := by
          unfold fullL
          rw [if_pos]
          apply Classical.byContradiction
          intro hc
          apply hk
          rw [names_none HR h0]
          intro x hx
          cases hu : under x.p q.data.toList with
          | false => rfl
          | true => exact absurd (List.any_eq_true.2 ⟨x, hx, hu⟩) hc
        rw [hE, hf1, if_neg (by decide)]
        exact remW_4 q p t.length cap w hwr _ _ _ _ hg3 h0 _ (by omega) hna
  · rw [remErr_1 h1, if_neg h1]
    exact remW_1 q p t.length cap w _ _ h1 hwr
end Go.Proofs.YtampldoimpfjgaaDoor
