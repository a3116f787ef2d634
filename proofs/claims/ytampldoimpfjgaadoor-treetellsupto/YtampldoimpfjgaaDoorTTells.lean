/-
  The walk of the statement TreeTells: it answers true, and writes nothing that was there.
-/
import Derived.Test.YtampldoimpfjgaaDoorRTPut
import Derived.Test.YtampldoimpfjgaaDoorRTMove
import Derived.Test.YtampldoimpfjgaaDoorTPut
namespace Go.Proofs.YtampldoimpfjgaaDoor
open Go.RowKit PM Go.Sort
set_option linter.unusedVariables false

theorem neqF (a b : Int) (w : World) : Sem.run Tryd.prog (binOp .neq 40 (.agg #[.int .i64 a, .int .i64 b]) (.agg #[.int .i64 a, .int .i64 b])) w = .ok (.bool false) w := by
  have u3 := Tryd.underlying3
  have a3 := Tryd.isAgg3
  have z3 := Tryd.sizeOf3
  have u9 := Tryd.underlying29
  have a9 := Tryd.isAgg29
  have z9 := Tryd.sizeOf29
  have hS : Tryd.prog.underlying 40 = some (.struct (Tryd.prog.fieldsOf 40)) := by kernel_rfl
  have hp : Tryd.prog.stoodInHeld 40 = false := by kernel_rfl
  rw [run_neq_struct, show (10000 : Nat) = 9999 + 1 from rfl, run_equalIn_agg w 9999 40 _ _ hS hp]
  simp only [Program.fieldsOf, Tryd.underlying40]
  go_simp
theorem guardF (op : BinOp) (a b : Operand) (x1 x2 y1 y2 : Int) (w : World) : (eqGuard op 40 a b (.agg #[.int .i64 x1, .int .i64 x2]) (.agg #[.int .i64 y1, .int .i64 y2])).run Tryd.prog w = .ok () w :=
  GuardAt.agg (P := Tryd.prog) (T := 40) (fun e : Int × Int => #[.int .i64 e.1, .int .i64 e.2]) (by kernel_rfl) op a b (x1, x2) (y1, y2) w
theorem texts_eq : ∀ {a b : List ByteArray} {l : List (List UInt8)}, a.map (·.data.toList) = l → b.map (·.data.toList) = l → a = b
  | [], [], _, _, _ => rfl
  | [], y :: b, _, h1, h2 => by subst h1; cases h2
  | x :: a, [], _, h1, h2 => by subst h2; cases h1
  | x :: a, y :: b, _, h1, h2 => by
    subst h1
    simp only [List.map_cons, List.cons.injEq] at h2
    rw [ba_ext h2.1, texts_eq (a := a) (b := b) rfl h2.2]
theorem list_len {t : List Ent} {q : List UInt8} (h : t.length ≤ 80) : (listL t q).1.length ≤ 80 := by
  unfold listL
  split
  · unfold namesL; rw [List.length_map]; exact Nat.le_trans (List.length_filter_le _ _) h
  · exact Nat.zero_le _

set_option maxHeartbeats 40000000 in
set_option maxRecDepth 100000 in
theorem tells_walk (t : List Ent) (e : Ent) (frm to : ByteArray) (m : Int) (p : Option Addr) (cap : Nat) (w : World) (hL : Lies w p t) (hF : ∀ e ∈ t, e.path.size ≤ 1048576 ∧ e.text.size ≤ 1048576) (hn : t.length < 4611686018427387904) (hcap : t.length ≤ cap) (hnil : p = none → cap = 0)
    (he : e.path.size ≤ 1048576) (het : e.text.size ≤ 1048576) (hf : frm.size ≤ 1048576) (hto : to.size ≤ 1048576) (hm : w.cell? ⟨0, 0, none⟩ = some (.int .i64 m)) :
    Calls Tryd.prog 6 #[.slice p t.length cap, .agg #[.string e.path, .int .i64 e.kind, .string e.text, .bool e.opq], .string frm, .string to] w fun r w' => r = .returned (.bool true) ∧ Below w.heap.size w w' := by
  have hF' : Fits t := fun x hx => by have := hF x hx; unfold maxLen; omega
  have hmx : (1048576 : Nat) ≤ maxLen := by unfold maxLen; omega
  have hW1 := fun W (hB : Below w.heap.size w W) => wrong_any t m p cap W (hL.kept hB) hF' hn hcap (held hB hm)
  have hW2 := fun W (hB : Below w.heap.size w W) => refWrong_any t false p cap W (hL.kept hB) hF hn hcap
  have hP1 := fun W (hB : Below w.heap.size w W) => put_any t e m p cap W (hL.kept hB) hF' hn hcap hnil (by omega) (by omega) (by omega) (held hB hm)
  have hP2 := fun W (hB : Below w.heap.size w W) => refPut_any t e p cap W (hL.kept hB) hF hn hcap he het
  have hR1 := fun W (hB : Below w.heap.size w W) => remove_any t frm m p cap W (hL.kept hB) hF' hn hcap hnil (by omega) (held hB hm)
  have hR2 := fun W (hB : Below w.heap.size w W) => refRemove_any t frm p cap W (hL.kept hB) hF hn hcap (by omega)
  have hM1 := fun W (hB : Below w.heap.size w W) => (move_any t frm to m p cap W (hL.kept hB) hF' hn hcap hnil (by omega) (by omega) (held hB hm)).mono fun r w' h => h.tree
  have hM2 := fun W (hB : Below w.heap.size w W) => refMove_any t frm to p cap W (hL.kept hB) hF hn hcap hnil hf hto
  have hle1 : (if putErr t e = 0 then putL t e else []).length < 4611686018427387904 := by
    split
    · rename_i h
      have hr : Right false t := by
        apply faultL_zero.1
        apply Classical.byContradiction
        intro hc
        rw [putAsk_1 hc] at h
        exact hc h
      have h3 : (putL t e).length ≤ t.length + 1 := by rw [putL_length hr.sorted]; split <;> omega
      have := hr.len
      omega
    · simp
  have hle2 : (if remErr t frm.data.toList = 0 then remL t frm.data.toList else []).length < 4611686018427387904 := by
    split
    · exact Nat.lt_of_le_of_lt (List.length_filter_le _ _) hn
    · simp
  have hle3 : (moveL t frm to).length < 4611686018427387904 := by
    unfold moveL
    split
    · rename_i h
      split
      · exact hn
      · rename_i hft
        exact Nat.lt_of_le_of_lt (rmK_len (mvOK_of h hft).right.sorted) hn
    · simp
  have hT : Below (w.heap.size + 1) (w.alloc (.cells #[.string e.path, .int .i64 e.kind, .string e.text, .bool e.opq] 38)) (w.alloc (.cells #[.string e.path, .int .i64 e.kind, .string e.text, .bool e.opq] 38)) := Below.refl _ _
  have hne : True := trivial
  have hlt : True := trivial
  have e0 : True := trivial
  have e1 : True := trivial
  have e2 : True := trivial
  have e3 : True := trivial
  have hqF := neqF
  have hgF := guardF
  have hfld := field40
  generalize putErr t e = r1 at hP1 hP2 hle1
  generalize (if r1 = 0 then putL t e else []) = l1 at hP1 hP2 hle1
  generalize remErr t frm.data.toList = r2 at hR1 hR2 hle2
  generalize (if r2 = 0 then remL t frm.data.toList else []) = l2 at hR1 hR2 hle2
  generalize moveErr t frm to = r3 at hM1 hM2
  generalize moveL t frm to = l3 at hM1 hM2 hle3
  by_cases h1 : (faultL false t).1 = 0
  · have HR : Right false t := faultL_zero.1 h1
    have h80 := HR.len
    obtain ⟨x, hx⟩ : ∃ x, (getL t frm.data.toList).getD zeroE = x := ⟨_, rfl⟩
    obtain ⟨bb, hb⟩ : ∃ bb, (getL t frm.data.toList).isSome = bb := ⟨_, rfl⟩
    have hG1 := fun W (hB : Below w.heap.size w W) => get_det t frm p cap W (hL.kept hB) hF' hn (by omega) HR.sorted x bb hx hb
    have hG2 := fun W (hB : Below w.heap.size w W) => refGet_any t frm p cap W (hL.kept hB) hn x bb hx hb
    have hL1 := fun W (hB : Below w.heap.size w W) => list_any t frm p cap W (hL.kept hB) hF' HR (by omega)
    have hL2 := fun W (hB : Below w.heap.size w W) => refList_any t frm p cap W (hL.kept hB) (fun y hy => (hF y hy).1) h80
    have hll := list_len (q := frm.data.toList) h80
    generalize (listL t frm.data.toList).1 = ns at hL1 hL2 hll
    generalize (listL t frm.data.toList).2 = ne' at hL1 hL2
    rw [faultL_right HR] at hW1 hW2
    have hneq := neqE
    have hgu := guardE
    clear hx hb HR h1 hF hF' hcap hnil he het hf hto hm hL
    obtain ⟨n, hnl⟩ : ∃ n, n = t.length := ⟨_, rfl⟩
    rw [← hnl] at hW1 hW2 hP1 hP2 hR1 hR2 hM1 hM2 hG1 hG2 hL1 hL2
    rw [← hnl]
    clear hnl hn h80
    go_enter Tryd.func6, Tryd.ntmps6
    go_wp2_with (first
      | (go_at_call 29; refine (hW1 _ (base1 hT)).mono ?_; clear hW1; rintro rr w1 ⟨rfl, hN⟩; have hT2 := box4 hT hN; clear hT hne hlt e0 e1 e2 e3; obtain ⟨hT, hne, hlt, e0, e1, e2, e3⟩ := hT2; clear hN)
      | (go_at_call 30; refine (hW2 _ (base1 hT)).mono ?_; rintro rr w2 ⟨rfl, hN⟩; have hT2 := box4 hT hN; clear hT hne hlt e0 e1 e2 e3; obtain ⟨hT, hne, hlt, e0, e1, e2, e3⟩ := hT2; clear hN)
      | (go_at_call 31; refine (hG1 _ (base1 hT)).mono ?_; clear hG1; rintro rr w3 ⟨rfl, hN⟩; have hT2 := box4 hT hN; clear hT hne hlt e0 e1 e2 e3; obtain ⟨hT, hne, hlt, e0, e1, e2, e3⟩ := hT2; clear hN; replace hT := hT.alloc (Nat.succ_le_of_lt hlt) (.cells #[.string x.path, .int .i64 x.kind, .string x.text, .bool x.opq] 38); have hX : Below (w3.heap.size + 1) (w3.alloc (.cells #[.string x.path, .int .i64 x.kind, .string x.text, .bool x.opq] 38)) (w3.alloc (.cells #[.string x.path, .int .i64 x.kind, .string x.text, .bool x.opq] 38)) := Below.refl _ _)
      | (go_at_call 32; refine (hG2 _ (base1 hT)).mono ?_; clear hG2; rintro rr w4 ⟨rfl, hN⟩; have hT2 := box4 hT hN; clear hT hne hlt e0 e1 e2 e3; obtain ⟨hT, hne, hlt, e0, e1, e2, e3⟩ := hT2; obtain ⟨hX2, xne, xlt, x0, x1, x2, x3⟩ := box4 hX hN; clear hN hX; replace hT := hT.alloc (Nat.succ_le_of_lt hlt) (.cells #[.string x.path, .int .i64 x.kind, .string x.text, .bool x.opq] 38); replace hX2 := hX2.alloc (Nat.succ_le_of_lt xlt) (.cells #[.string x.path, .int .i64 x.kind, .string x.text, .bool x.opq] 38); have hY : Below (w4.heap.size + 1) (w4.alloc (.cells #[.string x.path, .int .i64 x.kind, .string x.text, .bool x.opq] 38)) (w4.alloc (.cells #[.string x.path, .int .i64 x.kind, .string x.text, .bool x.opq] 38)) := Below.refl _ _)
      | (go_at_call 33; refine (hL1 _ (base1 hT)).mono ?_; clear hL1; rintro rr w5 ⟨⟨v5, bs5, rfl, hS5, hb5⟩, hN⟩; have hT2 := box4 hT hN; clear hT hne hlt e0 e1 e2 e3; obtain ⟨hT, hne, hlt, e0, e1, e2, e3⟩ := hT2; clear xne xlt x0 x1 x2 x3; obtain ⟨hX3, xne, xlt, x0, x1, x2, x3⟩ := box4 hX2 hN; obtain ⟨hY2, yne, ylt, y0, y1, y2, y3⟩ := box4 hY hN; clear hN hX2 hY)
      | (go_at_call 34; refine (hL2 _ (base1 hT)).mono ?_; clear hL2; rintro rr w6 ⟨⟨v6, bs6, rfl, hS6, hb6⟩, hN⟩; replace hS5 := hS5.below hN; have hT2 := box4 hT hN; clear hT hne hlt e0 e1 e2 e3; obtain ⟨hT, hne, hlt, e0, e1, e2, e3⟩ := hT2; clear xne xlt x0 x1 x2 x3 yne ylt y0 y1 y2 y3; obtain ⟨hX4, xne, xlt, x0, x1, x2, x3⟩ := box4 hX3 hN; obtain ⟨hY3, yne, ylt, y0, y1, y2, y3⟩ := box4 hY2 hN; clear hN hX3 hY2 hX4 hY3; have hbe := texts_eq hb5 hb6; have hbl : bs5.length ≤ 4294967297 := by have := congrArg List.length hb5; rw [List.length_map] at this; omega)
      | (go_at_call 27; refine (sameTexts_any v5 v6 bs5 bs6 _ _ _ hS5 hS6 hbe hbl).mono ?_; clear hS5 hS6; rintro rr w7 ⟨rfl, hN⟩; have hT2 := box4 hT hN; clear hT hne hlt e0 e1 e2 e3; obtain ⟨hT, hne, hlt, e0, e1, e2, e3⟩ := hT2; clear hN xne xlt x0 x1 x2 x3 yne ylt y0 y1 y2 y3 hb5 hb6 hbe hbl)
      | (go_at_call 35; refine (hP1 _ (base1 hT)).mono ?_; clear hP1; rintro rr u1a ⟨p1a, c1a, rfl, hL1a, hc1a, hn1a, hN⟩; have hT2 := box4 hT hN; clear hT hne hlt e0 e1 e2 e3; obtain ⟨hT, hne, hlt, e0, e1, e2, e3⟩ := hT2; clear hN hc1a hn1a)
      | (go_at_call 36; refine (hP2 _ (base1 hT)).mono ?_; clear hP2; rintro rr u1b ⟨p1b, c1b, rfl, hL1b, hc1b, hn1b, hN⟩; replace hL1a := hL1a.kept hN; have hT2 := box4 hT hN; clear hT hne hlt e0 e1 e2 e3; obtain ⟨hT, hne, hlt, e0, e1, e2, e3⟩ := hT2; clear hN hc1b hn1b)
      | (go_at_call 37; refine (same_any _ p1a p1b c1a c1b _ hL1a hL1b hle1).mono ?_; clear hL1a hL1b; rintro rr u1c ⟨rfl, hN⟩; have hT2 := box4 hT hN; clear hT hne hlt e0 e1 e2 e3; obtain ⟨hT, hne, hlt, e0, e1, e2, e3⟩ := hT2; clear hN)
      | (go_at_call 38; refine (hR1 _ (base1 hT)).mono ?_; clear hR1; rintro rr u2a ⟨p2a, c2a, rfl, hL2a, hc2a, hn2a, hN⟩; have hT2 := box4 hT hN; clear hT hne hlt e0 e1 e2 e3; obtain ⟨hT, hne, hlt, e0, e1, e2, e3⟩ := hT2; clear hN hc2a hn2a)
      | (go_at_call 39; refine (hR2 _ (base1 hT)).mono ?_; clear hR2; rintro rr u2b ⟨p2b, c2b, rfl, hL2b, hc2b, hn2b, hN⟩; replace hL2a := hL2a.kept hN; have hT2 := box4 hT hN; clear hT hne hlt e0 e1 e2 e3; obtain ⟨hT, hne, hlt, e0, e1, e2, e3⟩ := hT2; clear hN hc2b hn2b)
      | (go_at_call 37; refine (same_any _ p2a p2b c2a c2b _ hL2a hL2b hle2).mono ?_; clear hL2a hL2b; rintro rr u2c ⟨rfl, hN⟩; have hT2 := box4 hT hN; clear hT hne hlt e0 e1 e2 e3; obtain ⟨hT, hne, hlt, e0, e1, e2, e3⟩ := hT2; clear hN)
      | (go_at_call 40; refine (hM1 _ (base1 hT)).mono ?_; clear hM1; rintro rr u3a ⟨p3a, c3a, rfl, hL3a, hc3a, hn3a, hN⟩; have hT2 := box4 hT hN; clear hT hne hlt e0 e1 e2 e3; obtain ⟨hT, hne, hlt, e0, e1, e2, e3⟩ := hT2; clear hN hc3a hn3a)
      | (go_at_call 41; refine (hM2 _ (base1 hT)).mono ?_; clear hM2; rintro rr u3b ⟨p3b, c3b, rfl, hL3b, hc3b, hn3b, hN⟩; replace hL3a := hL3a.kept hN; have hT2 := box4 hT hN; clear hT hne hlt e0 e1 e2 e3; obtain ⟨hT, hne, hlt, e0, e1, e2, e3⟩ := hT2; clear hN hc3b hn3b)
      | (go_at_call 37; refine (same_any _ p3a p3b c3a c3b _ hL3a hL3b hle3).mono ?_; clear hL3a hL3b; rintro rr u3c ⟨rfl, hN⟩; have hT2 := box4 hT hN; clear hT hne hlt e0 e1 e2 e3; obtain ⟨hT, hne, hlt, e0, e1, e2, e3⟩ := hT2; clear hN))
    go_ret
    exact ⟨rfl, base1 hT⟩
  · generalize (faultL false t).1 = f1 at hW1 hW2 h1
    generalize ((faultL false t).2 : Int) = f2 at hW1 hW2
    clear hF hF' hcap hnil he het hf hto hm hL
    obtain ⟨n, hnl⟩ : ∃ n, n = t.length := ⟨_, rfl⟩
    rw [← hnl] at hW1 hW2 hP1 hP2 hR1 hR2 hM1 hM2
    rw [← hnl]
    clear hnl hn
    go_enter Tryd.func6, Tryd.ntmps6
    go_wp2_with (first
      | (go_at_call 29; refine (hW1 _ (base1 hT)).mono ?_; clear hW1; rintro rr w1 ⟨rfl, hN⟩; have hT2 := box4 hT hN; clear hT hne hlt e0 e1 e2 e3; obtain ⟨hT, hne, hlt, e0, e1, e2, e3⟩ := hT2; clear hN)
      | (go_at_call 30; refine (hW2 _ (base1 hT)).mono ?_; rintro rr w2 ⟨rfl, hN⟩; have hT2 := box4 hT hN; clear hT hne hlt e0 e1 e2 e3; obtain ⟨hT, hne, hlt, e0, e1, e2, e3⟩ := hT2; clear hN)
      | (go_at_call 35; refine (hP1 _ (base1 hT)).mono ?_; clear hP1; rintro rr u1a ⟨p1a, c1a, rfl, hL1a, hc1a, hn1a, hN⟩; have hT2 := box4 hT hN; clear hT hne hlt e0 e1 e2 e3; obtain ⟨hT, hne, hlt, e0, e1, e2, e3⟩ := hT2; clear hN hc1a hn1a)
      | (go_at_call 36; refine (hP2 _ (base1 hT)).mono ?_; clear hP2; rintro rr u1b ⟨p1b, c1b, rfl, hL1b, hc1b, hn1b, hN⟩; replace hL1a := hL1a.kept hN; have hT2 := box4 hT hN; clear hT hne hlt e0 e1 e2 e3; obtain ⟨hT, hne, hlt, e0, e1, e2, e3⟩ := hT2; clear hN hc1b hn1b)
      | (go_at_call 37; refine (same_any _ p1a p1b c1a c1b _ hL1a hL1b hle1).mono ?_; clear hL1a hL1b; rintro rr u1c ⟨rfl, hN⟩; have hT2 := box4 hT hN; clear hT hne hlt e0 e1 e2 e3; obtain ⟨hT, hne, hlt, e0, e1, e2, e3⟩ := hT2; clear hN)
      | (go_at_call 38; refine (hR1 _ (base1 hT)).mono ?_; clear hR1; rintro rr u2a ⟨p2a, c2a, rfl, hL2a, hc2a, hn2a, hN⟩; have hT2 := box4 hT hN; clear hT hne hlt e0 e1 e2 e3; obtain ⟨hT, hne, hlt, e0, e1, e2, e3⟩ := hT2; clear hN hc2a hn2a)
      | (go_at_call 39; refine (hR2 _ (base1 hT)).mono ?_; clear hR2; rintro rr u2b ⟨p2b, c2b, rfl, hL2b, hc2b, hn2b, hN⟩; replace hL2a := hL2a.kept hN; have hT2 := box4 hT hN; clear hT hne hlt e0 e1 e2 e3; obtain ⟨hT, hne, hlt, e0, e1, e2, e3⟩ := hT2; clear hN hc2b hn2b)
      | (go_at_call 37; refine (same_any _ p2a p2b c2a c2b _ hL2a hL2b hle2).mono ?_; clear hL2a hL2b; rintro rr u2c ⟨rfl, hN⟩; have hT2 := box4 hT hN; clear hT hne hlt e0 e1 e2 e3; obtain ⟨hT, hne, hlt, e0, e1, e2, e3⟩ := hT2; clear hN)
      | (go_at_call 40; refine (hM1 _ (base1 hT)).mono ?_; clear hM1; rintro rr u3a ⟨p3a, c3a, rfl, hL3a, hc3a, hn3a, hN⟩; have hT2 := box4 hT hN; clear hT hne hlt e0 e1 e2 e3; obtain ⟨hT, hne, hlt, e0, e1, e2, e3⟩ := hT2; clear hN hc3a hn3a)
      | (go_at_call 41; refine (hM2 _ (base1 hT)).mono ?_; clear hM2; rintro rr u3b ⟨p3b, c3b, rfl, hL3b, hc3b, hn3b, hN⟩; replace hL3a := hL3a.kept hN; have hT2 := box4 hT hN; clear hT hne hlt e0 e1 e2 e3; obtain ⟨hT, hne, hlt, e0, e1, e2, e3⟩ := hT2; clear hN hc3b hn3b)
      | (go_at_call 37; refine (same_any _ p3a p3b c3a c3b _ hL3a hL3b hle3).mono ?_; clear hL3a hL3b; rintro rr u3c ⟨rfl, hN⟩; have hT2 := box4 hT hN; clear hT hne hlt e0 e1 e2 e3; obtain ⟨hT, hne, hlt, e0, e1, e2, e3⟩ := hT2; clear hN))
    go_ret
    exact ⟨rfl, base1 hT⟩
end Go.Proofs.YtampldoimpfjgaaDoor
