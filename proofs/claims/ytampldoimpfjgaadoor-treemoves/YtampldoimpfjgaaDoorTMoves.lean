/-
  The walk of the statement TreeMoves: it answers true, and writes nothing that was there.
-/
import Derived.Test.YtampldoimpfjgaaDoorTMath4
import Derived.Test.YtampldoimpfjgaaDoorTBack
namespace Go.Proofs.YtampldoimpfjgaaDoor
open Go.RowKit PM Go.Sort
set_option linter.unusedVariables false

/-- What tree.Move leaves where it lets by. -/
theorem move_ok (t : List Ent) (frm to : ByteArray) (m : Int) (p : Option Addr) (cap : Nat) (w : World) (hL : Lies w p t) (hF : Fits t) (hn : t.length < 4611686018427387904) (hcap : t.length ≤ cap) (hnil : p = none → cap = 0)
    (hf : frm.size ≤ maxLen) (ht : to.size ≤ maxLen) (hm : w.cell? ⟨0, 0, none⟩ = some (.int .i64 m)) (h0 : moveErr t frm to = 0) :
    Calls Tryd.prog 40 #[.slice p t.length cap, .string frm, .string to] w fun r w' => ∃ l, TreePost 0 l w r w' ∧ MvRes t frm to l := by
  refine (move_any t frm to m p cap w hL hF hn hcap hnil hf ht hm).mono ?_
  rintro r w' ⟨l, hT, _, hk⟩
  rw [h0] at hT
  refine ⟨l, hT, ?_⟩
  obtain ⟨k1, k2⟩ := hk h0
  by_cases he : frm.data.toList = to.data.toList
  · rw [k1 he]; exact res_same h0 he
  · exact res_moved (mvOK_of h0 he) (k2 he).1 (k2 he).2
theorem move_back (t l : List Ent) (frm to : ByteArray) (m : Int) (p : Option Addr) (cap : Nat) (w : World) (hR : MvRes t frm to l) (hg : getL t to.data.toList = none) (hL : Lies w p l) (hcap : l.length ≤ cap) (hnil : p = none → cap = 0)
    (hf : frm.size ≤ maxLen) (ht : to.size ≤ maxLen) (hm : w.cell? ⟨0, 0, none⟩ = some (.int .i64 m)) (hne : frm.data.toList ≠ to.data.toList) :
    Calls Tryd.prog 40 #[.slice p l.length cap, .string to, .string frm] w fun r w' => TreePost 0 t w r w' := by
  have hlen := hR.right.len
  refine (move_any l to frm m p cap w hL (right_fits hR.right) (by omega) hcap hnil ht hf hm).mono ?_
  rintro r w' ⟨l2, hT, _, hk⟩
  obtain ⟨h0, hall⟩ := hR.a3 hg
  rw [h0] at hT
  obtain ⟨_, k2⟩ := hk h0
  rw [hall l2 (k2 fun e => hne e.symm).1 (k2 fun e => hne e.symm).2] at hT
  exact hT
theorem getD_some {t : List Ent} {q : List UInt8} {a : Ent} (h : getL t q = some a) : (getL t q).getD zeroE = a ∧ (getL t q).isSome = true := by rw [h]; exact ⟨rfl, rfl⟩
theorem getD_none {t : List Ent} {q : List UInt8} (h : getL t q = none) : (getL t q).getD zeroE = zeroE ∧ (getL t q).isSome = false := by rw [h]; exact ⟨rfl, rfl⟩

set_option maxHeartbeats 16000000 in
set_option maxRecDepth 100000 in
theorem moves_walk (t : List Ent) (frm to other : ByteArray) (m : Int) (p : Option Addr) (cap : Nat) (w : World) (hL : Lies w p t) (hF : Fits t) (hn : t.length < 4611686018427387904) (hcap : t.length ≤ cap) (hnil : p = none → cap = 0)
    (hf : frm.size ≤ maxLen) (ht : to.size ≤ maxLen) (hot : other.size ≤ maxLen) (ho47 : other.size ≤ 140737488355328) (hm : w.cell? ⟨0, 0, none⟩ = some (.int .i64 m)) :
    Calls Tryd.prog 9 #[.slice p t.length cap, .string frm, .string to, .string other] w fun r w' => r = .returned (.bool true) ∧ Below w.heap.size w w' := by
  have hal := fun W (hB : Below w.heap.size w W) => treeAlive_any m W (held hB hm)
  have hB : Below w.heap.size w w := Below.refl _ _
  have hfld := field40
  have hgu := guardE
  have hneq := neqE
  by_cases h0 : moveErr t frm to = 0
  · obtain ⟨hr, hsrc⟩ := src_ne h0
    have hs := hr.sorted
    have hfne : frm.data.toList ≠ [] := by obtain ⟨a, ha, hp⟩ := hsrc; rw [← hp]; exact hr.ne ha
    have hf80 : frm.size ≤ 80 := by obtain ⟨a, ha, hp⟩ := hsrc; exact clean_size (by rw [← hp]; exact hr.clean ha)
    have ht80 : to.size ≤ 80 := by
      by_cases he : frm.data.toList = to.data.toList
      · rw [← szl to, ← he, szl]; exact hf80
      · exact clean_size (mvOK_of h0 he).tocl
    have hmv := fun W (hB : Below w.heap.size w W) => move_ok t frm to m p cap W (hL.kept hB) hF hn hcap hnil hf ht (held hB hm) h0
    have hw2 : ∀ W, Below w.heap.size w W → ∀ (l : List Ent) (p' : Option Addr) (c' : Nat), Lies W p' l → l.length ≤ c' → Right false l → Calls Tryd.prog 29 #[.slice p' l.length c'] W fun r w' => r = .returned (.agg #[.int .i64 0, .int .i64 0]) ∧ Below W.heap.size W w' := fun W hB l p' c' hL' hc' hR => by
      have h := wrong_any l m p' c' W hL' (right_fits hR) (by have := hR.len; omega) hc' (held hB hm)
      rw [faultL_right hR] at h
      exact h
    have hun := fun W => under_any other frm W hot hf
    unfold TreePost at hmv
    have HX : Aside (getL t to.data.toList = none → frm.data.toList ≠ to.data.toList) := fun hg e => by
      obtain ⟨a, ha, hp⟩ := hsrc
      exact (getL_none hg).2 a ha (hp.trans e)
    have hmb := fun (hg : getL t to.data.toList = none) W (hB : Below w.heap.size w W) (l : List Ent) (p' : Option Addr) (c' : Nat) (hL' : Lies W p' l) (hc' : l.length ≤ c') (hn' : p' = none → c' = 0) (hR : MvRes t frm to l) => move_back t l frm to m p' c' W hR hg hL' hc' hn' hf ht (held hB hm) (HX.out hg)
    unfold TreePost at hmb
    have hsa := fun W (hB : Below w.heap.size w W) (p' : Option Addr) (c' : Nat) (hL' : Lies W p' t) => same_any t p p' cap c' W (hL.kept hB) hL' hn
    have HWAYS : (other.data.toList = frm.data.toList ∨ (¬ other.data.toList = frm.data.toList ∧ under other.data.toList frm.data.toList = true)) ∨ (¬ other.data.toList = frm.data.toList ∧ under other.data.toList frm.data.toList = false ∧ other.data.toList = to.data.toList) ∨ (¬ other.data.toList = frm.data.toList ∧ under other.data.toList frm.data.toList = false ∧ ¬ other.data.toList = to.data.toList) := by
      by_cases h1 : other.data.toList = frm.data.toList
      · exact .inl (.inl h1)
      · cases h2 : under other.data.toList frm.data.toList with
        | true => exact .inl (.inr ⟨h1, rfl⟩)
        | false =>
          by_cases h3 : other.data.toList = to.data.toList
          · exact .inr (.inl ⟨h1, rfl, h3⟩)
          · exact .inr (.inr ⟨h1, rfl, h3⟩)
    rcases HWAYS with HW0 | ⟨h1, h2, h3⟩ | ⟨h1, h2, h3⟩
    · have hsz : frm.size ≤ other.size := by
        rcases HW0 with h | ⟨_, h⟩
        · rw [← szl frm, ← szl other, h]; exact Nat.le_refl _
        · obtain ⟨r, hr⟩ := (under_iff _ _ hfne).1 h
          rw [← szl frm, ← szl other, hr]; simp
      have hszz : (frm.size : Int) ≤ (other.size : Int) := by omega
      have HW : ((other.toList == frm.toList) = true ∧ other.toList = frm.toList) ∨ ((other.toList == frm.toList) = false ∧ ¬ other.toList = frm.toList ∧ under other.data.toList frm.data.toList = true) := by
        rcases HW0 with h | ⟨h, hu⟩
        · exact .inl (eq_parts h)
        · exact .inr ⟨(ne_parts h).1, (ne_parts h).2, hu⟩
      have HA1 : Aside (∀ l, MvRes t frm to l → ∀ a, getL t other.data.toList = some a → getL l (to ++ other.extract frm.size other.size).data.toList = some { a with path := to ++ other.extract frm.size other.size }) := fun l hR a hg => hR.a1 other a (HW0.imp id (·.2)) hg
      have hnw : (to ++ other.extract frm.size other.size).size ≤ maxLen := by unfold maxLen; simp; omega
      have hnw2 : to.size + (other.size - frm.size) ≤ 281474976710656 := by omega
      clear HW0
      generalize hnew : to ++ other.extract frm.size other.size = new at HA1 hnw
      cases hga : getL t other.data.toList with
      | some a =>
        cases hgb : getL t to.data.toList with
        | some a2 =>
          have hg0 := fun W (hB : Below w.heap.size w W) => get_det t other p cap W (hL.kept hB) hF hn hot hs a true (getD_some hga).1 (getD_some hga).2
          have hg1 := fun W (l : List Ent) (p' : Option Addr) (c' : Nat) (hL' : Lies W p' l) (hR : MvRes t frm to l) => get_det l new p' c' W hL' (right_fits hR.right) (by have := hR.right.len; omega) hnw hR.right.sorted { a with path := new } true (getD_some (HA1.out l hR a hga)).1 (getD_some (HA1.out l hR a hga)).2
          have hg3 := fun W (hB : Below w.heap.size w W) => get_det t to p cap W (hL.kept hB) hF hn ht hs a2 true (getD_some hgb).1 (getD_some hgb).2
          clear hmb hsa
          clear hga hgb hL hF hcap hnil hs hr hsrc hfne h0 HX
          generalize t.length = n at *
          rcases HW with ⟨e1, e2⟩ | ⟨e1, e2, hu⟩
          · go_enter Tryd.func9, Tryd.ntmps9
            go_wp2_with (first
              | (go_at_call 42; refine (hal _ hB).mono ?_; clear hal; rintro rr w1 ⟨rfl, hN⟩; replace hB := Below.onto hB hN; clear hN)
              | (go_at_call 40; refine (hmv _ hB).mono ?_; clear hmv; rintro rr w2 ⟨l, ⟨p4, c4, rfl, hl4, hc4, hn4, hN⟩, hres⟩; have HM : Aside (MvRes t frm to l) := hres; clear hres; replace hB := Below.onto hB hN; clear hN)
              | (go_at_call 29; refine (hw2 _ hB l p4 c4 hl4 hc4 HM.out.right).mono ?_; clear hw2; rintro rr w3 ⟨rfl, hN⟩; replace hl4 := hl4.kept hN; replace hB := Below.onto hB hN; clear hN)
              | (go_at_call 31; refine (hg0 _ hB).mono ?_; clear hg0; rintro rr w4 ⟨rfl, hN⟩; replace hl4 := (hl4.kept hN).grown ((Grown.refl _).alloc (.cells #[.string new, .int .i64 a.kind, .string a.text, .bool a.opq] 38)); replace hB := Below.onto hB hN; clear hN; have hBa : Below (w4.heap.size + 1) (w4.alloc (.cells #[.string new, .int .i64 a.kind, .string a.text, .bool a.opq] 38)) (w4.alloc (.cells #[.string new, .int .i64 a.kind, .string a.text, .bool a.opq] 38)) := Below.refl _ _; replace hB := Below.onto hB (base1 hBa))
              | (go_at_call 18; refine (hun _).mono ?_; rintro rr wx ⟨rfl, hwx⟩; subst wx)
              | (go_at_call 31; refine (hg1 _ l p4 c4 hl4 HM.out).mono ?_; clear hg1; rintro rr w5 ⟨rfl, hN⟩; replace hl4 := (hl4.kept hN).grown ((Grown.refl _).alloc (.cells #[.string new, .int .i64 a.kind, .string a.text, .bool a.opq] 38)); replace hB := Below.onto hB hN; replace hBa := upA (o2 := .cells #[.string new, .int .i64 a.kind, .string a.text, .bool a.opq] 38) (up1 hBa hN); clear hN; have hBb : Below (w5.heap.size + 1) (w5.alloc (.cells #[.string new, .int .i64 a.kind, .string a.text, .bool a.opq] 38)) (w5.alloc (.cells #[.string new, .int .i64 a.kind, .string a.text, .bool a.opq] 38)) := Below.refl _ _; replace hB := Below.onto hB (base1 hBb); obtain ⟨⟨ca0, ca1, ca2, ca3⟩, _⟩ := new4 (Nat.lt_succ_self _) hBa)
              | (go_at_call 31; refine (hg3 _ hB).mono ?_; clear hg3; rintro rr w6 ⟨rfl, hN⟩; replace hl4 := (hl4.kept hN).grown ((Grown.refl _).alloc (.cells #[.string a2.path, .int .i64 a2.kind, .string a2.text, .bool a2.opq] 38)); replace hB := Below.onto hB hN; clear hN; replace hB := hB.alloc hB.size (.cells #[.string a2.path, .int .i64 a2.kind, .string a2.text, .bool a2.opq] 38)))
            go_ret
            exact ⟨rfl, hB⟩
          · rw [hu] at hun
            go_enter Tryd.func9, Tryd.ntmps9
            go_wp2_with (first
              | (go_at_call 42; refine (hal _ hB).mono ?_; clear hal; rintro rr w1 ⟨rfl, hN⟩; replace hB := Below.onto hB hN; clear hN)
              | (go_at_call 40; refine (hmv _ hB).mono ?_; clear hmv; rintro rr w2 ⟨l, ⟨p4, c4, rfl, hl4, hc4, hn4, hN⟩, hres⟩; have HM : Aside (MvRes t frm to l) := hres; clear hres; replace hB := Below.onto hB hN; clear hN)
              | (go_at_call 29; refine (hw2 _ hB l p4 c4 hl4 hc4 HM.out.right).mono ?_; clear hw2; rintro rr w3 ⟨rfl, hN⟩; replace hl4 := hl4.kept hN; replace hB := Below.onto hB hN; clear hN)
              | (go_at_call 31; refine (hg0 _ hB).mono ?_; clear hg0; rintro rr w4 ⟨rfl, hN⟩; replace hl4 := (hl4.kept hN).grown ((Grown.refl _).alloc (.cells #[.string new, .int .i64 a.kind, .string a.text, .bool a.opq] 38)); replace hB := Below.onto hB hN; clear hN; have hBa : Below (w4.heap.size + 1) (w4.alloc (.cells #[.string new, .int .i64 a.kind, .string a.text, .bool a.opq] 38)) (w4.alloc (.cells #[.string new, .int .i64 a.kind, .string a.text, .bool a.opq] 38)) := Below.refl _ _; replace hB := Below.onto hB (base1 hBa))
              | (go_at_call 18; refine (hun _).mono ?_; rintro rr wx ⟨rfl, hwx⟩; subst wx)
              | (go_at_call 31; refine (hg1 _ l p4 c4 hl4 HM.out).mono ?_; clear hg1; rintro rr w5 ⟨rfl, hN⟩; replace hl4 := (hl4.kept hN).grown ((Grown.refl _).alloc (.cells #[.string new, .int .i64 a.kind, .string a.text, .bool a.opq] 38)); replace hB := Below.onto hB hN; replace hBa := upA (o2 := .cells #[.string new, .int .i64 a.kind, .string a.text, .bool a.opq] 38) (up1 hBa hN); clear hN; have hBb : Below (w5.heap.size + 1) (w5.alloc (.cells #[.string new, .int .i64 a.kind, .string a.text, .bool a.opq] 38)) (w5.alloc (.cells #[.string new, .int .i64 a.kind, .string a.text, .bool a.opq] 38)) := Below.refl _ _; replace hB := Below.onto hB (base1 hBb); obtain ⟨⟨ca0, ca1, ca2, ca3⟩, _⟩ := new4 (Nat.lt_succ_self _) hBa)
              | (go_at_call 31; refine (hg3 _ hB).mono ?_; clear hg3; rintro rr w6 ⟨rfl, hN⟩; replace hl4 := (hl4.kept hN).grown ((Grown.refl _).alloc (.cells #[.string a2.path, .int .i64 a2.kind, .string a2.text, .bool a2.opq] 38)); replace hB := Below.onto hB hN; clear hN; replace hB := hB.alloc hB.size (.cells #[.string a2.path, .int .i64 a2.kind, .string a2.text, .bool a2.opq] 38)))
            go_ret
            exact ⟨rfl, hB⟩
        | none =>
          have hg0 := fun W (hB : Below w.heap.size w W) => get_det t other p cap W (hL.kept hB) hF hn hot hs a true (getD_some hga).1 (getD_some hga).2
          have hg1 := fun W (l : List Ent) (p' : Option Addr) (c' : Nat) (hL' : Lies W p' l) (hR : MvRes t frm to l) => get_det l new p' c' W hL' (right_fits hR.right) (by have := hR.right.len; omega) hnw hR.right.sorted { a with path := new } true (getD_some (HA1.out l hR a hga)).1 (getD_some (HA1.out l hR a hga)).2
          have hg3 := fun W (hB : Below w.heap.size w W) => get_det t to p cap W (hL.kept hB) hF hn ht hs zeroE false (getD_none hgb).1 (getD_none hgb).2
          unfold zeroE at hg3
          replace hmb := hmb hgb
          clear hga hgb hL hF hcap hnil hs hr hsrc hfne h0 HX
          generalize t.length = n at *
          rcases HW with ⟨e1, e2⟩ | ⟨e1, e2, hu⟩
          · go_enter Tryd.func9, Tryd.ntmps9
            go_wp2_with (first
              | (go_at_call 42; refine (hal _ hB).mono ?_; clear hal; rintro rr w1 ⟨rfl, hN⟩; replace hB := Below.onto hB hN; clear hN)
              | (go_at_call 40; refine (hmv _ hB).mono ?_; clear hmv; rintro rr w2 ⟨l, ⟨p4, c4, rfl, hl4, hc4, hn4, hN⟩, hres⟩; have HM : Aside (MvRes t frm to l) := hres; clear hres; replace hB := Below.onto hB hN; clear hN)
              | (go_at_call 29; refine (hw2 _ hB l p4 c4 hl4 hc4 HM.out.right).mono ?_; clear hw2; rintro rr w3 ⟨rfl, hN⟩; replace hl4 := hl4.kept hN; replace hB := Below.onto hB hN; clear hN)
              | (go_at_call 31; refine (hg0 _ hB).mono ?_; clear hg0; rintro rr w4 ⟨rfl, hN⟩; replace hl4 := (hl4.kept hN).grown ((Grown.refl _).alloc (.cells #[.string new, .int .i64 a.kind, .string a.text, .bool a.opq] 38)); replace hB := Below.onto hB hN; clear hN; have hBa : Below (w4.heap.size + 1) (w4.alloc (.cells #[.string new, .int .i64 a.kind, .string a.text, .bool a.opq] 38)) (w4.alloc (.cells #[.string new, .int .i64 a.kind, .string a.text, .bool a.opq] 38)) := Below.refl _ _; replace hB := Below.onto hB (base1 hBa))
              | (go_at_call 18; refine (hun _).mono ?_; rintro rr wx ⟨rfl, hwx⟩; subst wx)
              | (go_at_call 31; refine (hg1 _ l p4 c4 hl4 HM.out).mono ?_; clear hg1; rintro rr w5 ⟨rfl, hN⟩; replace hl4 := (hl4.kept hN).grown ((Grown.refl _).alloc (.cells #[.string new, .int .i64 a.kind, .string a.text, .bool a.opq] 38)); replace hB := Below.onto hB hN; replace hBa := upA (o2 := .cells #[.string new, .int .i64 a.kind, .string a.text, .bool a.opq] 38) (up1 hBa hN); clear hN; have hBb : Below (w5.heap.size + 1) (w5.alloc (.cells #[.string new, .int .i64 a.kind, .string a.text, .bool a.opq] 38)) (w5.alloc (.cells #[.string new, .int .i64 a.kind, .string a.text, .bool a.opq] 38)) := Below.refl _ _; replace hB := Below.onto hB (base1 hBb); obtain ⟨⟨ca0, ca1, ca2, ca3⟩, _⟩ := new4 (Nat.lt_succ_self _) hBa)
              | (go_at_call 31; refine (hg3 _ hB).mono ?_; clear hg3; rintro rr w6 ⟨rfl, hN⟩; replace hl4 := (hl4.kept hN).grown ((Grown.refl _).alloc (.cells #[.string ⟨#[]⟩, .int .i64 0, .string ⟨#[]⟩, .bool false] 38)); replace hB := Below.onto hB hN; clear hN; replace hB := hB.alloc hB.size (.cells #[.string ⟨#[]⟩, .int .i64 0, .string ⟨#[]⟩, .bool false] 38))
              | (go_at_call 40; refine (hmb _ hB l p4 c4 hl4 hc4 hn4 HM.out).mono ?_; clear hmb; rintro rr w7 ⟨p7, c7, rfl, hl7, hc7, hn7, hN⟩; replace hB := Below.onto hB hN; clear hN)
              | (go_at_call 37; refine (hsa _ hB p7 c7 hl7).mono ?_; clear hsa; rintro rr w8 ⟨rfl, hN⟩; replace hB := Below.onto hB hN; clear hN))
            go_ret
            exact ⟨rfl, hB⟩
          · rw [hu] at hun
            go_enter Tryd.func9, Tryd.ntmps9
            go_wp2_with (first
              | (go_at_call 42; refine (hal _ hB).mono ?_; clear hal; rintro rr w1 ⟨rfl, hN⟩; replace hB := Below.onto hB hN; clear hN)
              | (go_at_call 40; refine (hmv _ hB).mono ?_; clear hmv; rintro rr w2 ⟨l, ⟨p4, c4, rfl, hl4, hc4, hn4, hN⟩, hres⟩; have HM : Aside (MvRes t frm to l) := hres; clear hres; replace hB := Below.onto hB hN; clear hN)
              | (go_at_call 29; refine (hw2 _ hB l p4 c4 hl4 hc4 HM.out.right).mono ?_; clear hw2; rintro rr w3 ⟨rfl, hN⟩; replace hl4 := hl4.kept hN; replace hB := Below.onto hB hN; clear hN)
              | (go_at_call 31; refine (hg0 _ hB).mono ?_; clear hg0; rintro rr w4 ⟨rfl, hN⟩; replace hl4 := (hl4.kept hN).grown ((Grown.refl _).alloc (.cells #[.string new, .int .i64 a.kind, .string a.text, .bool a.opq] 38)); replace hB := Below.onto hB hN; clear hN; have hBa : Below (w4.heap.size + 1) (w4.alloc (.cells #[.string new, .int .i64 a.kind, .string a.text, .bool a.opq] 38)) (w4.alloc (.cells #[.string new, .int .i64 a.kind, .string a.text, .bool a.opq] 38)) := Below.refl _ _; replace hB := Below.onto hB (base1 hBa))
              | (go_at_call 18; refine (hun _).mono ?_; rintro rr wx ⟨rfl, hwx⟩; subst wx)
              | (go_at_call 31; refine (hg1 _ l p4 c4 hl4 HM.out).mono ?_; clear hg1; rintro rr w5 ⟨rfl, hN⟩; replace hl4 := (hl4.kept hN).grown ((Grown.refl _).alloc (.cells #[.string new, .int .i64 a.kind, .string a.text, .bool a.opq] 38)); replace hB := Below.onto hB hN; replace hBa := upA (o2 := .cells #[.string new, .int .i64 a.kind, .string a.text, .bool a.opq] 38) (up1 hBa hN); clear hN; have hBb : Below (w5.heap.size + 1) (w5.alloc (.cells #[.string new, .int .i64 a.kind, .string a.text, .bool a.opq] 38)) (w5.alloc (.cells #[.string new, .int .i64 a.kind, .string a.text, .bool a.opq] 38)) := Below.refl _ _; replace hB := Below.onto hB (base1 hBb); obtain ⟨⟨ca0, ca1, ca2, ca3⟩, _⟩ := new4 (Nat.lt_succ_self _) hBa)
              | (go_at_call 31; refine (hg3 _ hB).mono ?_; clear hg3; rintro rr w6 ⟨rfl, hN⟩; replace hl4 := (hl4.kept hN).grown ((Grown.refl _).alloc (.cells #[.string ⟨#[]⟩, .int .i64 0, .string ⟨#[]⟩, .bool false] 38)); replace hB := Below.onto hB hN; clear hN; replace hB := hB.alloc hB.size (.cells #[.string ⟨#[]⟩, .int .i64 0, .string ⟨#[]⟩, .bool false] 38))
              | (go_at_call 40; refine (hmb _ hB l p4 c4 hl4 hc4 hn4 HM.out).mono ?_; clear hmb; rintro rr w7 ⟨p7, c7, rfl, hl7, hc7, hn7, hN⟩; replace hB := Below.onto hB hN; clear hN)
              | (go_at_call 37; refine (hsa _ hB p7 c7 hl7).mono ?_; clear hsa; rintro rr w8 ⟨rfl, hN⟩; replace hB := Below.onto hB hN; clear hN))
            go_ret
            exact ⟨rfl, hB⟩
      | none =>
        cases hgb : getL t to.data.toList with
        | some a2 =>
          have hg0 := fun W (hB : Below w.heap.size w W) => get_det t other p cap W (hL.kept hB) hF hn hot hs zeroE false (getD_none hga).1 (getD_none hga).2
          have hg1 := fun W (l : List Ent) (p' : Option Addr) (c' : Nat) (hL' : Lies W p' l) (hR : Right false l) => get_any l new p' c' W hL' (right_fits hR) (by have := hR.len; omega) hnw
          unfold zeroE at hg0
          have hg3 := fun W (hB : Below w.heap.size w W) => get_det t to p cap W (hL.kept hB) hF hn ht hs a2 true (getD_some hgb).1 (getD_some hgb).2
          clear hmb hsa
          clear hga hgb hL hF hcap hnil hs hr hsrc hfne h0 HX
          generalize t.length = n at *
          rcases HW with ⟨e1, e2⟩ | ⟨e1, e2, hu⟩
          · go_enter Tryd.func9, Tryd.ntmps9
            go_wp2_with (first
              | (go_at_call 42; refine (hal _ hB).mono ?_; clear hal; rintro rr w1 ⟨rfl, hN⟩; replace hB := Below.onto hB hN; clear hN)
              | (go_at_call 40; refine (hmv _ hB).mono ?_; clear hmv; rintro rr w2 ⟨l, ⟨p4, c4, rfl, hl4, hc4, hn4, hN⟩, hres⟩; have HM : Aside (MvRes t frm to l) := hres; clear hres; replace hB := Below.onto hB hN; clear hN)
              | (go_at_call 29; refine (hw2 _ hB l p4 c4 hl4 hc4 HM.out.right).mono ?_; clear hw2; rintro rr w3 ⟨rfl, hN⟩; replace hl4 := hl4.kept hN; replace hB := Below.onto hB hN; clear hN)
              | (go_at_call 31; refine (hg0 _ hB).mono ?_; clear hg0; rintro rr w4 ⟨rfl, hN⟩; replace hl4 := (hl4.kept hN).grown ((Grown.refl _).alloc (.cells #[.string new, .int .i64 0, .string ⟨#[]⟩, .bool false] 38)); replace hB := Below.onto hB hN; clear hN; have hBa : Below (w4.heap.size + 1) (w4.alloc (.cells #[.string new, .int .i64 0, .string ⟨#[]⟩, .bool false] 38)) (w4.alloc (.cells #[.string new, .int .i64 0, .string ⟨#[]⟩, .bool false] 38)) := Below.refl _ _; replace hB := Below.onto hB (base1 hBa))
              | (go_at_call 18; refine (hun _).mono ?_; rintro rr wx ⟨rfl, hwx⟩; subst wx)
              | (go_at_call 31; refine (hg1 _ l p4 c4 hl4 HM.out.right).mono ?_; clear hg1; rintro rr w5 ⟨x5, b5, rfl, hgx, hzx, hxx, hN⟩; clear hgx hzx hxx; replace hl4 := (hl4.kept hN).grown ((Grown.refl _).alloc (.cells #[.string x5.path, .int .i64 x5.kind, .string x5.text, .bool x5.opq] 38)); replace hB := Below.onto hB hN; clear hN; replace hB := hB.alloc hB.size (.cells #[.string x5.path, .int .i64 x5.kind, .string x5.text, .bool x5.opq] 38))
              | (go_at_call 31; refine (hg3 _ hB).mono ?_; clear hg3; rintro rr w6 ⟨rfl, hN⟩; replace hl4 := (hl4.kept hN).grown ((Grown.refl _).alloc (.cells #[.string a2.path, .int .i64 a2.kind, .string a2.text, .bool a2.opq] 38)); replace hB := Below.onto hB hN; clear hN; replace hB := hB.alloc hB.size (.cells #[.string a2.path, .int .i64 a2.kind, .string a2.text, .bool a2.opq] 38)))
            go_ret
            exact ⟨rfl, hB⟩
          · rw [hu] at hun
            go_enter Tryd.func9, Tryd.ntmps9
            go_wp2_with (first
              | (go_at_call 42; refine (hal _ hB).mono ?_; clear hal; rintro rr w1 ⟨rfl, hN⟩; replace hB := Below.onto hB hN; clear hN)
              | (go_at_call 40; refine (hmv _ hB).mono ?_; clear hmv; rintro rr w2 ⟨l, ⟨p4, c4, rfl, hl4, hc4, hn4, hN⟩, hres⟩; have HM : Aside (MvRes t frm to l) := hres; clear hres; replace hB := Below.onto hB hN; clear hN)
              | (go_at_call 29; refine (hw2 _ hB l p4 c4 hl4 hc4 HM.out.right).mono ?_; clear hw2; rintro rr w3 ⟨rfl, hN⟩; replace hl4 := hl4.kept hN; replace hB := Below.onto hB hN; clear hN)
              | (go_at_call 31; refine (hg0 _ hB).mono ?_; clear hg0; rintro rr w4 ⟨rfl, hN⟩; replace hl4 := (hl4.kept hN).grown ((Grown.refl _).alloc (.cells #[.string new, .int .i64 0, .string ⟨#[]⟩, .bool false] 38)); replace hB := Below.onto hB hN; clear hN; have hBa : Below (w4.heap.size + 1) (w4.alloc (.cells #[.string new, .int .i64 0, .string ⟨#[]⟩, .bool false] 38)) (w4.alloc (.cells #[.string new, .int .i64 0, .string ⟨#[]⟩, .bool false] 38)) := Below.refl _ _; replace hB := Below.onto hB (base1 hBa))
              | (go_at_call 18; refine (hun _).mono ?_; rintro rr wx ⟨rfl, hwx⟩; subst wx)
              | (go_at_call 31; refine (hg1 _ l p4 c4 hl4 HM.out.right).mono ?_; clear hg1; rintro rr w5 ⟨x5, b5, rfl, hgx, hzx, hxx, hN⟩; clear hgx hzx hxx; replace hl4 := (hl4.kept hN).grown ((Grown.refl _).alloc (.cells #[.string x5.path, .int .i64 x5.kind, .string x5.text, .bool x5.opq] 38)); replace hB := Below.onto hB hN; clear hN; replace hB := hB.alloc hB.size (.cells #[.string x5.path, .int .i64 x5.kind, .string x5.text, .bool x5.opq] 38))
              | (go_at_call 31; refine (hg3 _ hB).mono ?_; clear hg3; rintro rr w6 ⟨rfl, hN⟩; replace hl4 := (hl4.kept hN).grown ((Grown.refl _).alloc (.cells #[.string a2.path, .int .i64 a2.kind, .string a2.text, .bool a2.opq] 38)); replace hB := Below.onto hB hN; clear hN; replace hB := hB.alloc hB.size (.cells #[.string a2.path, .int .i64 a2.kind, .string a2.text, .bool a2.opq] 38)))
            go_ret
            exact ⟨rfl, hB⟩
        | none =>
          have hg0 := fun W (hB : Below w.heap.size w W) => get_det t other p cap W (hL.kept hB) hF hn hot hs zeroE false (getD_none hga).1 (getD_none hga).2
          have hg1 := fun W (l : List Ent) (p' : Option Addr) (c' : Nat) (hL' : Lies W p' l) (hR : Right false l) => get_any l new p' c' W hL' (right_fits hR) (by have := hR.len; omega) hnw
          unfold zeroE at hg0
          have hg3 := fun W (hB : Below w.heap.size w W) => get_det t to p cap W (hL.kept hB) hF hn ht hs zeroE false (getD_none hgb).1 (getD_none hgb).2
          unfold zeroE at hg3
          replace hmb := hmb hgb
          clear hga hgb hL hF hcap hnil hs hr hsrc hfne h0 HX
          generalize t.length = n at *
          rcases HW with ⟨e1, e2⟩ | ⟨e1, e2, hu⟩
          · go_enter Tryd.func9, Tryd.ntmps9
            go_wp2_with (first
              | (go_at_call 42; refine (hal _ hB).mono ?_; clear hal; rintro rr w1 ⟨rfl, hN⟩; replace hB := Below.onto hB hN; clear hN)
              | (go_at_call 40; refine (hmv _ hB).mono ?_; clear hmv; rintro rr w2 ⟨l, ⟨p4, c4, rfl, hl4, hc4, hn4, hN⟩, hres⟩; have HM : Aside (MvRes t frm to l) := hres; clear hres; replace hB := Below.onto hB hN; clear hN)
              | (go_at_call 29; refine (hw2 _ hB l p4 c4 hl4 hc4 HM.out.right).mono ?_; clear hw2; rintro rr w3 ⟨rfl, hN⟩; replace hl4 := hl4.kept hN; replace hB := Below.onto hB hN; clear hN)
              | (go_at_call 31; refine (hg0 _ hB).mono ?_; clear hg0; rintro rr w4 ⟨rfl, hN⟩; replace hl4 := (hl4.kept hN).grown ((Grown.refl _).alloc (.cells #[.string new, .int .i64 0, .string ⟨#[]⟩, .bool false] 38)); replace hB := Below.onto hB hN; clear hN; have hBa : Below (w4.heap.size + 1) (w4.alloc (.cells #[.string new, .int .i64 0, .string ⟨#[]⟩, .bool false] 38)) (w4.alloc (.cells #[.string new, .int .i64 0, .string ⟨#[]⟩, .bool false] 38)) := Below.refl _ _; replace hB := Below.onto hB (base1 hBa))
              | (go_at_call 18; refine (hun _).mono ?_; rintro rr wx ⟨rfl, hwx⟩; subst wx)
              | (go_at_call 31; refine (hg1 _ l p4 c4 hl4 HM.out.right).mono ?_; clear hg1; rintro rr w5 ⟨x5, b5, rfl, hgx, hzx, hxx, hN⟩; clear hgx hzx hxx; replace hl4 := (hl4.kept hN).grown ((Grown.refl _).alloc (.cells #[.string x5.path, .int .i64 x5.kind, .string x5.text, .bool x5.opq] 38)); replace hB := Below.onto hB hN; clear hN; replace hB := hB.alloc hB.size (.cells #[.string x5.path, .int .i64 x5.kind, .string x5.text, .bool x5.opq] 38))
              | (go_at_call 31; refine (hg3 _ hB).mono ?_; clear hg3; rintro rr w6 ⟨rfl, hN⟩; replace hl4 := (hl4.kept hN).grown ((Grown.refl _).alloc (.cells #[.string ⟨#[]⟩, .int .i64 0, .string ⟨#[]⟩, .bool false] 38)); replace hB := Below.onto hB hN; clear hN; replace hB := hB.alloc hB.size (.cells #[.string ⟨#[]⟩, .int .i64 0, .string ⟨#[]⟩, .bool false] 38))
              | (go_at_call 40; refine (hmb _ hB l p4 c4 hl4 hc4 hn4 HM.out).mono ?_; clear hmb; rintro rr w7 ⟨p7, c7, rfl, hl7, hc7, hn7, hN⟩; replace hB := Below.onto hB hN; clear hN)
              | (go_at_call 37; refine (hsa _ hB p7 c7 hl7).mono ?_; clear hsa; rintro rr w8 ⟨rfl, hN⟩; replace hB := Below.onto hB hN; clear hN))
            go_ret
            exact ⟨rfl, hB⟩
          · rw [hu] at hun
            go_enter Tryd.func9, Tryd.ntmps9
            go_wp2_with (first
              | (go_at_call 42; refine (hal _ hB).mono ?_; clear hal; rintro rr w1 ⟨rfl, hN⟩; replace hB := Below.onto hB hN; clear hN)
              | (go_at_call 40; refine (hmv _ hB).mono ?_; clear hmv; rintro rr w2 ⟨l, ⟨p4, c4, rfl, hl4, hc4, hn4, hN⟩, hres⟩; have HM : Aside (MvRes t frm to l) := hres; clear hres; replace hB := Below.onto hB hN; clear hN)
              | (go_at_call 29; refine (hw2 _ hB l p4 c4 hl4 hc4 HM.out.right).mono ?_; clear hw2; rintro rr w3 ⟨rfl, hN⟩; replace hl4 := hl4.kept hN; replace hB := Below.onto hB hN; clear hN)
              | (go_at_call 31; refine (hg0 _ hB).mono ?_; clear hg0; rintro rr w4 ⟨rfl, hN⟩; replace hl4 := (hl4.kept hN).grown ((Grown.refl _).alloc (.cells #[.string new, .int .i64 0, .string ⟨#[]⟩, .bool false] 38)); replace hB := Below.onto hB hN; clear hN; have hBa : Below (w4.heap.size + 1) (w4.alloc (.cells #[.string new, .int .i64 0, .string ⟨#[]⟩, .bool false] 38)) (w4.alloc (.cells #[.string new, .int .i64 0, .string ⟨#[]⟩, .bool false] 38)) := Below.refl _ _; replace hB := Below.onto hB (base1 hBa))
              | (go_at_call 18; refine (hun _).mono ?_; rintro rr wx ⟨rfl, hwx⟩; subst wx)
              | (go_at_call 31; refine (hg1 _ l p4 c4 hl4 HM.out.right).mono ?_; clear hg1; rintro rr w5 ⟨x5, b5, rfl, hgx, hzx, hxx, hN⟩; clear hgx hzx hxx; replace hl4 := (hl4.kept hN).grown ((Grown.refl _).alloc (.cells #[.string x5.path, .int .i64 x5.kind, .string x5.text, .bool x5.opq] 38)); replace hB := Below.onto hB hN; clear hN; replace hB := hB.alloc hB.size (.cells #[.string x5.path, .int .i64 x5.kind, .string x5.text, .bool x5.opq] 38))
              | (go_at_call 31; refine (hg3 _ hB).mono ?_; clear hg3; rintro rr w6 ⟨rfl, hN⟩; replace hl4 := (hl4.kept hN).grown ((Grown.refl _).alloc (.cells #[.string ⟨#[]⟩, .int .i64 0, .string ⟨#[]⟩, .bool false] 38)); replace hB := Below.onto hB hN; clear hN; replace hB := hB.alloc hB.size (.cells #[.string ⟨#[]⟩, .int .i64 0, .string ⟨#[]⟩, .bool false] 38))
              | (go_at_call 40; refine (hmb _ hB l p4 c4 hl4 hc4 hn4 HM.out).mono ?_; clear hmb; rintro rr w7 ⟨p7, c7, rfl, hl7, hc7, hn7, hN⟩; replace hB := Below.onto hB hN; clear hN)
              | (go_at_call 37; refine (hsa _ hB p7 c7 hl7).mono ?_; clear hsa; rintro rr w8 ⟨rfl, hN⟩; replace hB := Below.onto hB hN; clear hN))
            go_ret
            exact ⟨rfl, hB⟩
    · have hne : ¬ frm.data.toList = to.data.toList := fun e => h1 (h3.trans e.symm)
      obtain ⟨e1, e2⟩ := ne_parts h1
      obtain ⟨e3, e4⟩ := eq_parts h3
      obtain ⟨e5, e6⟩ := ne_parts hne
      obtain ⟨e7, e8⟩ := ne_parts (fun e => hne e.symm : ¬ to.data.toList = frm.data.toList)
      rw [h2] at hun
      obtain ⟨was, hwas⟩ : ∃ was, (getL t other.data.toList).getD zeroE = was := ⟨_, rfl⟩
      obtain ⟨had, hhad⟩ : ∃ had, (getL t other.data.toList).isSome = had := ⟨_, rfl⟩
      have hg0 := fun W (hB : Below w.heap.size w W) => get_det t other p cap W (hL.kept hB) hF hn hot hs was had hwas hhad
      clear hL hF hcap hnil hs hr hsrc hfne h0 HX h1 h2 h3 hne hwas hhad hmb hsa
      generalize t.length = n at *
      go_enter Tryd.func9, Tryd.ntmps9
      go_wp2_with (first
        | (go_at_call 42; refine (hal _ hB).mono ?_; clear hal; rintro rr w1 ⟨rfl, hN⟩; replace hB := Below.onto hB hN; clear hN)
        | (go_at_call 40; refine (hmv _ hB).mono ?_; clear hmv; rintro rr w2 ⟨l, ⟨p4, c4, rfl, hl4, hc4, hn4, hN⟩, hres⟩; have HM : Aside (MvRes t frm to l) := hres; clear hres; replace hB := Below.onto hB hN; clear hN)
        | (go_at_call 29; refine (hw2 _ hB l p4 c4 hl4 hc4 HM.out.right).mono ?_; clear hw2; rintro rr w3 ⟨rfl, hN⟩; replace hl4 := hl4.kept hN; replace hB := Below.onto hB hN; clear hN)
        | (go_at_call 31; refine (hg0 _ hB).mono ?_; clear hg0; rintro rr w4 ⟨rfl, hN⟩; replace hl4 := (hl4.kept hN).grown ((Grown.refl _).alloc (.cells #[.string was.path, .int .i64 was.kind, .string was.text, .bool was.opq] 38)); replace hB := Below.onto hB hN; clear hN; have hBa : Below (w4.heap.size + 1) (w4.alloc (.cells #[.string was.path, .int .i64 was.kind, .string was.text, .bool was.opq] 38)) (w4.alloc (.cells #[.string was.path, .int .i64 was.kind, .string was.text, .bool was.opq] 38)) := Below.refl _ _; replace hB := Below.onto hB (base1 hBa))
        | (go_at_call 18; refine (hun _).mono ?_; rintro rr wx ⟨rfl, hwx⟩; subst wx))
      go_ret
      exact ⟨rfl, hB⟩
    · obtain ⟨e1, e2⟩ := ne_parts h1
      obtain ⟨e3, e4⟩ := ne_parts h3
      rw [h2] at hun
      cases hga : getL t other.data.toList with
      | some a =>
        cases hgb : getL t to.data.toList with
        | some a2 =>
          have hg0 := fun W (hB : Below w.heap.size w W) => get_det t other p cap W (hL.kept hB) hF hn hot hs a true (getD_some hga).1 (getD_some hga).2
          have hg1 := fun W (l : List Ent) (p' : Option Addr) (c' : Nat) (hL' : Lies W p' l) (hR : MvRes t frm to l) => get_det l other p' c' W hL' (right_fits hR.right) (by have := hR.right.len; omega) hot hR.right.sorted a true (getD_some (hR.a2 _ a h1 h2 h3 hga)).1 (getD_some (hR.a2 _ a h1 h2 h3 hga)).2
          have hg3 := fun W (hB : Below w.heap.size w W) => get_det t to p cap W (hL.kept hB) hF hn ht hs a2 true (getD_some hgb).1 (getD_some hgb).2
          clear hmb hsa
          clear hga hgb hL hF hcap hnil hs hr hsrc hfne h0 HX
          clear h1 h2 h3
          generalize t.length = n at *
          go_enter Tryd.func9, Tryd.ntmps9
          go_wp2_with (first
            | (go_at_call 42; refine (hal _ hB).mono ?_; clear hal; rintro rr w1 ⟨rfl, hN⟩; replace hB := Below.onto hB hN; clear hN)
            | (go_at_call 40; refine (hmv _ hB).mono ?_; clear hmv; rintro rr w2 ⟨l, ⟨p4, c4, rfl, hl4, hc4, hn4, hN⟩, hres⟩; have HM : Aside (MvRes t frm to l) := hres; clear hres; replace hB := Below.onto hB hN; clear hN)
            | (go_at_call 29; refine (hw2 _ hB l p4 c4 hl4 hc4 HM.out.right).mono ?_; clear hw2; rintro rr w3 ⟨rfl, hN⟩; replace hl4 := hl4.kept hN; replace hB := Below.onto hB hN; clear hN)
            | (go_at_call 31; refine (hg0 _ hB).mono ?_; clear hg0; rintro rr w4 ⟨rfl, hN⟩; replace hl4 := (hl4.kept hN).grown ((Grown.refl _).alloc (.cells #[.string a.path, .int .i64 a.kind, .string a.text, .bool a.opq] 38)); replace hB := Below.onto hB hN; clear hN; have hBa : Below (w4.heap.size + 1) (w4.alloc (.cells #[.string a.path, .int .i64 a.kind, .string a.text, .bool a.opq] 38)) (w4.alloc (.cells #[.string a.path, .int .i64 a.kind, .string a.text, .bool a.opq] 38)) := Below.refl _ _; replace hB := Below.onto hB (base1 hBa))
            | (go_at_call 18; refine (hun _).mono ?_; rintro rr wx ⟨rfl, hwx⟩; subst wx)
            | (go_at_call 31; refine (hg1 _ l p4 c4 hl4 HM.out).mono ?_; clear hg1; rintro rr w5 ⟨rfl, hN⟩; replace hl4 := (hl4.kept hN).grown ((Grown.refl _).alloc (.cells #[.string a.path, .int .i64 a.kind, .string a.text, .bool a.opq] 38)); replace hB := Below.onto hB hN; replace hBa := upA (o2 := .cells #[.string a.path, .int .i64 a.kind, .string a.text, .bool a.opq] 38) (up1 hBa hN); clear hN; have hBb : Below (w5.heap.size + 1) (w5.alloc (.cells #[.string a.path, .int .i64 a.kind, .string a.text, .bool a.opq] 38)) (w5.alloc (.cells #[.string a.path, .int .i64 a.kind, .string a.text, .bool a.opq] 38)) := Below.refl _ _; replace hB := Below.onto hB (base1 hBb); obtain ⟨⟨ca0, ca1, ca2, ca3⟩, _⟩ := new4 (Nat.lt_succ_self _) hBa)
            | (go_at_call 31; refine (hg3 _ hB).mono ?_; clear hg3; rintro rr w6 ⟨rfl, hN⟩; replace hl4 := (hl4.kept hN).grown ((Grown.refl _).alloc (.cells #[.string a2.path, .int .i64 a2.kind, .string a2.text, .bool a2.opq] 38)); replace hB := Below.onto hB hN; clear hN; replace hB := hB.alloc hB.size (.cells #[.string a2.path, .int .i64 a2.kind, .string a2.text, .bool a2.opq] 38)))
          go_ret
          exact ⟨rfl, hB⟩
        | none =>
          have hg0 := fun W (hB : Below w.heap.size w W) => get_det t other p cap W (hL.kept hB) hF hn hot hs a true (getD_some hga).1 (getD_some hga).2
          have hg1 := fun W (l : List Ent) (p' : Option Addr) (c' : Nat) (hL' : Lies W p' l) (hR : MvRes t frm to l) => get_det l other p' c' W hL' (right_fits hR.right) (by have := hR.right.len; omega) hot hR.right.sorted a true (getD_some (hR.a2 _ a h1 h2 h3 hga)).1 (getD_some (hR.a2 _ a h1 h2 h3 hga)).2
          have hg3 := fun W (hB : Below w.heap.size w W) => get_det t to p cap W (hL.kept hB) hF hn ht hs zeroE false (getD_none hgb).1 (getD_none hgb).2
          unfold zeroE at hg3
          replace hmb := hmb hgb
          clear hga hgb hL hF hcap hnil hs hr hsrc hfne h0 HX
          clear h1 h2 h3
          generalize t.length = n at *
          go_enter Tryd.func9, Tryd.ntmps9
          go_wp2_with (first
            | (go_at_call 42; refine (hal _ hB).mono ?_; clear hal; rintro rr w1 ⟨rfl, hN⟩; replace hB := Below.onto hB hN; clear hN)
            | (go_at_call 40; refine (hmv _ hB).mono ?_; clear hmv; rintro rr w2 ⟨l, ⟨p4, c4, rfl, hl4, hc4, hn4, hN⟩, hres⟩; have HM : Aside (MvRes t frm to l) := hres; clear hres; replace hB := Below.onto hB hN; clear hN)
            | (go_at_call 29; refine (hw2 _ hB l p4 c4 hl4 hc4 HM.out.right).mono ?_; clear hw2; rintro rr w3 ⟨rfl, hN⟩; replace hl4 := hl4.kept hN; replace hB := Below.onto hB hN; clear hN)
            | (go_at_call 31; refine (hg0 _ hB).mono ?_; clear hg0; rintro rr w4 ⟨rfl, hN⟩; replace hl4 := (hl4.kept hN).grown ((Grown.refl _).alloc (.cells #[.string a.path, .int .i64 a.kind, .string a.text, .bool a.opq] 38)); replace hB := Below.onto hB hN; clear hN; have hBa : Below (w4.heap.size + 1) (w4.alloc (.cells #[.string a.path, .int .i64 a.kind, .string a.text, .bool a.opq] 38)) (w4.alloc (.cells #[.string a.path, .int .i64 a.kind, .string a.text, .bool a.opq] 38)) := Below.refl _ _; replace hB := Below.onto hB (base1 hBa))
            | (go_at_call 18; refine (hun _).mono ?_; rintro rr wx ⟨rfl, hwx⟩; subst wx)
            | (go_at_call 31; refine (hg1 _ l p4 c4 hl4 HM.out).mono ?_; clear hg1; rintro rr w5 ⟨rfl, hN⟩; replace hl4 := (hl4.kept hN).grown ((Grown.refl _).alloc (.cells #[.string a.path, .int .i64 a.kind, .string a.text, .bool a.opq] 38)); replace hB := Below.onto hB hN; replace hBa := upA (o2 := .cells #[.string a.path, .int .i64 a.kind, .string a.text, .bool a.opq] 38) (up1 hBa hN); clear hN; have hBb : Below (w5.heap.size + 1) (w5.alloc (.cells #[.string a.path, .int .i64 a.kind, .string a.text, .bool a.opq] 38)) (w5.alloc (.cells #[.string a.path, .int .i64 a.kind, .string a.text, .bool a.opq] 38)) := Below.refl _ _; replace hB := Below.onto hB (base1 hBb); obtain ⟨⟨ca0, ca1, ca2, ca3⟩, _⟩ := new4 (Nat.lt_succ_self _) hBa)
            | (go_at_call 31; refine (hg3 _ hB).mono ?_; clear hg3; rintro rr w6 ⟨rfl, hN⟩; replace hl4 := (hl4.kept hN).grown ((Grown.refl _).alloc (.cells #[.string ⟨#[]⟩, .int .i64 0, .string ⟨#[]⟩, .bool false] 38)); replace hB := Below.onto hB hN; clear hN; replace hB := hB.alloc hB.size (.cells #[.string ⟨#[]⟩, .int .i64 0, .string ⟨#[]⟩, .bool false] 38))
            | (go_at_call 40; refine (hmb _ hB l p4 c4 hl4 hc4 hn4 HM.out).mono ?_; clear hmb; rintro rr w7 ⟨p7, c7, rfl, hl7, hc7, hn7, hN⟩; replace hB := Below.onto hB hN; clear hN)
            | (go_at_call 37; refine (hsa _ hB p7 c7 hl7).mono ?_; clear hsa; rintro rr w8 ⟨rfl, hN⟩; replace hB := Below.onto hB hN; clear hN))
          go_ret
          exact ⟨rfl, hB⟩
      | none =>
        cases hgb : getL t to.data.toList with
        | some a2 =>
          have hg0 := fun W (hB : Below w.heap.size w W) => get_det t other p cap W (hL.kept hB) hF hn hot hs zeroE false (getD_none hga).1 (getD_none hga).2
          have hg1 := fun W (l : List Ent) (p' : Option Addr) (c' : Nat) (hL' : Lies W p' l) (hR : Right false l) => get_any l other p' c' W hL' (right_fits hR) (by have := hR.len; omega) hot
          unfold zeroE at hg0
          have hg3 := fun W (hB : Below w.heap.size w W) => get_det t to p cap W (hL.kept hB) hF hn ht hs a2 true (getD_some hgb).1 (getD_some hgb).2
          clear hmb hsa
          clear hga hgb hL hF hcap hnil hs hr hsrc hfne h0 HX
          clear h1 h2 h3
          generalize t.length = n at *
          go_enter Tryd.func9, Tryd.ntmps9
          go_wp2_with (first
            | (go_at_call 42; refine (hal _ hB).mono ?_; clear hal; rintro rr w1 ⟨rfl, hN⟩; replace hB := Below.onto hB hN; clear hN)
            | (go_at_call 40; refine (hmv _ hB).mono ?_; clear hmv; rintro rr w2 ⟨l, ⟨p4, c4, rfl, hl4, hc4, hn4, hN⟩, hres⟩; have HM : Aside (MvRes t frm to l) := hres; clear hres; replace hB := Below.onto hB hN; clear hN)
            | (go_at_call 29; refine (hw2 _ hB l p4 c4 hl4 hc4 HM.out.right).mono ?_; clear hw2; rintro rr w3 ⟨rfl, hN⟩; replace hl4 := hl4.kept hN; replace hB := Below.onto hB hN; clear hN)
            | (go_at_call 31; refine (hg0 _ hB).mono ?_; clear hg0; rintro rr w4 ⟨rfl, hN⟩; replace hl4 := (hl4.kept hN).grown ((Grown.refl _).alloc (.cells #[.string ⟨#[]⟩, .int .i64 0, .string ⟨#[]⟩, .bool false] 38)); replace hB := Below.onto hB hN; clear hN; have hBa : Below (w4.heap.size + 1) (w4.alloc (.cells #[.string ⟨#[]⟩, .int .i64 0, .string ⟨#[]⟩, .bool false] 38)) (w4.alloc (.cells #[.string ⟨#[]⟩, .int .i64 0, .string ⟨#[]⟩, .bool false] 38)) := Below.refl _ _; replace hB := Below.onto hB (base1 hBa))
            | (go_at_call 18; refine (hun _).mono ?_; rintro rr wx ⟨rfl, hwx⟩; subst wx)
            | (go_at_call 31; refine (hg1 _ l p4 c4 hl4 HM.out.right).mono ?_; clear hg1; rintro rr w5 ⟨x5, b5, rfl, hgx, hzx, hxx, hN⟩; clear hgx hzx hxx; replace hl4 := (hl4.kept hN).grown ((Grown.refl _).alloc (.cells #[.string x5.path, .int .i64 x5.kind, .string x5.text, .bool x5.opq] 38)); replace hB := Below.onto hB hN; clear hN; replace hB := hB.alloc hB.size (.cells #[.string x5.path, .int .i64 x5.kind, .string x5.text, .bool x5.opq] 38))
            | (go_at_call 31; refine (hg3 _ hB).mono ?_; clear hg3; rintro rr w6 ⟨rfl, hN⟩; replace hl4 := (hl4.kept hN).grown ((Grown.refl _).alloc (.cells #[.string a2.path, .int .i64 a2.kind, .string a2.text, .bool a2.opq] 38)); replace hB := Below.onto hB hN; clear hN; replace hB := hB.alloc hB.size (.cells #[.string a2.path, .int .i64 a2.kind, .string a2.text, .bool a2.opq] 38)))
          go_ret
          exact ⟨rfl, hB⟩
        | none =>
          have hg0 := fun W (hB : Below w.heap.size w W) => get_det t other p cap W (hL.kept hB) hF hn hot hs zeroE false (getD_none hga).1 (getD_none hga).2
          have hg1 := fun W (l : List Ent) (p' : Option Addr) (c' : Nat) (hL' : Lies W p' l) (hR : Right false l) => get_any l other p' c' W hL' (right_fits hR) (by have := hR.len; omega) hot
          unfold zeroE at hg0
          have hg3 := fun W (hB : Below w.heap.size w W) => get_det t to p cap W (hL.kept hB) hF hn ht hs zeroE false (getD_none hgb).1 (getD_none hgb).2
          unfold zeroE at hg3
          replace hmb := hmb hgb
          clear hga hgb hL hF hcap hnil hs hr hsrc hfne h0 HX
          clear h1 h2 h3
          generalize t.length = n at *
          go_enter Tryd.func9, Tryd.ntmps9
          go_wp2_with (first
            | (go_at_call 42; refine (hal _ hB).mono ?_; clear hal; rintro rr w1 ⟨rfl, hN⟩; replace hB := Below.onto hB hN; clear hN)
            | (go_at_call 40; refine (hmv _ hB).mono ?_; clear hmv; rintro rr w2 ⟨l, ⟨p4, c4, rfl, hl4, hc4, hn4, hN⟩, hres⟩; have HM : Aside (MvRes t frm to l) := hres; clear hres; replace hB := Below.onto hB hN; clear hN)
            | (go_at_call 29; refine (hw2 _ hB l p4 c4 hl4 hc4 HM.out.right).mono ?_; clear hw2; rintro rr w3 ⟨rfl, hN⟩; replace hl4 := hl4.kept hN; replace hB := Below.onto hB hN; clear hN)
            | (go_at_call 31; refine (hg0 _ hB).mono ?_; clear hg0; rintro rr w4 ⟨rfl, hN⟩; replace hl4 := (hl4.kept hN).grown ((Grown.refl _).alloc (.cells #[.string ⟨#[]⟩, .int .i64 0, .string ⟨#[]⟩, .bool false] 38)); replace hB := Below.onto hB hN; clear hN; have hBa : Below (w4.heap.size + 1) (w4.alloc (.cells #[.string ⟨#[]⟩, .int .i64 0, .string ⟨#[]⟩, .bool false] 38)) (w4.alloc (.cells #[.string ⟨#[]⟩, .int .i64 0, .string ⟨#[]⟩, .bool false] 38)) := Below.refl _ _; replace hB := Below.onto hB (base1 hBa))
            | (go_at_call 18; refine (hun _).mono ?_; rintro rr wx ⟨rfl, hwx⟩; subst wx)
            | (go_at_call 31; refine (hg1 _ l p4 c4 hl4 HM.out.right).mono ?_; clear hg1; rintro rr w5 ⟨x5, b5, rfl, hgx, hzx, hxx, hN⟩; clear hgx hzx hxx; replace hl4 := (hl4.kept hN).grown ((Grown.refl _).alloc (.cells #[.string x5.path, .int .i64 x5.kind, .string x5.text, .bool x5.opq] 38)); replace hB := Below.onto hB hN; clear hN; replace hB := hB.alloc hB.size (.cells #[.string x5.path, .int .i64 x5.kind, .string x5.text, .bool x5.opq] 38))
            | (go_at_call 31; refine (hg3 _ hB).mono ?_; clear hg3; rintro rr w6 ⟨rfl, hN⟩; replace hl4 := (hl4.kept hN).grown ((Grown.refl _).alloc (.cells #[.string ⟨#[]⟩, .int .i64 0, .string ⟨#[]⟩, .bool false] 38)); replace hB := Below.onto hB hN; clear hN; replace hB := hB.alloc hB.size (.cells #[.string ⟨#[]⟩, .int .i64 0, .string ⟨#[]⟩, .bool false] 38))
            | (go_at_call 40; refine (hmb _ hB l p4 c4 hl4 hc4 hn4 HM.out).mono ?_; clear hmb; rintro rr w7 ⟨p7, c7, rfl, hl7, hc7, hn7, hN⟩; replace hB := Below.onto hB hN; clear hN)
            | (go_at_call 37; refine (hsa _ hB p7 c7 hl7).mono ?_; clear hsa; rintro rr w8 ⟨rfl, hN⟩; replace hB := Below.onto hB hN; clear hN))
          go_ret
          exact ⟨rfl, hB⟩
  · have hmv := fun W (hB : Below w.heap.size w W) => move_any t frm to m p cap W (hL.kept hB) hF hn hcap hnil hf ht (held hB hm)
    clear hL hF hcap hnil
    generalize t.length = n at *
    unfold MovePost TreePost at hmv
    generalize moveErr t frm to = er at h0 hmv
    go_enter Tryd.func9, Tryd.ntmps9
    go_wp2_with (first
      | (go_at_call 42; refine (hal _ hB).mono ?_; clear hal; rintro rr w1 ⟨rfl, hN⟩; replace hB := Below.onto hB hN; clear hN)
      | (go_at_call 40; refine (hmv _ hB).mono ?_; clear hmv; rintro rr w2 ⟨l, ⟨p4, c4, rfl, hl4, hc4, hn4, hN⟩, hz, hk⟩; clear hk; replace hB := Below.onto hB hN; clear hN; obtain rfl : l = [] := hz h0; clear hz))
    go_ret
    exact ⟨rfl, hB⟩
end Go.Proofs.YtampldoimpfjgaaDoor
