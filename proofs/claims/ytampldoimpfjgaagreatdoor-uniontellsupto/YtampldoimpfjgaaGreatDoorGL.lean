/-
  union.firstWith and Look; alive of chapter 4; the statements UnionSeen and UnionLook.
-/
import Derived.Test.YtampldoimpfjgaaGreatDoorGK
namespace Go.Proofs.YtampldoimpfjgaaGreatDoor
open Go.RowKit PM Go.Sort
set_option linter.unusedVariables false

namespace PM
/-- The first layer that has something at a path; -1, if none has. -/
def idxFrom (q : List UInt8) (i : Nat) : List (List Ent) → Int
  | [] => -1
  | x :: r => if (getL x q).isSome then (i : Int) else idxFrom q (i + 1) r
end PM
theorem idx_step {all : List (List Ent)} {q : List UInt8} {k : Nat} {x : List Ent} (hx : all[k]? = some x) : idxFrom q k (all.drop k) = if (getL x q).isSome then (k : Int) else idxFrom q (k + 1) (all.drop (k + 1)) := by
  obtain ⟨h1, h2⟩ := List.getElem?_eq_some_iff.1 hx
  rw [List.drop_eq_getElem_cons h1, h2, idxFrom]
set_option maxHeartbeats 1000000 in
set_option maxRecDepth 100000 in
theorem has1_any (x : Lay) (q : ByteArray) (P0 : Nat) (X : World) (hx : LayOK X x) (hs : Sorted x.es) (hq : q.size ≤ maxLen) (h0 : X.cell? ⟨P0, 0, none⟩ = some (.string q)) :
    Calls Tryz.prog 58 #[.slice x.ad x.es.length x.cap, .pointer (some ⟨P0, 0, none⟩)] X fun r X' => r = .returned (.bool (getL x.es q.data.toList).isSome) ∧ Below X.heap.size X X' := by
  have hg := get_det x.es q x.ad x.cap X hx.lies hx.fits hx.small hq hs _ _ rfl rfl
  generalize (getL x.es q.data.toList).isSome = b at hg ⊢
  generalize (getL x.es q.data.toList).getD zeroE = z at hg
  obtain ⟨zp, zk, zt, zo⟩ := z
  generalize x.es.length = n at hg ⊢
  clear hx
  go_enter Tryz.func58, Tryz.ntmps58
  go_wp2_with (go_at_call 23; refine hg.mono ?_; clear hg; rintro r w1 ⟨rfl, hN⟩)
  go_ret
  exact ⟨rfl, hN.alloc hN.size _⟩
set_option maxHeartbeats 2000000 in
set_option maxRecDepth 100000 in
theorem indexT_any (all : List Lay) (q : ByteArray) (P0 : Nat) (p : Option Addr) (cap : Nat) (w : World) (hT : LiesT w p all) (hOK : ∀ x ∈ all, LayOK w x ∧ Sorted x.es) (hn : all.length ≤ 80) (hq : q.size ≤ maxLen) (h0 : w.cell? ⟨P0, 0, none⟩ = some (.string q)) :
    Calls Tryz.prog 57 #[.slice p all.length cap, .func (.func 58) #[] #[.pointer (some ⟨P0, 0, none⟩)]] w fun r w' => r = .returned (.int .i64 (idxFrom q.data.toList 0 (all.map (·.es)))) ∧ Below w.heap.size w w' := by
  have eg : ∀ args w, (callFunc 58 args).run Tryz.prog w = .ok (.enter 58 args) w := enters_of Tryz.func58 (by kernel_rfl) rfl
  have HT : Aside (LiesT w p all) := hT
  have HOK : Aside (∀ x ∈ all, LayOK w x ∧ Sorted x.es) := hOK
  have hPl := block_lt_of_cell h0
  simp only at hPl
  obtain ⟨n, hnl⟩ : ∃ n, n = all.length := ⟨_, rfl⟩
  have HN : Aside (n = all.length) := hnl
  rw [← hnl] at hn ⊢
  obtain ⟨rr, hrr⟩ : ∃ rr, rr = idxFrom q.data.toList 0 (all.map (·.es)) := ⟨_, rfl⟩
  have HR : Aside (rr = idxFrom q.data.toList 0 (all.map (·.es))) := hrr
  rw [← hrr]
  clear hT hOK hnl hrr
  go_enter Tryz.func57, Tryz.ntmps57
  go_wp2
  go_loopg [8] n (fun gg s8 wr => ∃ k : Nat, k ≤ n ∧ n - k ≤ gg ∧ s8 = .int .i64 k ∧ Aside (Below w.heap.size w wr) ∧ Aside (idxFrom q.data.toList k ((all.map (·.es)).drop k) = rr))
  case atStart => exact ⟨0, Nat.zero_le _, by omega, rfl, Below.refl _ _, HR.out.symm⟩
  case round =>
    obtain ⟨k, hk, hgg, rfl, BW, HE⟩ := hrel
    by_cases hlt : k < n
    · have hltz : (k : Int) < (n : Int) := by omega
      obtain ⟨x, hx⟩ : ∃ x, all[k]? = some x := ⟨_, List.getElem?_eq_getElem (by have := HN.out; omega)⟩
      obtain ⟨hx1, hx2⟩ := HOK.out x (List.mem_of_getElem? hx)
      have hcall := has1_any x q P0 wr (hx1.kept BW.out) hx2 hq ((BW.out.cell (p := ⟨P0, 0, none⟩) hPl).trans h0)
      have HST : Aside (idxFrom q.data.toList k ((all.map (·.es)).drop k) = if (getL x.es q.data.toList).isSome then (k : Int) else idxFrom q.data.toList (k + 1) ((all.map (·.es)).drop (k + 1))) := idx_step (by rw [List.getElem?_map, hx]; rfl)
      rcases HT.out with h0 | ⟨b, off, rfl, hb, hc⟩
      · rw [h0] at hx; simp at hx
      have c0 : wr.cell? ⟨b, off + k, none⟩ = some (.slice x.ad x.es.length x.cap) := (BW.out.cell (p := ⟨b, off + k, none⟩) hb).trans (hc k x hx)
      clear hc hx hx1 hx2
      generalize x.es.length = xn at c0 hcall
      cases hb' : (getL x.es q.data.toList).isSome with
      | true =>
        rw [hb'] at hcall
        have HZ : Aside (rr = (k : Int)) := by show _ = _; rw [← HE.out, HST.out, hb']; rfl
        go_wp2_with (go_at_fn 58; refine hcall.mono ?_; clear hcall; rintro e w2 ⟨rfl, hN2⟩)
        go_ret
        exact ⟨ret_int HZ.out.symm, Below.onto BW.out hN2⟩
      | false =>
        rw [hb'] at hcall
        have HZ : Aside (idxFrom q.data.toList (k + 1) ((all.map (·.es)).drop (k + 1)) = rr) := by show _ = _; rw [← HE.out, HST.out, hb']; rfl
        go_wp2_with (go_at_fn 58; refine hcall.mono ?_; clear hcall; rintro e w2 ⟨rfl, hN2⟩)
        go_roundg (n - (k + 1))
        case measure => omega
        case rel => exact ⟨k + 1, by omega, by omega, by go_num, Below.onto BW.out hN2, HZ.out⟩
    · have hltz : ¬ (k : Int) < (n : Int) := by omega
      have HZ : Aside (rr = -1) := by
        show _ = _
        rw [← HE.out, List.drop_of_length_le (by rw [List.length_map]; have := HN.out; omega)]; rfl
      go_wp2
      go_ret
      exact ⟨ret_int HZ.out.symm, BW.out⟩
set_option maxHeartbeats 1000000 in
set_option maxRecDepth 100000 in
theorem firstWith_any (y : Lay) (ls : List Lay) (pl : Option Addr) (cl : Nat) (q : ByteArray) (w : World) (hUn : UnOK w y ls pl cl) (hr : ∀ x ∈ y :: ls, Sorted x.es) (hn : ls.length ≤ 4) (hq : q.size ≤ maxLen) :
    Calls Tryz.prog 24 #[.agg #[.slice y.ad y.es.length y.cap, .slice pl ls.length cl], .string q] w fun r w' => r = .returned (.int .i64 (idxFrom q.data.toList 0 (y.es :: ls.map (·.es)))) ∧ Below w.heap.size w w' := by
  obtain ⟨W0, hW0⟩ : ∃ W0, (w.alloc (.cells #[.slice y.ad y.es.length y.cap, .slice pl ls.length cl] 26)).alloc (.cells #[.string q] 9) = W0 := ⟨_, rfl⟩
  have hBw : Below w.heap.size w W0 := by rw [← hW0]; exact ((Below.refl _ _).alloc (Nat.le_refl _) _).alloc (by simp) _
  have hP : W0.cell? ⟨w.heap.size + 1, 0, none⟩ = some (.string q) := by rw [← hW0]; exact cell_top2 _ _ (by simp) _ _
  have h0 := hUn.kept hBw
  have hly := layers_any y ls pl cl W0 h0.lies (by omega) h0.nil
  have hix : ∀ X v base, Below W0.heap.size W0 X → RowsT X base v (y :: ls) → Calls Tryz.prog 57 #[v, .func (.func 58) #[] #[.pointer (some ⟨w.heap.size + 1, 0, none⟩)]] X fun r w' => r = .returned (.int .i64 (idxFrom q.data.toList 0 (y.es :: ls.map (·.es)))) ∧ Below X.heap.size X w' := fun X v base hB hR => by
    obtain ⟨p, c, rfl, hL⟩ := hR.form
    exact indexT_any (y :: ls) q (w.heap.size + 1) p c X hL (fun x hx => ⟨(h0.all x hx).kept hB, hr x hx⟩) (by simp; omega) hq ((hB.cell (p := ⟨w.heap.size + 1, 0, none⟩) (block_lt_of_cell hP)).trans hP)
  generalize idxFrom q.data.toList 0 (y.es :: ls.map (·.es)) = ri at hix ⊢
  have HBW : Aside (Below w.heap.size w W0) := hBw
  rw [← hW0] at hly hix
  obtain ⟨k, hk⟩ : ∃ k, k = y.es.length := ⟨_, rfl⟩
  obtain ⟨n, hn'⟩ : ∃ n, n = ls.length := ⟨_, rfl⟩
  rw [← hk, ← hn'] at hly hix hW0 ⊢
  have HW0 : Aside _ := hW0
  clear hUn hr h0 hP hBw hk hn' hW0
  go_enter Tryz.func24, Tryz.ntmps24
  go_wp2_with (first
    | (go_at_call 47; refine hly.mono ?_; clear hly; rintro r w2 ⟨⟨v2, rfl, hR2⟩, hN2⟩; have HR2 : Aside _ := hR2; have HN2 : Aside _ := hN2; clear hR2 hN2)
    | (go_at_call 57; refine (hix _ _ _ HN2.out HR2.out).mono ?_; clear hix; rintro r w3 ⟨rfl, hN3⟩))
  go_ret
  have h2 := HN2.out
  rw [HW0.out] at h2
  exact ⟨rfl, Below.onto (Below.onto HBW.out h2) hN3⟩
end Go.Proofs.YtampldoimpfjgaaGreatDoor
namespace Go.Proofs.YtampldoimpfjgaaGreatDoor
open Go.RowKit PM Go.Sort
set_option linter.unusedVariables false

namespace PM
def lookErr (all : List (List Ent)) (q : List UInt8) : Int := if (wrongU all).1 = 0 then (if clean q then (if (getL (seenU all) q).isSome then 0 else 6) else 7) else (wrongU all).1
end PM
theorem res4 {w W : World} {o : Obj} {a b c d : Value} {t : TypeId} (h : Below (w.heap.size + 2) ((w.alloc o).alloc (.cells #[a, b, c, d] t)) W) :
    (W.cell? ⟨w.heap.size + 1, 0, none⟩ = some a ∧ W.cell? ⟨w.heap.size + 1, 1, none⟩ = some b ∧ W.cell? ⟨w.heap.size + 1, 2, none⟩ = some c ∧ W.cell? ⟨w.heap.size + 1, 3, none⟩ = some d) ∧ (W.frozen? ⟨w.heap.size + 1, 0, none⟩ = false ∧ W.frozen? ⟨w.heap.size + 1, 1, none⟩ = false ∧ W.frozen? ⟨w.heap.size + 1, 2, none⟩ = false ∧ W.frozen? ⟨w.heap.size + 1, 3, none⟩ = false) := by
  have := new4 (w := w.alloc o) (B := w.heap.size + 2) (by simp) h
  simpa using this
theorem four_cells {X : World} {B : Nat} {x0 x1 x2 x3 : Value} (a b c d : Value) (r0 : X.cell? ⟨B, 0, none⟩ = some x0) (r1 : X.cell? ⟨B, 1, none⟩ = some x1) (r2 : X.cell? ⟨B, 2, none⟩ = some x2) (r3 : X.cell? ⟨B, 3, none⟩ = some x3) :
    ((((X.setCell ⟨B, 0, none⟩ a).setCell ⟨B, 1, none⟩ b).setCell ⟨B, 2, none⟩ c).setCell ⟨B, 3, none⟩ d).cell? ⟨B, 0, none⟩ = some a ∧ ((((X.setCell ⟨B, 0, none⟩ a).setCell ⟨B, 1, none⟩ b).setCell ⟨B, 2, none⟩ c).setCell ⟨B, 3, none⟩ d).cell? ⟨B, 1, none⟩ = some b ∧ ((((X.setCell ⟨B, 0, none⟩ a).setCell ⟨B, 1, none⟩ b).setCell ⟨B, 2, none⟩ c).setCell ⟨B, 3, none⟩ d).cell? ⟨B, 2, none⟩ = some c ∧ ((((X.setCell ⟨B, 0, none⟩ a).setCell ⟨B, 1, none⟩ b).setCell ⟨B, 2, none⟩ c).setCell ⟨B, 3, none⟩ d).cell? ⟨B, 3, none⟩ = some d := by
  have ne : ∀ i j : Nat, i ≠ j → (⟨B, i, none⟩ : Addr) ≠ ⟨B, j, none⟩ := fun i j h e => by cases e; exact h rfl
  refine ⟨?_, ?_, ?_, ?_⟩
  · rw [World.cell?_setCell_other _ _ _ _ (ne 3 0 (by decide)), World.cell?_setCell_other _ _ _ _ (ne 2 0 (by decide)), World.cell?_setCell_other _ _ _ _ (ne 1 0 (by decide))]
    exact World.cell?_setCell_same' _ _ _ (by rw [r0]; rfl)
  · rw [World.cell?_setCell_other _ _ _ _ (ne 3 1 (by decide)), World.cell?_setCell_other _ _ _ _ (ne 2 1 (by decide))]
    refine World.cell?_setCell_same' _ _ _ ?_
    rw [World.cell?_setCell_other _ _ _ _ (ne 0 1 (by decide)), r1]; rfl
  · rw [World.cell?_setCell_other _ _ _ _ (ne 3 2 (by decide))]
    refine World.cell?_setCell_same' _ _ _ ?_
    rw [World.cell?_setCell_other _ _ _ _ (ne 1 2 (by decide)), World.cell?_setCell_other _ _ _ _ (ne 0 2 (by decide)), r2]; rfl
  · refine World.cell?_setCell_same' _ _ _ ?_
    rw [World.cell?_setCell_other _ _ _ _ (ne 2 3 (by decide)), World.cell?_setCell_other _ _ _ _ (ne 1 3 (by decide)), World.cell?_setCell_other _ _ _ _ (ne 0 3 (by decide)), r3]; rfl
theorem store4 {w W : World} {o o2 : Obj} (h : Below (w.heap.size + 2) ((w.alloc o).alloc o2) W) (a b c d : Value) : Below w.heap.size w ((((W.setCell ⟨w.heap.size + 1, 0, none⟩ a).setCell ⟨w.heap.size + 1, 1, none⟩ b).setCell ⟨w.heap.size + 1, 2, none⟩ c).setCell ⟨w.heap.size + 1, 3, none⟩ d) :=
  ((((down2 h).setCell (p := ⟨w.heap.size + 1, 0, none⟩) (by simp) _).setCell (p := ⟨w.heap.size + 1, 1, none⟩) (by simp) _).setCell (p := ⟨w.heap.size + 1, 2, none⟩) (by simp) _).setCell (p := ⟨w.heap.size + 1, 3, none⟩) (by simp) _
set_option maxHeartbeats 2000000 in
set_option maxRecDepth 100000 in
theorem look_e1 (w : World) (a : Option Addr) (k c : Nat) (pl : Option Addr) (n cl : Nat) (er ea : Int) (sl : List Ent) (q : ByteArray) (hmd : MdC w a k c pl n cl er ea sl) (he : ¬ er = 0) :
    Calls Tryz.prog 9 #[.agg #[.slice a k c, .slice pl n cl], .string q] w fun r w' => r = .returned (.tuple #[.agg #[.string ⟨#[]⟩, .int .i64 0, .string ⟨#[]⟩, .bool false], .int .i64 0, .int .i64 er]) ∧ Below w.heap.size w w' := by
  have HB2 : Aside (Below (w.heap.size + 2) ((w.alloc (.cells #[.slice a k c, .slice pl n cl] 26)).alloc (.cells #[.string ⟨#[]⟩, .int .i64 0, .string ⟨#[]⟩, .bool false] 28)) ((w.alloc (.cells #[.slice a k c, .slice pl n cl] 26)).alloc (.cells #[.string ⟨#[]⟩, .int .i64 0, .string ⟨#[]⟩, .bool false] 28))) := Below.refl _ _
  go_enter Tryz.func9, Tryz.ntmps9
  go_wp2_with (go_at_call 18; refine (hmd _ (down2 HB2.out)).mono ?_; clear hmd; rintro e w3 ⟨p3, c3, rfl, hL3, hc3, hn3, hN3, hw3⟩; have HB3 : Aside (Below (w.heap.size + 2) ((w.alloc (.cells #[.slice a k c, .slice pl n cl] 26)).alloc (.cells #[.string ⟨#[]⟩, .int .i64 0, .string ⟨#[]⟩, .bool false] 28)) (w3.alloc (.cells #[.int .i64 er, .int .i64 ea] 33))) := up2 (up2 HB2.out hN3) ((Grown.refl _).alloc _).below; have HB3' : Aside (Below (w.heap.size + 2) ((w.alloc (.cells #[.slice a k c, .slice pl n cl] 26)).alloc (.cells #[.string ⟨#[]⟩, .int .i64 0, .string ⟨#[]⟩, .bool false] 28)) w3) := up2 HB2.out hN3; obtain ⟨⟨r0, r1, r2, r3⟩, ⟨g0, g1, g2, g3⟩⟩ := res4 HB3'.out; have HL3 : Aside (Lies (w3.alloc (.cells #[.int .i64 er, .int .i64 ea] 33)) p3 sl) := hL3.grown ((Grown.refl _).alloc _); have hlt := block_lt_of_cell r0; simp only at hlt; have hne : w.heap.size + 1 ≠ w3.heap.size := (by omega); clear hL3 hN3 hw3)
  go_region
  go_wp2
  obtain ⟨s0, s1, s2, s3⟩ := four_cells (.string ⟨#[]⟩) (.int .i64 0) (.string ⟨#[]⟩) (.bool false) r0 r1 r2 r3
  have t0 := Lib.cell?_alloc_some (.cells #[.int .i64 er, .int .i64 ea] 33) s0
  have t1 := Lib.cell?_alloc_some (.cells #[.int .i64 er, .int .i64 ea] 33) s1
  have t2 := Lib.cell?_alloc_some (.cells #[.int .i64 er, .int .i64 ea] 33) s2
  have t3 := Lib.cell?_alloc_some (.cells #[.int .i64 er, .int .i64 ea] 33) s3
  refine bodyPost_ret (v := .tuple #[.agg #[.string ⟨#[]⟩, .int .i64 0, .string ⟨#[]⟩, .bool false], .int .i64 0, .int .i64 er]) (by simp [results, Tryz.results9, go_sem, t0, t1, t2, t3]) rfl ?_
  have h := store4 HB3'.out (.string ⟨#[]⟩) (.int .i64 0) (.string ⟨#[]⟩) (.bool false)
  exact ⟨rfl, (h.alloc h.size _).drew⟩
set_option maxHeartbeats 2000000 in
set_option maxRecDepth 100000 in
theorem look_e2 (w : World) (a : Option Addr) (k c : Nat) (pl : Option Addr) (n cl : Nat) (er ea : Int) (sl : List Ent) (q : ByteArray) (hmd : MdC w a k c pl n cl 0 ea sl) (hcl : ∀ W, Below w.heap.size w W → Calls Tryz.prog 22 #[.string q] W fun r w' => r = .returned (.bool false) ∧ Below W.heap.size W w') :
    Calls Tryz.prog 9 #[.agg #[.slice a k c, .slice pl n cl], .string q] w fun r w' => r = .returned (.tuple #[.agg #[.string ⟨#[]⟩, .int .i64 0, .string ⟨#[]⟩, .bool false], .int .i64 0, .int .i64 7]) ∧ Below w.heap.size w w' := by
  have HB2 : Aside (Below (w.heap.size + 2) ((w.alloc (.cells #[.slice a k c, .slice pl n cl] 26)).alloc (.cells #[.string ⟨#[]⟩, .int .i64 0, .string ⟨#[]⟩, .bool false] 28)) ((w.alloc (.cells #[.slice a k c, .slice pl n cl] 26)).alloc (.cells #[.string ⟨#[]⟩, .int .i64 0, .string ⟨#[]⟩, .bool false] 28))) := Below.refl _ _
  go_enter Tryz.func9, Tryz.ntmps9
  go_wp2_with (first
    | (go_at_call 18; refine (hmd _ (down2 HB2.out)).mono ?_; clear hmd; rintro e w3 ⟨p3, c3, rfl, hL3, hc3, hn3, hN3, hw3⟩; have HB3 : Aside (Below (w.heap.size + 2) ((w.alloc (.cells #[.slice a k c, .slice pl n cl] 26)).alloc (.cells #[.string ⟨#[]⟩, .int .i64 0, .string ⟨#[]⟩, .bool false] 28)) (w3.alloc (.cells #[.int .i64 0, .int .i64 ea] 33))) := up2 (up2 HB2.out hN3) ((Grown.refl _).alloc _).below; have HB3' : Aside (Below (w.heap.size + 2) ((w.alloc (.cells #[.slice a k c, .slice pl n cl] 26)).alloc (.cells #[.string ⟨#[]⟩, .int .i64 0, .string ⟨#[]⟩, .bool false] 28)) w3) := up2 HB2.out hN3; obtain ⟨⟨r0, r1, r2, r3⟩, ⟨g0, g1, g2, g3⟩⟩ := res4 HB3'.out; have HL3 : Aside (Lies (w3.alloc (.cells #[.int .i64 0, .int .i64 ea] 33)) p3 sl) := hL3.grown ((Grown.refl _).alloc _); have hlt := block_lt_of_cell r0; simp only at hlt; have hne : w.heap.size + 1 ≠ w3.heap.size := (by omega); clear hL3 hN3 hw3)
    | (go_at_call 22; refine (hcl _ (down2 HB3.out)).mono ?_; clear hcl; rintro e w4 ⟨rfl, hN4⟩; have HB4 : Aside (Below (w.heap.size + 2) ((w.alloc (.cells #[.slice a k c, .slice pl n cl] 26)).alloc (.cells #[.string ⟨#[]⟩, .int .i64 0, .string ⟨#[]⟩, .bool false] 28)) w4) := up2 HB3.out hN4; have HL4 : Aside (Lies w4 p3 sl) := HL3.out.kept hN4; clear hN4 r0 r1 r2 r3 g0 g1 g2 g3; obtain ⟨⟨r0, r1, r2, r3⟩, ⟨g0, g1, g2, g3⟩⟩ := res4 HB4.out; obtain ⟨⟨u0, u1⟩, _⟩ := box2 HB4.out))
  obtain ⟨s0, s1, s2, s3⟩ := four_cells (.string ⟨#[]⟩) (.int .i64 0) (.string ⟨#[]⟩) (.bool false) r0 r1 r2 r3
  refine bodyPost_ret (v := .tuple #[.agg #[.string ⟨#[]⟩, .int .i64 0, .string ⟨#[]⟩, .bool false], .int .i64 0, .int .i64 7]) (by simp [results, Tryz.results9, go_sem, s0, s1, s2, s3]) rfl ?_
  exact ⟨rfl, store4 HB4.out _ _ _ _⟩
set_option maxHeartbeats 2000000 in
set_option maxRecDepth 100000 in
theorem look_e3 (w : World) (a : Option Addr) (k c : Nat) (pl : Option Addr) (n cl : Nat) (er ea : Int) (sl : List Ent) (q : ByteArray) (xp : ByteArray) (xk : Int) (xt : ByteArray) (xo : Bool) (hmd : MdC w a k c pl n cl 0 ea sl) (hcl : ∀ W, Below w.heap.size w W → Calls Tryz.prog 22 #[.string q] W fun r w' => r = .returned (.bool true) ∧ Below W.heap.size W w') (hgt : ∀ W p c, Below w.heap.size w W → Lies W p sl → Calls Tryz.prog 23 #[.slice p sl.length c, .string q] W fun r w' => r = .returned (.tuple #[.agg #[.string xp, .int .i64 xk, .string xt, .bool xo], .bool false]) ∧ Below W.heap.size W w') :
    Calls Tryz.prog 9 #[.agg #[.slice a k c, .slice pl n cl], .string q] w fun r w' => r = .returned (.tuple #[.agg #[.string ⟨#[]⟩, .int .i64 0, .string ⟨#[]⟩, .bool false], .int .i64 0, .int .i64 6]) ∧ Below w.heap.size w w' := by
  have HB2 : Aside (Below (w.heap.size + 2) ((w.alloc (.cells #[.slice a k c, .slice pl n cl] 26)).alloc (.cells #[.string ⟨#[]⟩, .int .i64 0, .string ⟨#[]⟩, .bool false] 28)) ((w.alloc (.cells #[.slice a k c, .slice pl n cl] 26)).alloc (.cells #[.string ⟨#[]⟩, .int .i64 0, .string ⟨#[]⟩, .bool false] 28))) := Below.refl _ _
  go_enter Tryz.func9, Tryz.ntmps9
  go_wp2_with (first
    | (go_at_call 18; refine (hmd _ (down2 HB2.out)).mono ?_; clear hmd; rintro e w3 ⟨p3, c3, rfl, hL3, hc3, hn3, hN3, hw3⟩; have HB3 : Aside (Below (w.heap.size + 2) ((w.alloc (.cells #[.slice a k c, .slice pl n cl] 26)).alloc (.cells #[.string ⟨#[]⟩, .int .i64 0, .string ⟨#[]⟩, .bool false] 28)) (w3.alloc (.cells #[.int .i64 0, .int .i64 ea] 33))) := up2 (up2 HB2.out hN3) ((Grown.refl _).alloc _).below; have HB3' : Aside (Below (w.heap.size + 2) ((w.alloc (.cells #[.slice a k c, .slice pl n cl] 26)).alloc (.cells #[.string ⟨#[]⟩, .int .i64 0, .string ⟨#[]⟩, .bool false] 28)) w3) := up2 HB2.out hN3; obtain ⟨⟨r0, r1, r2, r3⟩, ⟨g0, g1, g2, g3⟩⟩ := res4 HB3'.out; have HL3 : Aside (Lies (w3.alloc (.cells #[.int .i64 0, .int .i64 ea] 33)) p3 sl) := hL3.grown ((Grown.refl _).alloc _); have hlt := block_lt_of_cell r0; simp only at hlt; have hne : w.heap.size + 1 ≠ w3.heap.size := (by omega); clear hL3 hN3 hw3)
    | (go_at_call 22; refine (hcl _ (down2 HB3.out)).mono ?_; clear hcl; rintro e w4 ⟨rfl, hN4⟩; have HB4 : Aside (Below (w.heap.size + 2) ((w.alloc (.cells #[.slice a k c, .slice pl n cl] 26)).alloc (.cells #[.string ⟨#[]⟩, .int .i64 0, .string ⟨#[]⟩, .bool false] 28)) w4) := up2 HB3.out hN4; have HL4 : Aside (Lies w4 p3 sl) := HL3.out.kept hN4; clear hN4 r0 r1 r2 r3 g0 g1 g2 g3; obtain ⟨⟨r0, r1, r2, r3⟩, ⟨g0, g1, g2, g3⟩⟩ := res4 HB4.out; obtain ⟨⟨u0, u1⟩, _⟩ := box2 HB4.out)
    | (go_at_call 23; refine (hgt _ p3 c3 (down2 HB4.out) HL4.out).mono ?_; clear hgt; rintro e w5 ⟨rfl, hN5⟩; have HB5 : Aside (Below (w.heap.size + 2) ((w.alloc (.cells #[.slice a k c, .slice pl n cl] 26)).alloc (.cells #[.string ⟨#[]⟩, .int .i64 0, .string ⟨#[]⟩, .bool false] 28)) w5) := up2 HB4.out hN5; clear hN5 r0 r1 r2 r3 g0 g1 g2 g3 u0 u1; obtain ⟨⟨r0, r1, r2, r3⟩, ⟨g0, g1, g2, g3⟩⟩ := res4 HB5.out; obtain ⟨⟨u0, u1⟩, _⟩ := box2 HB5.out; have hl5 := block_lt_of_cell r0; simp only at hl5; have hn5 : w.heap.size + 1 ≠ w5.heap.size := (by omega); have hn5' : w.heap.size ≠ w5.heap.size := (by omega)))
  obtain ⟨s0, s1, s2, s3⟩ := four_cells (.string ⟨#[]⟩) (.int .i64 0) (.string ⟨#[]⟩) (.bool false) r0 r1 r2 r3
  have t0 := Lib.cell?_alloc_some (.cells #[.string xp, .int .i64 xk, .string xt, .bool xo] 28) s0
  have t1 := Lib.cell?_alloc_some (.cells #[.string xp, .int .i64 xk, .string xt, .bool xo] 28) s1
  have t2 := Lib.cell?_alloc_some (.cells #[.string xp, .int .i64 xk, .string xt, .bool xo] 28) s2
  have t3 := Lib.cell?_alloc_some (.cells #[.string xp, .int .i64 xk, .string xt, .bool xo] 28) s3
  refine bodyPost_ret (v := .tuple #[.agg #[.string ⟨#[]⟩, .int .i64 0, .string ⟨#[]⟩, .bool false], .int .i64 0, .int .i64 6]) (by simp [results, Tryz.results9, go_sem, t0, t1, t2, t3]) rfl ?_
  have h := store4 HB5.out (.string ⟨#[]⟩) (.int .i64 0) (.string ⟨#[]⟩) (.bool false)
  exact ⟨rfl, h.alloc h.size _⟩
set_option maxHeartbeats 2000000 in
set_option maxRecDepth 100000 in
theorem look_ok (w : World) (a : Option Addr) (k c : Nat) (pl : Option Addr) (n cl : Nat) (er ea : Int) (sl : List Ent) (q : ByteArray) (xp : ByteArray) (xk : Int) (xt : ByteArray) (xo : Bool) (ix : Int) (hmd : MdC w a k c pl n cl 0 ea sl) (hcl : ∀ W, Below w.heap.size w W → Calls Tryz.prog 22 #[.string q] W fun r w' => r = .returned (.bool true) ∧ Below W.heap.size W w') (hgt : ∀ W p c, Below w.heap.size w W → Lies W p sl → Calls Tryz.prog 23 #[.slice p sl.length c, .string q] W fun r w' => r = .returned (.tuple #[.agg #[.string xp, .int .i64 xk, .string xt, .bool xo], .bool true]) ∧ Below W.heap.size W w') (hfw : ∀ W, Below w.heap.size w W → Calls Tryz.prog 24 #[.agg #[.slice a k c, .slice pl n cl], .string q] W fun r w' => r = .returned (.int .i64 ix) ∧ Below W.heap.size W w') :
    Calls Tryz.prog 9 #[.agg #[.slice a k c, .slice pl n cl], .string q] w fun r w' => r = .returned (.tuple #[.agg #[.string xp, .int .i64 xk, .string xt, .bool xo], .int .i64 ix, .int .i64 0]) ∧ Below w.heap.size w w' := by
  have HB2 : Aside (Below (w.heap.size + 2) ((w.alloc (.cells #[.slice a k c, .slice pl n cl] 26)).alloc (.cells #[.string ⟨#[]⟩, .int .i64 0, .string ⟨#[]⟩, .bool false] 28)) ((w.alloc (.cells #[.slice a k c, .slice pl n cl] 26)).alloc (.cells #[.string ⟨#[]⟩, .int .i64 0, .string ⟨#[]⟩, .bool false] 28))) := Below.refl _ _
  go_enter Tryz.func9, Tryz.ntmps9
  go_wp2_with (first
    | (go_at_call 18; refine (hmd _ (down2 HB2.out)).mono ?_; clear hmd; rintro e w3 ⟨p3, c3, rfl, hL3, hc3, hn3, hN3, hw3⟩; have HB3 : Aside (Below (w.heap.size + 2) ((w.alloc (.cells #[.slice a k c, .slice pl n cl] 26)).alloc (.cells #[.string ⟨#[]⟩, .int .i64 0, .string ⟨#[]⟩, .bool false] 28)) (w3.alloc (.cells #[.int .i64 0, .int .i64 ea] 33))) := up2 (up2 HB2.out hN3) ((Grown.refl _).alloc _).below; have HB3' : Aside (Below (w.heap.size + 2) ((w.alloc (.cells #[.slice a k c, .slice pl n cl] 26)).alloc (.cells #[.string ⟨#[]⟩, .int .i64 0, .string ⟨#[]⟩, .bool false] 28)) w3) := up2 HB2.out hN3; obtain ⟨⟨r0, r1, r2, r3⟩, ⟨g0, g1, g2, g3⟩⟩ := res4 HB3'.out; have HL3 : Aside (Lies (w3.alloc (.cells #[.int .i64 0, .int .i64 ea] 33)) p3 sl) := hL3.grown ((Grown.refl _).alloc _); have hlt := block_lt_of_cell r0; simp only at hlt; have hne : w.heap.size + 1 ≠ w3.heap.size := (by omega); clear hL3 hN3 hw3)
    | (go_at_call 22; refine (hcl _ (down2 HB3.out)).mono ?_; clear hcl; rintro e w4 ⟨rfl, hN4⟩; have HB4 : Aside (Below (w.heap.size + 2) ((w.alloc (.cells #[.slice a k c, .slice pl n cl] 26)).alloc (.cells #[.string ⟨#[]⟩, .int .i64 0, .string ⟨#[]⟩, .bool false] 28)) w4) := up2 HB3.out hN4; have HL4 : Aside (Lies w4 p3 sl) := HL3.out.kept hN4; clear hN4 r0 r1 r2 r3 g0 g1 g2 g3; obtain ⟨⟨r0, r1, r2, r3⟩, ⟨g0, g1, g2, g3⟩⟩ := res4 HB4.out; obtain ⟨⟨u0, u1⟩, _⟩ := box2 HB4.out)
    | (go_at_call 23; refine (hgt _ p3 c3 (down2 HB4.out) HL4.out).mono ?_; clear hgt; rintro e w5 ⟨rfl, hN5⟩; have HB5 : Aside (Below (w.heap.size + 2) ((w.alloc (.cells #[.slice a k c, .slice pl n cl] 26)).alloc (.cells #[.string ⟨#[]⟩, .int .i64 0, .string ⟨#[]⟩, .bool false] 28)) w5) := up2 HB4.out hN5; clear hN5 r0 r1 r2 r3 g0 g1 g2 g3 u0 u1; obtain ⟨⟨r0, r1, r2, r3⟩, ⟨g0, g1, g2, g3⟩⟩ := res4 HB5.out; obtain ⟨⟨u0, u1⟩, _⟩ := box2 HB5.out; have hl5 := block_lt_of_cell r0; simp only at hl5; have hn5 : w.heap.size + 1 ≠ w5.heap.size := (by omega); have hn5' : w.heap.size ≠ w5.heap.size := (by omega)))
  obtain ⟨W6, hW6⟩ : ∃ W6, w5.alloc (.cells #[.string xp, .int .i64 xk, .string xt, .bool xo] 28) = W6 := ⟨_, rfl⟩
  rw [hW6]
  have HB6 : Aside (Below (w.heap.size + 2) ((w.alloc (.cells #[.slice a k c, .slice pl n cl] 26)).alloc (.cells #[.string ⟨#[]⟩, .int .i64 0, .string ⟨#[]⟩, .bool false] 28)) W6) := by
    show Below _ _ _
    rw [← hW6]; exact up2 HB5.out ((Grown.refl _).alloc _).below
  have hb5 : Below (w5.heap.size + 1) (w5.alloc (.cells #[.string xp, .int .i64 xk, .string xt, .bool xo] 28)) W6 := by rw [hW6]; exact Below.refl _ _
  obtain ⟨⟨b0, b1, b2, b3⟩, _⟩ := new4 (Nat.lt_succ_self _) hb5
  obtain ⟨⟨v0, v1, v2, v3⟩, ⟨h0, h1, h2, h3⟩⟩ := res4 HB6.out
  obtain ⟨⟨m0, m1⟩, _⟩ := box2 HB6.out
  clear hb5
  have hbl := block_lt_of_cell b0
  simp only at hbl
  clear hW6
  go_region_held3 (fun w' => (w'.cell? ⟨w5.heap.size, 0, none⟩ = some (.string xp) ∧ w'.cell? ⟨w5.heap.size, 1, none⟩ = some (.int .i64 xk) ∧ w'.cell? ⟨w5.heap.size, 2, none⟩ = some (.string xt) ∧ w'.cell? ⟨w5.heap.size, 3, none⟩ = some (.bool xo)) ∧ w'.cell? ⟨w.heap.size, 0, none⟩ = some (.slice a k c) ∧ w'.cell? ⟨w.heap.size, 1, none⟩ = some (.slice pl n cl)) (go_keep) (first
    | (go_at_call 24; refine (hfw _ (down2 HB6.out).drew).mono ?_; clear hfw; rintro r w7 ⟨rfl, hN7⟩; have HB7 : Aside (Below (w.heap.size + 2) ((w.alloc (.cells #[.slice a k c, .slice pl n cl] 26)).alloc (.cells #[.string ⟨#[]⟩, .int .i64 0, .string ⟨#[]⟩, .bool false] 28)) w7) := up2 HB6.out (((Below.refl _ _).drew).trans hN7); have y0 := (hN7.cell (p := ⟨w5.heap.size, 0, none⟩) hbl).trans b0; have y1 := (hN7.cell (p := ⟨w5.heap.size, 1, none⟩) hbl).trans b1; have y2 := (hN7.cell (p := ⟨w5.heap.size, 2, none⟩) hbl).trans b2; have y3 := (hN7.cell (p := ⟨w5.heap.size, 3, none⟩) hbl).trans b3; obtain ⟨⟨x0, x1, x2, x3⟩, ⟨z0, z1, z2, z3⟩⟩ := res4 HB7.out; obtain ⟨⟨m2, m3⟩, _⟩ := box2 HB7.out; clear hN7))
  all_goals go_wp2
  all_goals (obtain ⟨s0, s1, s2, s3⟩ := four_cells (.string xp) (.int .i64 xk) (.string xt) (.bool xo) x0 x1 x2 x3)
  all_goals refine bodyPost_ret (v := .tuple #[.agg #[.string xp, .int .i64 xk, .string xt, .bool xo], .int .i64 ix, .int .i64 0]) (by simp [results, Tryz.results9, go_sem, s0, s1, s2, s3]) rfl ?_
  all_goals exact ⟨rfl, store4 HB7.out _ _ _ _⟩
theorem look_any (y : Lay) (ls : List Lay) (m : Int) (pl : Option Addr) (cl : Nat) (q : ByteArray) (w : World) (hUn : UnOK w y ls pl cl) (hq : q.size ≤ maxLen) (hm : w.cell? ⟨0, 0, none⟩ = some (.int .i64 m)) (x : Ent) (ix er : Int)
    (her : er = lookErr (y.es :: ls.map (·.es)) q.data.toList) (hx : x = if er = 0 then (getL (seenU (y.es :: ls.map (·.es))) q.data.toList).getD zeroE else zeroE) (hix : ix = if er = 0 then idxFrom q.data.toList 0 (y.es :: ls.map (·.es)) else 0) :
    Calls Tryz.prog 9 #[.agg #[.slice y.ad y.es.length y.cap, .slice pl ls.length cl], .string q] w fun r w' => r = .returned (.tuple #[.agg #[.string x.path, .int .i64 x.kind, .string x.text, .bool x.opq], .int .i64 ix, .int .i64 er]) ∧ Below w.heap.size w w' := by
  have hmd : MdC w y.ad y.es.length y.cap pl ls.length cl (wrongU (y.es :: ls.map (·.es))).1 ((wrongU (y.es :: ls.map (·.es))).2 : Nat) (seenU (y.es :: ls.map (·.es))) := fun W hB => by
    have h := hUn.kept hB
    exact merged_any y ls m pl cl W h.lies h.all h.nil (held hB hm)
  by_cases h1 : (wrongU (y.es :: ls.map (·.es))).1 = 0
  · obtain ⟨hl5, hz, hr⟩ := wrongU_zero.1 h1
    rw [List.length_cons, List.length_map] at hl5
    have hsr := seenU_right (y.es :: ls.map (·.es))
    rw [h1] at hmd
    have hcl := fun W (hB : Below w.heap.size w W) => clean_any q m W hq (held hB hm)
    cases hc : clean q.data.toList with
    | false =>
      rw [hc] at hcl
      have e : er = 7 := by rw [her, lookErr, if_pos h1, hc]; rfl
      rw [hx, hix, e, if_neg (by decide), if_neg (by decide)]
      exact look_e2 w _ _ _ _ _ _ 0 _ _ q hmd hcl
    | true =>
      rw [hc] at hcl
      have hgt := fun W p c (hB : Below w.heap.size w W) (hL : Lies W p (seenU (y.es :: ls.map (·.es)))) => get_det _ q p c W hL (right_fitsL hsr) (by have := hsr.len; omega) hq hsr.sorted _ _ rfl rfl
      cases hs : (getL (seenU (y.es :: ls.map (·.es))) q.data.toList).isSome with
      | false =>
        rw [hs] at hgt
        have e : er = 6 := by rw [her, lookErr, if_pos h1, hc, if_pos rfl, hs]; rfl
        rw [hx, hix, e, if_neg (by decide), if_neg (by decide)]
        exact look_e3 w _ _ _ _ _ _ 0 _ _ q _ _ _ _ hmd hcl hgt
      | true =>
        rw [hs] at hgt
        have e : er = 0 := by rw [her, lookErr, if_pos h1, hc, if_pos rfl, hs]; rfl
        rw [hx, hix, e, if_pos rfl, if_pos rfl]
        exact look_ok w _ _ _ _ _ _ 0 _ _ q _ _ _ _ _ hmd hcl hgt (fun W hB => firstWith_any y ls pl cl q W (hUn.kept hB) (fun x hx => (hr x.es (by
          rcases List.mem_cons.1 hx with rfl | hx
          · simp
          · simp; exact .inr ⟨x, hx, rfl⟩)).sorted) (by omega) hq)
  · have e : er = (wrongU (y.es :: ls.map (·.es))).1 := by rw [her, lookErr, if_neg h1]
    rw [hx, hix, e, if_neg h1, if_neg h1]
    exact look_e1 w _ _ _ _ _ _ _ _ _ q hmd h1
end Go.Proofs.YtampldoimpfjgaaGreatDoor
namespace Go.Proofs.YtampldoimpfjgaaGreatDoor
open Go.RowKit PM Go.Sort
set_option linter.unusedVariables false

def small4 : List Ent := [⟨⟨#[97]⟩, 2, ⟨#[]⟩, false⟩, ⟨⟨#[97, 47, 98]⟩, 1, ⟨#[120]⟩, false⟩]
def up4 : List Ent := [⟨⟨#[97]⟩, 2, ⟨#[]⟩, false⟩, ⟨⟨#[97, 47, 98]⟩, 4, ⟨#[]⟩, false⟩]
def seen4 : List Ent := [⟨⟨#[97]⟩, 2, ⟨#[]⟩, false⟩]
def small4Cells : Array Value := #[.string ⟨#[97]⟩, .int .i64 2, .string ⟨#[]⟩, .bool false, .string ⟨#[97, 47, 98]⟩, .int .i64 1, .string ⟨#[120]⟩, .bool false]
theorem s4_wrong : wrongU [[], small4] = (0, 0) := by decide
theorem s4_seen : seenU [[], small4] = small4 := by decide
theorem s4_merge : (mergeF [small4]).2 = small4 := by decide
theorem s4_rem : remErr small4 [97, 47, 98] = 0 := by decide
theorem s4_drop : dropL [] small4 ⟨#[97, 47, 98]⟩ = up4 := by decide
theorem s4_wrong2 : wrongU [up4, small4] = (0, 0) := by decide
theorem s4_seen2 : seenU [up4, small4] = seen4 := by decide
theorem s4_look : lookErr [[], small4] [97, 47, 98] = 0 := by decide
theorem s4_idx : idxFrom [97, 47, 98] 0 [[], small4] = 1 := by decide
theorem s4_x : (⟨⟨#[97, 47, 98]⟩, 1, ⟨#[120]⟩, false⟩ : Ent) = if (0 : Int) = 0 then (getL (seenU [[], small4]) [97, 47, 98]).getD zeroE else zeroE := by decide
theorem s4_fits : Fits small4 := by unfold Fits small4 maxLen; decide
theorem remS_any (m : Int) (b b' : Nat) (W : World) (hU : UnOK W ⟨none, 0, []⟩ [⟨some ⟨b, 0, none⟩, 2, small4⟩] (some ⟨b', 0, none⟩) 1) (hm : W.cell? ⟨0, 0, none⟩ = some (.int .i64 m)) :
    Calls Tryz.prog 14 #[.agg #[.slice none 0 0, .slice (some ⟨b', 0, none⟩) 1 1], .string ⟨#[97, 47, 98]⟩] W (UnPost 0 up4 [small4] W) := by
  have h := unionRemove_any ⟨none, 0, []⟩ [⟨some ⟨b, 0, none⟩, 2, small4⟩] m (some ⟨b', 0, none⟩) 1 ⟨#[97, 47, 98]⟩ (by unfold maxLen; decide) W hU hm
  have e1 : wrongU (([] : List Ent) :: List.map (·.es) [(⟨some ⟨b, 0, none⟩, 2, small4⟩ : Lay)]) = (0, 0) := s4_wrong
  have e2 : seenU (([] : List Ent) :: List.map (·.es) [(⟨some ⟨b, 0, none⟩, 2, small4⟩ : Lay)]) = small4 := s4_seen
  have e3 : (mergeF (List.map (·.es) [(⟨some ⟨b, 0, none⟩, 2, small4⟩ : Lay)])).2 = small4 := s4_merge
  have e4 : remErr small4 (⟨#[97, 47, 98]⟩ : ByteArray).data.toList = 0 := s4_rem
  simp only [] at h
  rw [e1, e2, e3, s4_drop, e4] at h
  exact h
theorem seenS_any (m : Int) (y : Lay) (lo : List Lay) (pl : Option Addr) (cl : Nat) (W : World) (h1 : y.es = up4) (h2 : lo.map (·.es) = [small4]) (hU : UnOK W y lo pl cl) (hm : W.cell? ⟨0, 0, none⟩ = some (.int .i64 m)) :
    Calls Tryz.prog 4 #[.agg #[.slice y.ad y.es.length y.cap, .slice pl lo.length cl]] W (NewPost 0 seen4 W) := by
  refine unionSeen_of W y.ad y.es.length y.cap pl lo.length cl 0 0 seen4 (fun X hX => ?_)
  have h := hU.kept hX
  have := merged_any y lo m pl cl X h.lies h.all h.nil (held hX hm)
  rw [List.map_cons, h1, h2, s4_wrong2, s4_seen2] at this
  rw [h1]
  exact this
theorem lookS_any (m : Int) (b b' : Nat) (W : World) (hU : UnOK W ⟨none, 0, []⟩ [⟨some ⟨b, 0, none⟩, 2, small4⟩] (some ⟨b', 0, none⟩) 1) (hm : W.cell? ⟨0, 0, none⟩ = some (.int .i64 m)) :
    Calls Tryz.prog 9 #[.agg #[.slice none 0 0, .slice (some ⟨b', 0, none⟩) 1 1], .string ⟨#[97, 47, 98]⟩] W fun r w' => r = .returned (.tuple #[.agg #[.string ⟨#[97, 47, 98]⟩, .int .i64 1, .string ⟨#[120]⟩, .bool false], .int .i64 1, .int .i64 0]) ∧ Below W.heap.size W w' :=
  look_any ⟨none, 0, []⟩ [⟨some ⟨b, 0, none⟩, 2, small4⟩] m (some ⟨b', 0, none⟩) 1 ⟨#[97, 47, 98]⟩ W hU (by unfold maxLen; decide) hm ⟨⟨#[97, 47, 98]⟩, 1, ⟨#[120]⟩, false⟩ 1 0 s4_look.symm s4_x (by rw [if_pos rfl]; exact s4_idx.symm)
theorem by_eq {P : Program} {f : Nat} {a b : Array Value} {W : World} {Q : Ending → World → Prop} (h : Calls P f a W Q) (e : a = b) : Calls P f b W Q := e ▸ h
theorem up4_cell {W X : World} {y : Lay} (h1 : y.es = up4) (hL : Lies W y.ad y.es) (hB : Below W.heap.size W X) : ∃ b off, y.ad = some ⟨b, off, none⟩ ∧ X.cell? ⟨b, off + 5, none⟩ = some (.int .i64 4) := by
  rw [h1] at hL
  rcases hL with h | ⟨b, off, hp, hb, hc⟩
  · cases h
  · exact ⟨b, off, hp, (hB.cell (p := ⟨b, off + 5, none⟩) hb).trans (hc 1 ⟨⟨#[97, 47, 98]⟩, 4, ⟨#[]⟩, false⟩ rfl 1 _ rfl)⟩
end Go.Proofs.YtampldoimpfjgaaGreatDoor
namespace Go.Proofs.YtampldoimpfjgaaGreatDoor
open Go.RowKit PM Go.Sort
set_option linter.unusedVariables false

abbrev TrueC (f : Nat) (args : Array Value) (W : World) : Prop := Calls Tryz.prog f args W fun r w' => r = .returned (.bool true) ∧ Below W.heap.size W w'
/-- A box of a union. -/
theorem box_kept {W X : World} {A : Nat} {a b : Value} (h : (W.cell? ⟨A, 0, none⟩ = some a ∧ W.cell? ⟨A, 1, none⟩ = some b) ∧ (W.frozen? ⟨A, 0, none⟩ = false ∧ W.frozen? ⟨A, 1, none⟩ = false)) (hB : Below W.heap.size W X) :
    (X.cell? ⟨A, 0, none⟩ = some a ∧ X.cell? ⟨A, 1, none⟩ = some b) ∧ (X.frozen? ⟨A, 0, none⟩ = false ∧ X.frozen? ⟨A, 1, none⟩ = false) := by
  have hl := block_lt_of_cell h.1.1
  exact ⟨⟨(hB.cell (p := ⟨A, 0, none⟩) hl).trans h.1.1, (hB.cell (p := ⟨A, 1, none⟩) hl).trans h.1.2⟩, (hB.frozen (p := ⟨A, 0, none⟩) hl).trans h.2.1, (hB.frozen (p := ⟨A, 1, none⟩) hl).trans h.2.2⟩
theorem box_set {W : World} {A : Nat} {a b : Value} (h : (W.cell? ⟨A, 0, none⟩ = some a ∧ W.cell? ⟨A, 1, none⟩ = some b) ∧ (W.frozen? ⟨A, 0, none⟩ = false ∧ W.frozen? ⟨A, 1, none⟩ = false)) (a' b' : Value) :
    (((W.setCell ⟨A, 0, none⟩ a').setCell ⟨A, 1, none⟩ b').cell? ⟨A, 0, none⟩ = some a' ∧ ((W.setCell ⟨A, 0, none⟩ a').setCell ⟨A, 1, none⟩ b').cell? ⟨A, 1, none⟩ = some b') ∧ (((W.setCell ⟨A, 0, none⟩ a').setCell ⟨A, 1, none⟩ b').frozen? ⟨A, 0, none⟩ = false ∧ ((W.setCell ⟨A, 0, none⟩ a').setCell ⟨A, 1, none⟩ b').frozen? ⟨A, 1, none⟩ = false) := by
  refine ⟨res_set a' b' h.1.1 h.1.2, ?_, ?_⟩
  · rw [World.frozen?_setCell, World.frozen?_setCell]; exact h.2.1
  · rw [World.frozen?_setCell, World.frozen?_setCell]; exact h.2.2
abbrev BoxAt (W : World) (A : Nat) (a b : Value) : Prop := (W.cell? ⟨A, 0, none⟩ = some a ∧ W.cell? ⟨A, 1, none⟩ = some b) ∧ (W.frozen? ⟨A, 0, none⟩ = false ∧ W.frozen? ⟨A, 1, none⟩ = false)
abbrev SnC (w : World) (uv : Value) (er : Int) (sl : List Ent) : Prop := ∀ W, Below w.heap.size w W → Calls Tryz.prog 4 #[uv] W (NewPost er sl W)
abbrev UnC (w : World) (f : Nat) (args : Array Value) (x : Int) (up : List Ent) (lo : List (List Ent)) : Prop := ∀ W, Below w.heap.size w W → Calls Tryz.prog f args W (UnPost x up lo W)
abbrev TrC (w : World) (f : Nat) (sl : List Ent) (args : Array Value) (v : Int) (P : List Ent → Prop) : Prop := ∀ W p c, Below w.heap.size w W → Lies W p sl → sl.length ≤ c → (p = none → c = 0) → Calls Tryz.prog f (#[.slice p sl.length c] ++ args) W fun r w' => ∃ t, P t ∧ TreePost v t W r w'
theorem ue_kept {w W0 X : World} {va vb : Value} {e : Ent} (h : (W0.cell? ⟨w.heap.size, 0, none⟩ = some va ∧ W0.cell? ⟨w.heap.size, 1, none⟩ = some vb) ∧ (W0.cell? ⟨w.heap.size + 1, 0, none⟩ = some (.string e.path) ∧ W0.cell? ⟨w.heap.size + 1, 1, none⟩ = some (.int .i64 e.kind) ∧ W0.cell? ⟨w.heap.size + 1, 2, none⟩ = some (.string e.text) ∧ W0.cell? ⟨w.heap.size + 1, 3, none⟩ = some (.bool e.opq))) (hs : W0.heap.size = w.heap.size + 2) (hB : Below W0.heap.size W0 X) :
    (X.cell? ⟨w.heap.size, 0, none⟩ = some va ∧ X.cell? ⟨w.heap.size, 1, none⟩ = some vb) ∧ (X.cell? ⟨w.heap.size + 1, 0, none⟩ = some (.string e.path) ∧ X.cell? ⟨w.heap.size + 1, 1, none⟩ = some (.int .i64 e.kind) ∧ X.cell? ⟨w.heap.size + 1, 2, none⟩ = some (.string e.text) ∧ X.cell? ⟨w.heap.size + 1, 3, none⟩ = some (.bool e.opq)) := by
  obtain ⟨⟨h1, h2⟩, h3, h4, h5, h6⟩ := h
  exact ⟨⟨(hB.cell (p := ⟨w.heap.size, 0, none⟩) (by simp only; omega)).trans h1, (hB.cell (p := ⟨w.heap.size, 1, none⟩) (by simp only; omega)).trans h2⟩, (hB.cell (p := ⟨w.heap.size + 1, 0, none⟩) (by simp only; omega)).trans h3, (hB.cell (p := ⟨w.heap.size + 1, 1, none⟩) (by simp only; omega)).trans h4, (hB.cell (p := ⟨w.heap.size + 1, 2, none⟩) (by simp only; omega)).trans h5, (hB.cell (p := ⟨w.heap.size + 1, 3, none⟩) (by simp only; omega)).trans h6⟩
end Go.Proofs.YtampldoimpfjgaaGreatDoor
namespace Go.Proofs.YtampldoimpfjgaaGreatDoor
open Go.RowKit PM Go.Sort
set_option linter.unusedVariables false

theorem union_right {ls : List (List Ent)} {t : List Ent} (hl : ls.length ≤ 5) (h : mergeF ls = (0, t)) : wrongU ls = (0, 0) ∧ seenU ls = t := by
  have h1 : (mergeF ls).1 = 0 := by rw [h]
  have h0 : (wrongU ls).1 = 0 := wrongU_zero.2 ⟨hl, h1, mergeF_layers h1⟩
  refine ⟨?_, by rw [seenU, if_pos h0, h]⟩
  unfold wrongU
  rw [if_neg (by omega), if_pos ((badFrom_zero ls 0).2 (mergeF_layers h1)), h1]
theorem chg_err {we ae : Int} {n : Nat} (h : we = 0) (h0 : ¬ chgErr we ae n = 0) : chgErr we ae n = 5 ∨ chgErr we ae n = ae := by
  unfold chgErr at h0 ⊢
  rw [if_pos h] at h0 ⊢
  by_cases h1 : ae = 0
  · rw [if_pos h1] at h0 ⊢
    by_cases h2 : 80 < n
    · rw [if_pos h2]; exact .inl rfl
    · rw [if_neg h2] at h0; exact absurd rfl h0
  · rw [if_neg h1]; exact .inr rfl
/-- What is seen of a union in memory. -/
theorem seen_any (y : Lay) (lo : List Lay) (m : Int) (pl : Option Addr) (cl : Nat) (W : World) (hU : UnOK W y lo pl cl) (hm : W.cell? ⟨0, 0, none⟩ = some (.int .i64 m)) :
    Calls Tryz.prog 4 #[.agg #[.slice y.ad y.es.length y.cap, .slice pl lo.length cl]] W (NewPost (wrongU (y.es :: lo.map (·.es))).1 (seenU (y.es :: lo.map (·.es))) W) :=
  unionSeen_of W y.ad y.es.length y.cap pl lo.length cl _ _ _ (fun X hX => by
    have h := hU.kept hX
    exact merged_any y lo m pl cl X h.lies h.all h.nil (held hX hm))
end Go.Proofs.YtampldoimpfjgaaGreatDoor
namespace Go.Proofs.YtampldoimpfjgaaGreatDoor
open Go.RowKit PM Go.Sort
set_option linter.unusedVariables false

theorem eqU (p t : ByteArray) (k : Int) (o : Bool) (w : World) : Sem.run Tryz.prog (binOp .eql 28 (.agg #[.string p, .int .i64 k, .string t, .bool o]) (.agg #[.string p, .int .i64 k, .string t, .bool o])) w = .ok (.bool true) w := by
  have u3 := Tryz.underlying3
  have a3 := Tryz.isAgg3
  have z3 := Tryz.sizeOf3
  have u9 := Tryz.underlying9
  have a9 := Tryz.isAgg9
  have z9 := Tryz.sizeOf9
  have u4 := Tryz.underlying4
  have a4 := Tryz.isAgg4
  have z4 := Tryz.sizeOf4
  have hS : Tryz.prog.underlying 28 = some (.struct (Tryz.prog.fieldsOf 28)) := by kernel_rfl
  have hp : Tryz.prog.stoodInHeld 28 = false := by kernel_rfl
  rw [run_eql_struct, show (10000 : Nat) = 9999 + 1 from rfl, run_equalIn_agg w 9999 28 _ _ hS hp]
  simp only [Program.fieldsOf, Tryz.underlying28]
  go_simp
theorem guardU (op : BinOp) (a b : Operand) (p t p' t' : ByteArray) (k k' : Int) (o o' : Bool) (w : World) : (eqGuard op 28 a b (.agg #[.string p, .int .i64 k, .string t, .bool o]) (.agg #[.string p', .int .i64 k', .string t', .bool o'])).run Tryz.prog w = .ok () w := guardE op a b ⟨p, k, t, o⟩ ⟨p', k', t', o'⟩ w
/-- The first layer that has something has what is seen. -/
theorem look_math : ∀ (all : List (List Ent)) (i : Nat) {q : List UInt8} {x : Ent}, (mergeF all).1 = 0 → q ≠ [] → getL (mergeF all).2 q = some x → ∃ k l z, idxFrom q i all = ((i + k : Nat) : Int) ∧ all[k]? = some l ∧ getL l q = some z ∧ clearE z = x
  | [], i, q, x, _, hq, hg => by
    have : getL [] q = none := getL_none_of hq (by simp)
    have hg' : getL [] q = some x := hg
    rw [this] at hg'; cases hg'
  | a :: r, i, q, x, h0, hq, hg => by
    obtain ⟨h1, h2, h3⟩ := mergeF_zero h0
    obtain ⟨g1, g2, _⟩ := overErr_zero.1 h2
    rw [h3, get_over g1.sorted g2.sorted hq] at hg
    unfold seeL at hg
    cases hga : getL a q with
    | some z =>
      rw [hga] at hg
      simp only at hg
      split at hg
      · cases hg
      · cases hg
        refine ⟨0, a, z, ?_, rfl, hga, rfl⟩
        rw [idxFrom, hga]; rfl
    | none =>
      rw [hga] at hg
      simp only at hg
      split at hg
      · cases hg
      · obtain ⟨k, l, z, e1, e2, e3, e4⟩ := look_math r (i + 1) h1 hq hg
        refine ⟨k + 1, l, z, ?_, by simpa using e2, e3, e4⟩
        rw [idxFrom, hga]
        simp only [Option.isSome_none, Bool.false_eq_true, if_false]
        rw [e1, show i + 1 + k = i + (k + 1) by omega]
abbrev LkC (w : World) (uv : Value) (q : ByteArray) (xp : ByteArray) (xk : Int) (xt : ByteArray) (xo : Bool) (ix er : Int) : Prop := ∀ W, Below w.heap.size w W → Calls Tryz.prog 9 #[uv, .string q] W fun r w' => r = .returned (.tuple #[.agg #[.string xp, .int .i64 xk, .string xt, .bool xo], .int .i64 ix, .int .i64 er]) ∧ Below W.heap.size W w'
abbrev GtC (w : World) (sl : List Ent) (q : ByteArray) (xp : ByteArray) (xk : Int) (xt : ByteArray) (xo : Bool) (b : Bool) : Prop := ∀ W p c, Below w.heap.size w W → Lies W p sl → Calls Tryz.prog 23 #[.slice p sl.length c, .string q] W fun r w' => r = .returned (.tuple #[.agg #[.string xp, .int .i64 xk, .string xt, .bool xo], .bool b]) ∧ Below W.heap.size W w'
end Go.Proofs.YtampldoimpfjgaaGreatDoor
namespace Go.Proofs.YtampldoimpfjgaaGreatDoor
open Go.RowKit PM Go.Sort
set_option linter.unusedVariables false

set_option maxHeartbeats 2000000 in
set_option maxRecDepth 100000 in
theorem sameUnion_any (es : List Ent) (els : List (List Ent)) (a a' : Option Addr) (c c' : Nat) (ls ls' : List Lay) (pl pl' : Option Addr) (cl cl' : Nat) (w : World) (hL : Lies w a es) (hL' : Lies w a' es) (h80 : es.length < 4611686018427387904) (hT : LiesT w pl ls) (hT' : LiesT w pl' ls') (hO : ∀ x ∈ ls, LayOK w x) (hO' : ∀ x ∈ ls', LayOK w x) (h1 : ls.map (·.es) = els) (h2 : ls'.map (·.es) = els) (hn : els.length ≤ 80) :
    TrueC 13 #[.agg #[.slice a es.length c, .slice pl ls.length cl], .agg #[.slice a' es.length c', .slice pl' ls'.length cl']] w := by
  have hsu := fun W (hB : Below w.heap.size w W) => same_any es a a' c c' W (hL.kept hB) (hL'.kept hB) h80
  obtain ⟨k, hk⟩ : ∃ k, k = es.length := ⟨_, rfl⟩
  have hl1 : ls.length = els.length := by rw [← h1, List.length_map]
  have hl2 : ls'.length = els.length := by rw [← h2, List.length_map]
  rw [← hk] at hsu ⊢
  rw [hl1, hl2]
  obtain ⟨n, hn'⟩ : ∃ n, n = els.length := ⟨_, rfl⟩
  rw [← hn'] at hn ⊢
  have HT : Aside (LiesT w pl ls ∧ LiesT w pl' ls' ∧ (∀ x ∈ ls, LayOK w x) ∧ (∀ x ∈ ls', LayOK w x) ∧ ls.map (·.es) = els ∧ ls'.map (·.es) = els ∧ n = els.length) := ⟨hT, hT', hO, hO', h1, h2, hn'⟩
  have HB0 : Aside (Below (w.heap.size + 2) ((w.alloc (.cells #[.slice a k c, .slice pl n cl] 26)).alloc (.cells #[.slice a' k c', .slice pl' n cl'] 26)) ((w.alloc (.cells #[.slice a k c, .slice pl n cl] 26)).alloc (.cells #[.slice a' k c', .slice pl' n cl'] 26))) := Below.refl _ _
  clear hL hL' hT hT' hO hO' h1 h2 hn' hk hl1 hl2
  go_enter Tryz.func13, Tryz.ntmps13
  go_wp2_with (go_at_call 8; refine (hsu _ (down2 HB0.out)).mono ?_; clear hsu; rintro r w1 ⟨rfl, hN1⟩; have HB1 : Aside (Below (w.heap.size + 2) ((w.alloc (.cells #[.slice a k c, .slice pl n cl] 26)).alloc (.cells #[.slice a' k c', .slice pl' n cl'] 26)) w1) := up2 HB0.out hN1; obtain ⟨⟨u0, u1⟩, _⟩ := box2 HB1.out; obtain ⟨⟨v0, v1⟩, _⟩ := res2 HB1.out; clear hN1)
  go_loopg [24] n (fun gg s24 wr => ∃ j : Nat, j ≤ n ∧ n - j ≤ gg ∧ s24 = .int .i64 j ∧ Aside (Below (w.heap.size + 2) ((w.alloc (.cells #[.slice a k c, .slice pl n cl] 26)).alloc (.cells #[.slice a' k c', .slice pl' n cl'] 26)) wr))
  case atStart => exact ⟨0, Nat.zero_le _, by omega, rfl, HB1.out⟩
  case round =>
    obtain ⟨j, hj, hgg, rfl, BW⟩ := hrel
    by_cases hlt : j < n
    · have hltz : (j : Int) < (n : Int) := by omega
      have hjw : IntKind.i64.wrap (j : Int) = (j : Int) := by rw [IntKind.wrap_i64]; omega
      clear u0 u1 v0 v1
      obtain ⟨⟨u0, u1⟩, _⟩ := box2 BW.out
      obtain ⟨⟨v0, v1⟩, _⟩ := res2 BW.out
      have hBw := down2 BW.out
      obtain ⟨x, hx⟩ : ∃ x, ls[j]? = some x := ⟨_, List.getElem?_eq_getElem (by have h := HT.out; have := congrArg List.length h.2.2.2.2.1; rw [List.length_map] at this; omega)⟩
      obtain ⟨y, hy⟩ : ∃ y, ls'[j]? = some y := ⟨_, List.getElem?_eq_getElem (by have h := HT.out; have := congrArg List.length h.2.2.2.2.2.1; rw [List.length_map] at this; omega)⟩
      have hxy : y.es = x.es := by
        have g1 : els[j]? = some x.es := by rw [← HT.out.2.2.2.2.1, List.getElem?_map, hx]; rfl
        have g2 : els[j]? = some y.es := by rw [← HT.out.2.2.2.2.2.1, List.getElem?_map, hy]; rfl
        rw [g1] at g2
        exact (Option.some.inj g2).symm
      have hox := HT.out.2.2.1 x (List.mem_of_getElem? hx)
      have hoy := HT.out.2.2.2.1 y (List.mem_of_getElem? hy)
      have hsm := fun W (hB : Below w.heap.size w W) => same_any x.es x.ad y.ad x.cap y.cap W (hox.lies.kept hB) (hxy ▸ hoy.lies.kept hB) hox.small
      rcases HT.out.1 with h0 | ⟨b, off, rfl, hb, hc⟩
      · rw [h0] at hx; simp at hx
      rcases HT.out.2.1 with h0 | ⟨b', off', rfl, hb', hc'⟩
      · rw [h0] at hy; simp at hy
      have c0 : wr.cell? ⟨b, off + j, none⟩ = some (.slice x.ad x.es.length x.cap) := (hBw.cell (p := ⟨b, off + j, none⟩) hb).trans (hc j x hx)
      have c1 : wr.cell? ⟨b', off' + j, none⟩ = some (.slice y.ad x.es.length y.cap) := by rw [← hxy]; exact (hBw.cell (p := ⟨b', off' + j, none⟩) hb').trans (hc' j y hy)
      have hl0 := block_lt_of_cell u1
      simp only at hl0
      have hl1 := block_lt_of_cell v1
      simp only at hl1
      have hl2 := block_lt_of_cell c0
      simp only at hl2
      have hl3 := block_lt_of_cell c1
      simp only at hl3
      clear hc hc' hx hy hox hoy hxy u0 v0 HT
      generalize x.es.length = xn at c0 c1 hsm
      go_wp2
      go_region_held3 (fun w' => w'.cell? ⟨w.heap.size, 1, none⟩ = some (.slice (some ⟨b, off, none⟩) n cl) ∧ w'.cell? ⟨w.heap.size + 1, 1, none⟩ = some (.slice (some ⟨b', off', none⟩) n cl') ∧ w'.cell? ⟨b, off + j, none⟩ = some (.slice x.ad xn x.cap) ∧ w'.cell? ⟨b', off' + j, none⟩ = some (.slice y.ad xn y.cap)) (go_keep) (first
        | (go_at_call 8; refine (hsm _ hBw.drew).mono ?_; clear hsm; rintro r w2 ⟨rfl, hN2⟩; have BW2 : Aside (Below (w.heap.size + 2) ((w.alloc (.cells #[.slice a k c, .slice (some ⟨b, off, none⟩) n cl] 26)).alloc (.cells #[.slice a' k c', .slice (some ⟨b', off', none⟩) n cl'] 26)) w2) := up2 BW.out (((Below.refl _ _).drew).trans hN2); have t0 := (hN2.cell (p := ⟨w.heap.size, 1, none⟩) hl0).trans u1; have t1 := (hN2.cell (p := ⟨w.heap.size + 1, 1, none⟩) hl1).trans v1; have t2 := (hN2.cell (p := ⟨b, off + j, none⟩) hl2).trans c0; have t3 := (hN2.cell (p := ⟨b', off' + j, none⟩) hl3).trans c1; clear hN2))
      go_wp2
      go_roundg (n - (j + 1))
      case measure => omega
      case rel => exact ⟨j + 1, by omega, by omega, by go_num, BW2.out⟩
    · obtain rfl : j = n := by omega
      have hltz : ¬ (j : Int) < (j : Int) := by omega
      go_wp2
      go_ret
      exact ⟨rfl, down2 BW.out⟩
/-- What comes of a change: it is refused, and there is nothing; or it is made, and the union is right, and the lower layers are as they were. -/
abbrev Fate (w : World) (pl : Option Addr) (n cl : Nat) (x : Int) (up : List Ent) (lo : List (List Ent)) : Prop :=
  (¬ x = 0 ∧ ∀ W y lo' pl' cl', Below w.heap.size w W → UnOK W y lo' pl' cl' → y.es = up → lo'.map (·.es) = lo → TrueC 13 #[.agg #[.slice y.ad y.es.length y.cap, .slice pl' lo'.length cl'], .agg #[.slice none 0 0, .slice none 0 0]] W) ∨
  (x = 0 ∧ (∀ W y lo' pl' cl', Below w.heap.size w W → UnOK W y lo' pl' cl' → y.es = up → lo'.map (·.es) = lo → Calls Tryz.prog 6 #[.agg #[.slice y.ad y.es.length y.cap, .slice pl' lo'.length cl']] W fun r w' => r = .returned (.agg #[.int .i64 0, .int .i64 0]) ∧ Below W.heap.size W w') ∧
    ∀ W y lo' pl' cl', Below w.heap.size w W → UnOK W y lo' pl' cl' → lo'.map (·.es) = lo → TrueC 13 #[.agg #[.slice none 0 0, .slice pl' lo'.length cl'], .agg #[.slice none 0 0, .slice pl n cl]] W)
/-- What is moved can be sorted. -/
theorem puts_sort (ms : List Ent) (hd : ms.Pairwise fun a b => a.p ≠ b.p) : (putsL [] ms).Perm ms ∧ Sorted (putsL [] ms) := by
  obtain ⟨h1, h2⟩ := puts_mem ms [] List.Pairwise.nil hd
  refine ⟨?_, h1⟩
  have hn1 : (putsL [] ms).Nodup := (sorted_distinct h1).imp fun h e => h (by rw [e])
  have hn2 : ms.Nodup := hd.imp fun h e => h (by rw [e])
  exact (List.perm_ext_iff_of_nodup hn1 hn2).2 fun x => by rw [h2 x]; simp
theorem moved_ex {t : List Ent} {frm to : ByteArray} (h : MvOK t frm to) : ∃ l : List Ent, l.Perm (movedPre t frm to) ∧ l.Pairwise fun a b => ¬ cmp b.p a.p < 0 := by
  obtain ⟨h1, h2⟩ := puts_sort _ h.distinct
  refine ⟨_, h1, h2.imp fun {a b} hab hc => ?_⟩
  exact ltE_asymm hab hc
theorem fate_any (y : Lay) (ls : List Lay) (m : Int) (pl : Option Addr) (cl : Nat) (w : World) (hUn : UnOK w y ls pl cl) (hm : w.cell? ⟨0, 0, none⟩ = some (.int .i64 m)) (ae : Int) (own' : List Ent)
    (h : (wrongU (y.es :: ls.map (·.es))).1 = 0 → ae = 0 → own'.length ≤ 80 → ls.length ≤ 4 ∧ ∃ t, mergeF (own' :: ls.map (·.es)) = (0, t)) :
    Fate w pl ls.length cl (chgErr (wrongU (y.es :: ls.map (·.es))).1 ae own'.length) (if chgErr (wrongU (y.es :: ls.map (·.es))).1 ae own'.length = 0 then own' else []) (if chgErr (wrongU (y.es :: ls.map (·.es))).1 ae own'.length = 0 then ls.map (·.es) else []) := by
  by_cases h0 : chgErr (wrongU (y.es :: ls.map (·.es))).1 ae own'.length = 0
  · obtain ⟨h1, h2, h3⟩ := chgErr_zero.1 h0
    obtain ⟨hl4, t, hmg⟩ := h h1 h2 h3
    obtain ⟨e1, _⟩ := union_right (by rw [List.length_cons, List.length_map]; omega) hmg
    rw [if_pos h0, if_pos h0]
    refine .inr ⟨h0, fun W y' lo' pl' cl' hB hU g1 g2 => ?_, fun W y' lo' pl' cl' hB hU g2 => ?_⟩
    · refine unionWrong_of W y'.ad y'.es.length y'.cap pl' lo'.length cl' 0 0 (seenU (own' :: ls.map (·.es))) (fun X hX => ?_)
      have hk := hU.kept hX
      have := merged_any y' lo' m pl' cl' X hk.lies hk.all hk.nil (held (Below.onto hB hX) hm)
      rw [List.map_cons, g1, g2, e1] at this
      rw [g1]
      exact this
    · have hk := hUn.kept hB
      exact sameUnion_any [] (ls.map (·.es)) none none 0 0 lo' ls pl' pl cl' cl W (Lies.nil _ _) (Lies.nil _ _) (by decide) hU.lies hk.lies (fun x hx => (hU.each x hx).1) (fun x hx => (hk.each x hx).1) g2 rfl (by rw [List.length_map]; omega)
  · rw [if_neg h0, if_neg h0]
    refine .inl ⟨h0, fun W y' lo' pl' cl' hB hU g1 g2 => ?_⟩
    have := sameUnion_any [] [] y'.ad none y'.cap 0 lo' [] pl' none cl' 0 W (g1 ▸ hU.up.lies) (Lies.nil _ _) (by decide) hU.lies (.inl rfl) (fun x hx => (hU.each x hx).1) (fun x hx => by simp at hx) g2 rfl (by simp)
    rw [g1]
    exact this
end Go.Proofs.YtampldoimpfjgaaGreatDoor
